/-
  The contracts of impl's readEvent, with what it defers, and Hear. Mine, by template (wip/gen.py).
-/
import Derived.Test.YtbcfmehcghkpiaaDoorHearV
namespace Go.Proofs.YtbcfmehcghkpiaaDoor
open Go.RowKit

theorem ta_noLine (w : World) : (Instr.typeAssert (.iface 49 (.agg #[])) 20 49 true).run Tryd.prog w = .ok (.tuple #[.agg #[], .bool true]) w := by kernel_rfl

theorem catch_idle (p q : Addr) (w : World) :
    CallsD Tryd.prog 24 #[.pointer (some p), .pointer (some q)] .returning w fun e u' w' => e = .returned (.tuple #[]) ∧ u' = .returning ∧ w' = w := by
  refine callsD_of_wpS Tryd.func24 rfl fun c₀ cs hu => ?_
  apply wpS_seq
  apply wpS_region
  simp [wpOpsS, go_sem, recoverD, hu, Tryd.ntmps24, Exit.thenS]
  refine wpS_of_wp ?_
  go_wp2
  cases c₀
  simp_all [bodyPostS, results, Tryd.results24]

theorem catch_noLine (p q : Nat) (v0 v1 v2 v3 v4 v5 b : Value) (w : World) (hp : w.heap[p]? = some (.cells #[v0, v1, v2, v3, v4, v5] 24 (0, 0))) (hq : w.heap[q]? = some (.cells #[b] 4 (0, 0))) (hne : ¬ p = q) :
    CallsD Tryd.prog 24 #[.pointer (some ⟨p, 0, none⟩), .pointer (some ⟨q, 0, none⟩)] (.panicking [{ v := .iface 49 (.agg #[]), recovered := false }]) w fun e u' w' =>
      e = .returned (.tuple #[]) ∧ u' = .panicking [{ v := .iface 49 (.agg #[]), recovered := true }] ∧ w'.heap[p]? = some (.cells #[.int .i64 0, .int .i64 0, .string ⟨#[]⟩, .int .i64 0, .slice none 0 0, .string ⟨#[]⟩] 24 (0, 0)) ∧ w'.heap[q]? = some (.cells #[.bool false] 4 (0, 0)) ∧ Fr (fun x => x = p ∨ x = q) w w' := by
  have hta := ta_noLine
  obtain ⟨e0, e1, e2, e3, e4, e5⟩ := ev_cells hp
  have g0 : w.frozen? ⟨p, 0, none⟩ = false := frozen_of_box hp
  have g1 : w.frozen? ⟨p, 1, none⟩ = false := frozen_of_box hp
  have g2 : w.frozen? ⟨p, 2, none⟩ = false := frozen_of_box hp
  have g3 : w.frozen? ⟨p, 3, none⟩ = false := frozen_of_box hp
  have g4 : w.frozen? ⟨p, 4, none⟩ = false := frozen_of_box hp
  have g5 : w.frozen? ⟨p, 5, none⟩ = false := frozen_of_box hp
  have b0 : w.cell? ⟨q, 0, none⟩ = some b := cell_of_box hq rfl
  have k0 : w.frozen? ⟨q, 0, none⟩ = false := frozen_of_box hq
  have zp : p < w.heap.size := (Array.getElem?_eq_some_iff.1 hp).1
  have zq : q < w.heap.size := (Array.getElem?_eq_some_iff.1 hq).1
  have HP : Hid (w.heap[p]? = some (.cells #[v0, v1, v2, v3, v4, v5] 24 (0, 0)) ∧ w.heap[q]? = some (.cells #[b] 4 (0, 0))) := ⟨hp, hq⟩
  clear hp hq
  obtain ⟨Z, hZ⟩ : ∃ Z, Z = ((put6 w p (.int .i64 0) (.int .i64 0) (.string ⟨#[]⟩) (.int .i64 0) (.slice none 0 0) (.string ⟨#[]⟩)).setCell ⟨q, 0, none⟩ (.bool false)).alloc (.cells #[] 49) := ⟨_, rfl⟩
  have hZ' : ((((((((w.setCell ⟨p, 0, none⟩ (.int .i64 0)).setCell ⟨p, 1, none⟩ (.int .i64 0)).setCell ⟨p, 2, none⟩ (.string ⟨#[]⟩)).setCell ⟨p, 3, none⟩ (.int .i64 0)).setCell ⟨p, 4, none⟩ (.slice none 0 0)).setCell ⟨p, 5, none⟩ (.string ⟨#[]⟩)).setCell ⟨q, 0, none⟩ (.bool false)).alloc (.cells #[] 49)) = Z := hZ.symm
  have s6 := put6_size w p (.int .i64 0) (.int .i64 0) (.string ⟨#[]⟩) (.int .i64 0) (.slice none 0 0) (.string ⟨#[]⟩)
  have p6 := put6_box HP.out.1 (.int .i64 0) (.int .i64 0) (.string ⟨#[]⟩) (.int .i64 0) (.slice none 0 0) (.string ⟨#[]⟩)
  have f6 := put6_fr w p (.int .i64 0) (.int .i64 0) (.string ⟨#[]⟩) (.int .i64 0) (.slice none 0 0) (.string ⟨#[]⟩)
  have q6 := (f6.block q zq (fun e => hne e.symm)).trans HP.out.2
  have HZ : Hid (Z.heap[p]? = some (.cells #[.int .i64 0, .int .i64 0, .string ⟨#[]⟩, .int .i64 0, .slice none 0 0, .string ⟨#[]⟩] 24 (0, 0)) ∧ Z.heap[q]? = some (.cells #[.bool false] 4 (0, 0)) ∧ Fr (fun x => x = p ∨ x = q) w Z) := by
    rw [hZ]
    generalize put6 w p (.int .i64 0) (.int .i64 0) (.string ⟨#[]⟩) (.int .i64 0) (.slice none 0 0) (.string ⟨#[]⟩) = Y at s6 p6 f6 q6
    refine ⟨(Deep.blk_alloc_lt _ _ _ (by simp; omega)).trans ((Deep.blk_setCell_other _ _ _ _ hne).trans p6), (Deep.blk_alloc_lt _ _ _ (by simp; omega)).trans ((box_set q6 _).trans rfl), ?_⟩
    exact (Fr.setCell (S := fun x => x = p ∨ x = q) (f6.mono (fun x e => Or.inl e)) (p := ⟨q, 0, none⟩) (Or.inr rfl) _).alloc _
  clear hZ s6 p6 f6 q6
  refine callsD_of_wpS Tryd.func24 rfl fun c₀ cs hu => ?_
  apply wpS_seq
  apply wpS_region
  simp [wpOpsS, go_sem, recoverD, hu, Tryd.ntmps24, Exit.thenS]
  refine wpS_of_wp ?_
  go_wp2
  try rw [hZ']
  clear hZ' e0 e1 e2 e3 e4 e5 g0 g1 g2 g3 g4 g5 b0 k0
  simp [bodyPostS, results, Tryd.results24]
  exact HZ.out

/-- What readEvent answers. -/
def RetRE (e : Ending) (w' : World) (lo : Nat) (x : Option Ev) : Prop := (∃ v E, x = some E ∧ e = .returned (.tuple #[v, .bool true]) ∧ EvW w' lo v E) ∨ (x = none ∧ e = .returned (.tuple #[.agg #[.int .i64 0, .int .i64 0, .string ⟨#[]⟩, .int .i64 0, .slice none 0 0, .string ⟨#[]⟩], .bool false]))

set_option maxRecDepth 20000 in
set_option maxHeartbeats 8000000 in
theorem readEvent_any (s : ByteArray) (w : World) (hs : s.size ≤ 1048576) (hg : Gl w) (hw : FWords w) (hG : 7 ≤ w.heap.size) :
    Calls Tryd.prog 14 #[.string s] w fun e w' => RetRE e w' w.heap.size (readI (bl s)) ∧ Below w.heap.size w w' := by
  have hmf : ∀ (fn : Fn) (first cap : Array Value) (w : World), (Instr.makeFunc fn first cap).run Tryd.prog w = .ok (.func fn first cap) w := fun _ _ _ _ => rfl
  obtain ⟨X, hX⟩ : ∃ X, readI (bl s) = X := ⟨_, rfl⟩
  rw [hX]
  obtain ⟨W, hW⟩ : ∃ W, W = ((w.alloc (.cells #[.int .i64 0, .int .i64 0, .string ⟨#[]⟩, .int .i64 0, .slice none 0 0, .string ⟨#[]⟩] 24)).alloc (.cells #[.bool false] 4)).alloc (.cells #[.string s] 52) := ⟨_, rfl⟩
  have HB : Hid (W.heap[w.heap.size]? = some (.cells #[.int .i64 0, .int .i64 0, .string ⟨#[]⟩, .int .i64 0, .slice none 0 0, .string ⟨#[]⟩] 24 (0, 0)) ∧ W.heap[w.heap.size + 1]? = some (.cells #[.bool false] 4 (0, 0)) ∧ RB W (w.heap.size + 2) s ∧ Below w.heap.size w W ∧ W.heap.size = w.heap.size + 3) := by
    rw [hW]
    refine ⟨?_, ?_, ?_, ((below2 w _ _).trans ((Below.refl _ _).alloc (by simp; omega) _)), by simp⟩
    · exact (Deep.blk_alloc_lt _ _ _ (by simp; omega)).trans ((Deep.blk_alloc_lt _ _ _ (by simp)).trans (Deep.blk_alloc_new _ _))
    · refine (Deep.blk_alloc_lt _ _ _ (by simp)).trans ?_
      have := Deep.blk_alloc_new (w.alloc (.cells #[.int .i64 0, .int .i64 0, .string ⟨#[]⟩, .int .i64 0, .slice none 0 0, .string ⟨#[]⟩] 24)) (.cells #[.bool false] 4)
      simpa using this
    · have h2 : ((w.alloc (.cells #[.int .i64 0, .int .i64 0, .string ⟨#[]⟩, .int .i64 0, .slice none 0 0, .string ⟨#[]⟩] 24)).alloc (.cells #[.bool false] 4)).heap.size = w.heap.size + 2 := by simp
      have := Deep.blk_alloc_new ((w.alloc (.cells #[.int .i64 0, .int .i64 0, .string ⟨#[]⟩, .int .i64 0, .slice none 0 0, .string ⟨#[]⟩] 24)).alloc (.cells #[.bool false] 4)) (.cells #[.string s] 52)
      rw [h2] at this
      exact this
  have FB : Fr (fun _ => False) w W := Fr.of_below HB.out.2.2.2.1
  have HV : Hid (Calls Tryd.prog 25 #[.pointer (some ⟨w.heap.size + 2, 0, none⟩)] W fun e w' => RetV e w' W.heap.size X ∧ Fr (fun x => x = w.heap.size + 2) W w') := by
    have := revent_any (w.heap.size + 2) s W hs (hg.fr FB (fun _ e => e.elim)) (hw.fr FB (fun _ e => e.elim)) (by omega) HB.out.2.2.1
    rw [hX] at this
    exact this
  have hW' : (((w.alloc (.cells #[.int .i64 0, .int .i64 0, .string ⟨#[]⟩, .int .i64 0, .slice none 0 0, .string ⟨#[]⟩] 24)).alloc (.cells #[.bool false] 4)).alloc (.cells #[.string s] 52)) = W := hW.symm
  clear hX hW FB hg hw
  go_enter_defers Tryd.func14, Tryd.ntmps14
  go_wp2_with fail
  try rw [hW']
  clear hW'
  refine HV.out.mono ?_
  rintro e w5 ⟨hr5, hf5⟩
  have x5 := (hf5.block w.heap.size (by have := HB.out.2.2.2.2; omega) (by omega)).trans HB.out.1
  have y5 := (hf5.block (w.heap.size + 1) (by have := HB.out.2.2.2.2; omega) (by omega)).trans HB.out.2.1
  have z5 : w.heap.size + 3 ≤ w5.heap.size := by have := hf5.size; have := HB.out.2.2.2.2; omega
  have HF : Hid (Below w.heap.size w w5) := HB.out.2.2.2.1.trans (hf5.below (B := w.heap.size) (by have := HB.out.2.2.2.2; omega) (fun i e => by omega))
  have hlo : w.heap.size + 3 = W.heap.size := HB.out.2.2.2.2.symm
  clear hf5 HV
  rcases hr5 with ⟨v, E, hE, rfl, sv, rfl, hown⟩ | ⟨hE, rfl⟩
  · rw [← hlo] at hown
    obtain ⟨g, ad, c, rfl, -⟩ := ownL_of hown
    have HO : Hid (w5.ownsRow (w.heap.size + 3) 3 1 (.slice ad E.secs.length c) E.secs.length (E.secs.map (Value.int .i64))) := hown
    have HX : Hid (X = some E) := hE
    obtain ⟨e0, e1, e2, e3, e4, e5⟩ := ev_cells x5
    have g0 : w5.frozen? ⟨w.heap.size, 0, none⟩ = false := frozen_of_box x5
    have g1 : w5.frozen? ⟨w.heap.size, 1, none⟩ = false := frozen_of_box x5
    have g2 : w5.frozen? ⟨w.heap.size, 2, none⟩ = false := frozen_of_box x5
    have g3 : w5.frozen? ⟨w.heap.size, 3, none⟩ = false := frozen_of_box x5
    have g4 : w5.frozen? ⟨w.heap.size, 4, none⟩ = false := frozen_of_box x5
    have g5 : w5.frozen? ⟨w.heap.size, 5, none⟩ = false := frozen_of_box x5
    have b0 : w5.cell? ⟨w.heap.size + 1, 0, none⟩ = some (.bool false) := cell_of_box y5 rfl
    have k0 : w5.frozen? ⟨w.heap.size + 1, 0, none⟩ = false := frozen_of_box y5
    obtain ⟨Z, hZ⟩ : ∃ Z, Z = (put6 w5 w.heap.size (.int .i64 E.op) (.int .i64 E.of_) (.string E.holder) (.int .i64 E.kind) (.slice ad E.secs.length c) (.string E.text)).setCell ⟨w.heap.size + 1, 0, none⟩ (.bool true) := ⟨_, rfl⟩
    have hZ' : (((((((w5.setCell ⟨w.heap.size, 0, none⟩ (.int .i64 E.op)).setCell ⟨w.heap.size, 1, none⟩ (.int .i64 E.of_)).setCell ⟨w.heap.size, 2, none⟩ (.string E.holder)).setCell ⟨w.heap.size, 3, none⟩ (.int .i64 E.kind)).setCell ⟨w.heap.size, 4, none⟩ (.slice ad E.secs.length c)).setCell ⟨w.heap.size, 5, none⟩ (.string E.text)).setCell ⟨w.heap.size + 1, 0, none⟩ (.bool true)) = Z := hZ.symm
    have p6 := put6_box x5 (.int .i64 E.op) (.int .i64 E.of_) (.string E.holder) (.int .i64 E.kind) (.slice ad E.secs.length c) (.string E.text)
    have f6 := put6_fr w5 w.heap.size (.int .i64 E.op) (.int .i64 E.of_) (.string E.holder) (.int .i64 E.kind) (.slice ad E.secs.length c) (.string E.text)
    have q6 := (f6.block (w.heap.size + 1) (by omega) (by show ¬ w.heap.size + 1 = w.heap.size; omega)).trans y5
    have HZ : Hid (Z.heap[w.heap.size]? = some (.cells #[.int .i64 E.op, .int .i64 E.of_, .string E.holder, .int .i64 E.kind, .slice ad E.secs.length c, .string E.text] 24 (0, 0)) ∧ Z.heap[w.heap.size + 1]? = some (.cells #[.bool true] 4 (0, 0)) ∧ Fr (fun x => x = w.heap.size ∨ x = w.heap.size + 1) w5 Z) := by
      rw [hZ]
      generalize put6 w5 w.heap.size (.int .i64 E.op) (.int .i64 E.of_) (.string E.holder) (.int .i64 E.kind) (.slice ad E.secs.length c) (.string E.text) = Y at p6 f6 q6
      exact ⟨(Deep.blk_setCell_other _ _ _ _ (by show ¬ w.heap.size = w.heap.size + 1; omega)).trans p6, (box_set q6 _).trans rfl, Fr.setCell (S := fun x => x = w.heap.size ∨ x = w.heap.size + 1) (f6.mono (fun x e => Or.inl e)) (p := ⟨w.heap.size + 1, 0, none⟩) (Or.inr rfl) _⟩
    clear hown hE x5 y5 hZ p6 f6 q6
    go_wp2
    try rw [hZ']
    clear hZ' e0 e1 e2 e3 e4 e5 g0 g1 g2 g3 g4 g5 b0 k0
    refine leaves_cons (f := 24) (args := #[.pointer (some ⟨w.heap.size, 0, none⟩), .pointer (some ⟨w.heap.size + 1, 0, none⟩)]) (by simp) (by simp [go_sem]) ?_
    refine (catch_idle ⟨w.heap.size, 0, none⟩ ⟨w.heap.size + 1, 0, none⟩ _).mono ?_
    rintro e u' w'' ⟨rfl, rfl, rfl⟩
    obtain ⟨e0, e1, e2, e3, e4, e5⟩ := ev_cells HZ.out.1
    have b0 : w''.cell? ⟨w.heap.size + 1, 0, none⟩ = some (.bool true) := cell_of_box HZ.out.2.1 rfl
    simp [Leaves, settle, results, Tryd.results14, go_sem, e0, e1, e2, e3, e4, e5, b0]
    exact ⟨Or.inl ⟨_, E, HX.out, rfl, _, rfl, owns_lower (owns_of_block HO.out (fun g hg => HZ.out.2.2.block g (owns_lt HO.out hg).2 (by have := owns_lt HO.out hg; omega))) (by omega)⟩, HF.out.trans (HZ.out.2.2.below (B := w.heap.size) (by omega) (fun i e => by omega))⟩
  · have HX : Hid (X = none) := hE
    have HXY : Hid (w5.heap[w.heap.size]? = some (.cells #[.int .i64 0, .int .i64 0, .string ⟨#[]⟩, .int .i64 0, .slice none 0 0, .string ⟨#[]⟩] 24 (0, 0)) ∧ w5.heap[w.heap.size + 1]? = some (.cells #[.bool false] 4 (0, 0))) := ⟨x5, y5⟩
    clear hE x5 y5
    go_wp2
    refine leaves_cons (f := 24) (args := #[.pointer (some ⟨w.heap.size, 0, none⟩), .pointer (some ⟨w.heap.size + 1, 0, none⟩)]) (by simp) (by simp [go_sem]) ?_
    refine (catch_noLine w.heap.size (w.heap.size + 1) _ _ _ _ _ _ _ w5 HXY.out.1 HXY.out.2 (by omega)).mono ?_
    rintro e u' w'' ⟨rfl, rfl, h1, h2, h3⟩
    obtain ⟨e0, e1, e2, e3, e4, e5⟩ := ev_cells h1
    have b0 : w''.cell? ⟨w.heap.size + 1, 0, none⟩ = some (.bool false) := cell_of_box h2 rfl
    simp [Leaves, settle, results, Tryd.results14, go_sem, e0, e1, e2, e3, e4, e5, b0]
    exact ⟨Or.inr ⟨HX.out, rfl⟩, HF.out.trans (h3.below (B := w.heap.size) (by omega) (fun i e => by omega))⟩

end Go.Proofs.YtbcfmehcghkpiaaDoor
