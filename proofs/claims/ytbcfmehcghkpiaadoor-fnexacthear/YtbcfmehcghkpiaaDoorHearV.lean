/-
  The contracts of impl's reader: event; readEvent with what it defers. Mine, by template (wip/gen.py).
-/
import Derived.Test.YtbcfmehcghkpiaaDoorHearR
import Derived.Test.YtbcfmehcghkpiaaDoorHearO
import Derived.Defers
import Derived.Recover
import Derived.Laws.EntriesVeiled
namespace Go.Proofs.YtbcfmehcghkpiaaDoor
open Go.RowKit

/-- What is read behind the first word. -/
def tailI (j : Nat) (l : List UInt8) : Option Ev := if j = 1 then orderI l else if j = 3 then repI l else if j = 4 then backI l else ofI l

def setOp (j : Int) (E : Ev) : Ev := ⟨j, E.of_, E.holder, E.kind, E.secs, E.text⟩

theorem readI_tail (l : List UInt8) : readI l = if opOf (wordI l).1 = 0 then none else (tailI (opOf (wordI l).1).toNat (wordI l).2).map (setOp (opOf (wordI l).1)) := by
  unfold readI
  by_cases h0 : opOf (wordI l).1 = 0
  · rw [if_pos h0, if_pos h0]
  rw [if_neg h0, if_neg h0]
  unfold tailI
  by_cases h1 : opOf (wordI l).1 = 1
  · rw [if_pos h1, h1, show (if (1 : Int).toNat = 1 then orderI (wordI l).2 else if (1 : Int).toNat = 3 then repI (wordI l).2 else if (1 : Int).toNat = 4 then backI (wordI l).2 else ofI (wordI l).2) = orderI (wordI l).2 from if_pos rfl]
    unfold orderI
    by_cases hk : kindOfL (wordI (wordI (wordI l).2).2).1 = 0
    · rw [if_pos hk, if_pos hk]
      rfl
    · rw [if_neg hk, if_neg hk]
      cases secsI (wordI (wordI (wordI l).2).2).2 <;> rfl
  have hn : ∀ k : Nat, 0 < k → ¬ opOf (wordI l).1 = (k : Int) → ¬ (opOf (wordI l).1).toNat = k := fun k hk h e => h (by omega)
  rw [if_neg h1, if_neg (hn 1 (by omega) (by simpa using h1))]
  by_cases h3 : opOf (wordI l).1 = 3
  · rw [h3, if_pos (by decide)]
    unfold repI
    cases numI (wordI l).2 <;> rfl
  rw [if_neg (hn 3 (by omega) (by simpa using h3))]
  by_cases h4 : opOf (wordI l).1 = 4
  · rw [h4, if_pos (by decide)]
    unfold backI
    cases numI (wordI l).2 <;> rfl
  rw [if_neg (hn 4 (by omega) (by simpa using h4))]
  unfold ofI
  cases numI (wordI l).2 with
  | none => rfl
  | some x =>
    simp only [if_neg h3, if_neg h4]
    rfl

theorem rdF_enters (j : Nat) (args : Array Value) (w : World) : (callFunc (rdF j) args).run Tryd.prog w = .ok (.enter (rdF j) args) w := by
  unfold rdF
  split
  · exact enters_of Tryd.func42 (by kernel_rfl) rfl args w
  split
  · exact enters_of Tryd.func44 (by kernel_rfl) rfl args w
  split
  · exact enters_of Tryd.func45 (by kernel_rfl) rfl args w
  · exact enters_of Tryd.func43 (by kernel_rfl) rfl args w

theorem tail_any (j q : Nat) (s : ByteArray) (w : World) (hs : s.size ≤ 1048576) (hg : Gl w) (hq : 7 ≤ q) (h : RB w q s) :
    Calls Tryd.prog (rdF j) #[.pointer (some ⟨q, 0, none⟩)] w fun e w' => RetV e w' w.heap.size (tailI j (bl s)) ∧ Fr (fun x => x = q) w w' := by
  unfold rdF tailI
  by_cases h1 : j = 1
  · rw [if_pos h1, if_pos h1]
    exact order_any q s w hs hg hq h
  rw [if_neg h1, if_neg h1]
  by_cases h3 : j = 3
  · rw [if_pos h3, if_pos h3]
    exact repeated_any q s w (by omega) hg hq h
  rw [if_neg h3, if_neg h3]
  by_cases h4 : j = 4
  · rw [if_pos h4, if_pos h4]
    exact givenBack_any q s w (by omega) hg hq h
  rw [if_neg h4, if_neg h4]
  refine (numbered_any q s w (by omega) hg hq h).mono (fun e w' hr => ⟨?_, hr.2⟩)
  unfold ofI
  rcases hr.1 with ⟨v, r, h1, h2, -⟩ | ⟨h1, h2⟩
  · exact Or.inl ⟨_, ⟨0, v, ⟨#[]⟩, 0, [], ⟨#[]⟩⟩, by rw [h1], h2, evW_nil _ _ _ _ _ _ _⟩
  · exact Or.inr ⟨by rw [h1], h2⟩

/-- An event's box laid anew, field by field. -/
def put6 (W : World) (R : Nat) (a b c d e f : Value) : World := (((((W.setCell ⟨R, 0, none⟩ a).setCell ⟨R, 1, none⟩ b).setCell ⟨R, 2, none⟩ c).setCell ⟨R, 3, none⟩ d).setCell ⟨R, 4, none⟩ e).setCell ⟨R, 5, none⟩ f
theorem put6_fr (W : World) (R : Nat) (a b c d e f : Value) : Fr (fun x => x = R) W (put6 W R a b c d e f) := fr2 (fr2 (fr2 (fr2 (fr2 (fr2 (Fr.refl _ _))))))
theorem put6_box {W : World} {R : Nat} {a' b' c' d' e' f' : Value} {t : TypeId} (h : W.heap[R]? = some (.cells #[a', b', c', d', e', f'] t (0, 0))) (a b c d e f : Value) : (put6 W R a b c d e f).heap[R]? = some (.cells #[a, b, c, d, e, f] t (0, 0)) :=
  (box_set (box_set (box_set (box_set (box_set (box_set h _) _) _) _) _) _).trans rfl
theorem put6_size (W : World) (R : Nat) (a b c d e f : Value) : (put6 W R a b c d e f).heap.size = W.heap.size := by simp [put6]

theorem FWords.fr {S : Nat → Prop} {w w' : World} (h : FWords w) (hf : Fr S w w') (hS : ∀ x, S x → 7 ≤ x) : FWords w' := fun k hk => cell_fr (h k hk) hf (fun e => by
  have := hS _ e
  have h2 : (0 : Nat) < 7 := by decide
  have h3 : (⟨0, k.toNat, none⟩ : Addr).block = 0 := rfl
  rw [h3] at this
  omega)

set_option maxRecDepth 20000 in
set_option maxHeartbeats 8000000 in
theorem revent_any (q : Nat) (s : ByteArray) (w : World) (hs : s.size ≤ 1048576) (hg : Gl w) (hw : FWords w) (hq : 7 ≤ q) (h : RB w q s) :
    Calls Tryd.prog 25 #[.pointer (some ⟨q, 0, none⟩)] w fun e w' => RetV e w' w.heap.size (readI (bl s)) ∧ Fr (fun x => x = q) w w' := by
  have hql := h.lt
  rw [readI_tail]
  obtain ⟨j, hj⟩ : ∃ j, opOf (wordI (bl s)).1 = j := ⟨_, rfl⟩
  obtain ⟨r, hr⟩ : ∃ r, (wordI (bl s)).2 = r := ⟨_, rfl⟩
  have B1 := below1 w (.cells #[.int .i64 0, .int .i64 0, .string ⟨#[]⟩, .int .i64 0, .slice none 0 0, .string ⟨#[]⟩] 24)
  have F1 : Fr (fun _ => False) w (w.alloc (.cells #[.int .i64 0, .int .i64 0, .string ⟨#[]⟩, .int .i64 0, .slice none 0 0, .string ⟨#[]⟩] 24)) := Fr.of_below B1
  have HB1 : Hid (Gl (w.alloc (.cells #[.int .i64 0, .int .i64 0, .string ⟨#[]⟩, .int .i64 0, .slice none 0 0, .string ⟨#[]⟩] 24)) ∧ FWords (w.alloc (.cells #[.int .i64 0, .int .i64 0, .string ⟨#[]⟩, .int .i64 0, .slice none 0 0, .string ⟨#[]⟩] 24)) ∧ RB (w.alloc (.cells #[.int .i64 0, .int .i64 0, .string ⟨#[]⟩, .int .i64 0, .slice none 0 0, .string ⟨#[]⟩] 24)) q s ∧ (w.alloc (.cells #[.int .i64 0, .int .i64 0, .string ⟨#[]⟩, .int .i64 0, .slice none 0 0, .string ⟨#[]⟩] 24)).heap[w.heap.size]? = some (.cells #[.int .i64 0, .int .i64 0, .string ⟨#[]⟩, .int .i64 0, .slice none 0 0, .string ⟨#[]⟩] 24 (0, 0)) ∧ Fr (fun x => x = q) w (w.alloc (.cells #[.int .i64 0, .int .i64 0, .string ⟨#[]⟩, .int .i64 0, .slice none 0 0, .string ⟨#[]⟩] 24)) ∧ (w.alloc (.cells #[.int .i64 0, .int .i64 0, .string ⟨#[]⟩, .int .i64 0, .slice none 0 0, .string ⟨#[]⟩] 24)).heap.size = w.heap.size + 1) := ⟨hg.fr F1 (fun _ e => e.elim), hw.fr F1 (fun _ e => e.elim), h.fr F1 (fun e => e), Deep.blk_alloc_new _ _, Fr.of_below B1, by simp⟩
  have hrl : r.length ≤ s.size := by have := cut_snd_len (bl s) [32]; rw [bl_size] at this; rw [← hr]; exact this
  obtain ⟨l, hl⟩ : ∃ l, (wordI (bl s)).1 = l := ⟨_, rfl⟩
  rw [hj, hr]
  obtain ⟨X, hX⟩ : ∃ X, X = (if j = 0 then none else (tailI j.toNat r).map (setOp j)) := ⟨_, rfl⟩
  rw [← hX]
  have HX : Hid (X = (if j = 0 then none else (tailI j.toNat r).map (setOp j))) := hX
  rw [hl] at hj
  have HL : Hid ((wordI (bl s)).1 = l ∧ (wordI (bl s)).2 = r) := ⟨hl, hr⟩
  have HJ : Hid (opOf l = j) := hj
  clear hg hw h B1 F1 hl hr hj hX
  go_enter Tryd.func25, Tryd.ntmps25
  go_wp2_with fail
  refine (readings_any q _ HB1.out.2.1 (by rw [HB1.out.2.2.2.2.2]; omega)).mono ?_
  rintro e w2 ⟨b, rfl, hm, hb2⟩
  have F2 : Fr (fun _ => False) (w.alloc (.cells #[.int .i64 0, .int .i64 0, .string ⟨#[]⟩, .int .i64 0, .slice none 0 0, .string ⟨#[]⟩] 24)) w2 := Fr.of_below hb2
  have HB2 : Hid (Gl w2 ∧ RB w2 q s ∧ w2.heap[w.heap.size]? = some (.cells #[.int .i64 0, .int .i64 0, .string ⟨#[]⟩, .int .i64 0, .slice none 0 0, .string ⟨#[]⟩] 24 (0, 0)) ∧ Fr (fun x => x = q) w w2 ∧ MI w2 q b (fun _ => true) ∧ w.heap.size + 1 ≤ w2.heap.size) := ⟨HB1.out.1.fr F2 (fun _ e => e.elim), HB1.out.2.2.1.fr F2 (fun e => e), (hb2.block _ (by simp)).trans HB1.out.2.2.2.1, HB1.out.2.2.2.2.1.trans (Fr.of_below hb2), hm, by have := hb2.size; simp at this; omega⟩
  clear hm hb2 F2 HB1
  go_wp2_with fail
  refine (rword_any q s w2 (by omega) HB2.out.1 HB2.out.2.1).mono ?_
  rintro e w3 ⟨rfl, hb3, hf3⟩
  rw [HL.out.1]
  rw [HL.out.2] at hb3
  have hbne : ¬ b = q := by
    intro e
    subst e
    obtain ⟨es, ck, h1, -⟩ := HB2.out.2.2.2.2.1
    have := HB2.out.2.1
    unfold RB at this
    rw [h1] at this
    cases this
  have hM3 : MI w3 q b (fun _ => true) := by
    obtain ⟨es, ck, h1, h2⟩ := HB2.out.2.2.2.2.1
    exact ⟨es, ck, (hf3.block b (Array.getElem?_eq_some_iff.1 h1).1 hbne).trans h1, h2⟩
  have hlook := hM3.look (mkB l)
  rw [bl_mkB, HJ.out] at hlook
  have HB3 : Hid (Gl w3 ∧ RB w3 q (mkB r) ∧ w3.heap[w.heap.size]? = some (.cells #[.int .i64 0, .int .i64 0, .string ⟨#[]⟩, .int .i64 0, .slice none 0 0, .string ⟨#[]⟩] 24 (0, 0)) ∧ Fr (fun x => x = q) w w3 ∧ w.heap.size + 1 ≤ w3.heap.size) := ⟨HB2.out.1.fr hf3 (fun x e => by omega), hb3, (hf3.block _ (by have := HB2.out.2.2.2.2.2; omega) (by omega)).trans HB2.out.2.2.1, HB2.out.2.2.2.1.trans hf3, Nat.le_trans HB2.out.2.2.2.2.2 hf3.size⟩
  clear hM3 hb3 hf3 HB2 HL
  by_cases h0 : j = 0
  · rw [if_pos h0] at hlook
    have HX0 : Hid (X = none) := HX.out.trans (if_pos h0)
    clear h0 HJ HX
    go_wp2
    exact ⟨rfl, Or.inr ⟨HX0.out, rfl⟩, HB3.out.2.2.2.1.alloc _⟩
  rw [if_neg h0] at hlook
  have hj9 : ∃ jn : Nat, j = (jn : Int) ∧ j.toNat = jn := by
    rcases opOf_cases l with e | ⟨jn, j1, j9, e⟩
    · exact absurd (HJ.out.symm.trans e) h0
    · refine ⟨jn, ?_, ?_⟩
      · rw [← HJ.out, e]; exact opOf_word ⟨by omega, by omega⟩
      · rw [← HJ.out, e, opOf_word ⟨by omega, by omega⟩]; rfl
  obtain ⟨jn, rfl, hjn⟩ := hj9
  rw [hjn] at hlook
  have HX1 : Hid (X = (tailI jn r).map (setOp (jn : Int))) := by
    have := HX.out.trans (if_neg h0)
    rw [hjn] at this
    exact this
  have hlook2 : (Instr.lookup 62 (.map (some b)) (.string (mkB l)) true).run Tryd.prog w3 = .ok (.tuple #[.agg #[.int .i64 (jn : Int), .func (.func (rdF jn)) #[.pointer (some ⟨q, 0, none⟩)] #[]], .bool true]) w3 := hlook
  have hen := rdF_enters jn
  have hz3 := HB3.out.2.2.2.2
  clear hlook h0 hjn HJ HX
  go_wp2_with fail
  have F4 : Fr (fun _ => False) w3 (w3.alloc (.cells #[.int .i64 (jn : Int), .func (.func (rdF jn)) #[.pointer (some ⟨q, 0, none⟩)] #[]] 60)) := Fr.of_below (below1 _ _)
  have hql3 : q < w3.heap.size := HB3.out.2.1.lt
  refine (tail_any jn q (mkB r) _ (by rw [mkB_size]; omega) (HB3.out.1.fr F4 (fun _ e => e.elim)) hq (HB3.out.2.1.fr F4 (fun e => e))).mono ?_
  rintro e w5 ⟨hr5, hf5⟩
  rw [bl_mkB] at hr5
  have s4 : (w3.alloc (.cells #[.int .i64 (jn : Int), .func (.func (rdF jn)) #[.pointer (some ⟨q, 0, none⟩)] #[]] 60)).heap.size = w3.heap.size + 1 := by simp
  have x5 := (hf5.block w.heap.size (by rw [s4]; omega) (by omega)).trans ((Deep.blk_alloc_lt _ _ _ (by omega)).trans HB3.out.2.2.1)
  have y5 := (hf5.block w3.heap.size (by rw [s4]; omega) (by omega)).trans (Deep.blk_alloc_new _ _)
  have z5 : w3.heap.size + 1 ≤ w5.heap.size := by have := hf5.size; rw [s4] at this; exact this
  have HF5 : Hid (Fr (fun x => x = q) w w5) := HB3.out.2.2.2.1.trans ((Fr.of_below (below1 _ _)).trans hf5)
  clear hf5 F4
  rcases hr5 with ⟨v, E, hE, rfl, sv, rfl, hown⟩ | ⟨hE, rfl⟩
  · rw [s4] at hown
    obtain ⟨g, ad, c, rfl, -⟩ := ownL_of hown
    have HO : Hid (w5.ownsRow (w3.heap.size + 1) 3 1 (.slice ad E.secs.length c) E.secs.length (E.secs.map (Value.int .i64))) := hown
    have HX2 : Hid (X = some (setOp (jn : Int) E)) := by
      show X = _
      rw [HX1.out, hE]
      rfl
    obtain ⟨e0, e1, e2, e3, e4, e5⟩ := ev_cells x5
    have d0 : w5.cell? ⟨w3.heap.size, 0, none⟩ = some (.int .i64 (jn : Int)) := cell_of_box y5 rfl
    have g0 : w5.frozen? ⟨w.heap.size, 0, none⟩ = false := frozen_of_box x5
    have g1 : w5.frozen? ⟨w.heap.size, 1, none⟩ = false := frozen_of_box x5
    have g2 : w5.frozen? ⟨w.heap.size, 2, none⟩ = false := frozen_of_box x5
    have g3 : w5.frozen? ⟨w.heap.size, 3, none⟩ = false := frozen_of_box x5
    have g4 : w5.frozen? ⟨w.heap.size, 4, none⟩ = false := frozen_of_box x5
    have g5 : w5.frozen? ⟨w.heap.size, 5, none⟩ = false := frozen_of_box x5
    have za : w.heap.size < w5.heap.size := by omega
    have zb : w3.heap.size < w5.heap.size := by omega
    have zc : ¬ w5.heap.size = w.heap.size := by omega
    obtain ⟨Z, hZ⟩ : ∃ Z, Z = (put6 w5 w.heap.size (.int .i64 (jn : Int)) (.int .i64 E.of_) (.string E.holder) (.int .i64 E.kind) (.slice ad E.secs.length c) (.string E.text)).alloc (.cells #[.int .i64 (jn : Int), .int .i64 E.of_, .string E.holder, .int .i64 E.kind, .slice ad E.secs.length c, .string E.text] 24) := ⟨_, rfl⟩
    have hZ' : (((((((w5.setCell ⟨w.heap.size, 0, none⟩ (.int .i64 (jn : Int))).setCell ⟨w.heap.size, 1, none⟩ (.int .i64 E.of_)).setCell ⟨w.heap.size, 2, none⟩ (.string E.holder)).setCell ⟨w.heap.size, 3, none⟩ (.int .i64 E.kind)).setCell ⟨w.heap.size, 4, none⟩ (.slice ad E.secs.length c)).setCell ⟨w.heap.size, 5, none⟩ (.string E.text)).alloc (.cells #[.int .i64 (jn : Int), .int .i64 E.of_, .string E.holder, .int .i64 E.kind, .slice ad E.secs.length c, .string E.text] 24)) = Z := hZ.symm
    have zx : Z.heap[w.heap.size]? = some (.cells #[.int .i64 (jn : Int), .int .i64 E.of_, .string E.holder, .int .i64 E.kind, .slice ad E.secs.length c, .string E.text] 24 (0, 0)) := by
      rw [hZ]
      exact (Deep.blk_alloc_lt _ _ _ (by rw [put6_size]; exact za)).trans (put6_box x5 _ _ _ _ _ _)
    have PZ : Fr (fun x => x = w.heap.size) w5 Z := by
      rw [hZ]
      exact (put6_fr _ _ _ _ _ _ _ _).alloc _
    clear hown hE x5 y5 HX1 hlook2 hen s4 hZ
    go_wp2
    try rw [hZ']
    clear hZ' e0 e1 e2 e3 e4 e5 g0 g1 g2 g3 g4 g5 d0
    obtain ⟨e0, e1, e2, e3, e4, e5⟩ := ev_cells zx
    refine bodyPost_ret (v := .agg #[.int .i64 (jn : Int), .int .i64 E.of_, .string E.holder, .int .i64 E.kind, .slice ad E.secs.length c, .string E.text]) (by simp [results, Tryd.results25, go_sem, e0, e1, e2, e3, e4, e5]) rfl ?_
    refine ⟨Or.inl ⟨_, setOp (jn : Int) E, HX2.out, rfl, _, rfl, owns_lower (owns_of_block HO.out (fun g hg => PZ.block g (owns_lt HO.out hg).2 (by have := owns_lt HO.out hg; omega))) (by omega)⟩, ?_⟩
    exact fr_cut2 ((HF5.out.mono (fun _ e => Or.inl e)).trans (PZ.mono (fun x e => Or.inr (by omega))))
  · have HX2 : Hid (X = none) := by
      show X = _
      rw [HX1.out, hE]
      rfl
    clear hE HX1 hlook2 hen x5 y5
    go_wp2
    exact ⟨rfl, Or.inr ⟨HX2.out, rfl⟩, HF5.out⟩

end Go.Proofs.YtbcfmehcghkpiaaDoor
