/-
  The contract of impl.Hear. Mine, by template (wip/gen.py).
-/
import Derived.Test.YtbcfmehcghkpiaaDoorHearW
namespace Go.Proofs.YtbcfmehcghkpiaaDoor
open Go.RowKit

theorem evW_at {w : World} {lo : Nat} {v : Value} {E : Ev} (h : EvW w lo v E) : EvAt w v E := by
  obtain ⟨sv, rfl, hown⟩ := h
  obtain ⟨g, ad, c, rfl, hp⟩ := ownL_of hown
  exact ⟨ad, c, rfl, g, 0, fun p => (hp p).1, fun i hi => by rw [Nat.zero_add]; exact (hp (by omega)).2.2.cell hi⟩
theorem EvW.below {w w' : World} {lo : Nat} {v : Value} {E : Ev} (h : EvW w lo v E) (hb : Below w.heap.size w w') : EvW w' lo v E := by
  obtain ⟨sv, rfl, hown⟩ := h
  exact ⟨sv, rfl, ownsRow_below hown hb⟩

/-- What Hear answers: the event whose line this is, or nothing. -/
def RetH (e : Ending) (w' : World) (lo : Nat) (l : List UInt8) : Prop :=
  (∃ E ad c, LineOk E ∧ lineT E = l ∧ e = .returned (.agg #[.bool true, .int .i64 E.op, .int .i64 E.of_, .string E.holder, .int .i64 E.kind, .slice ad E.secs.length c, .string E.text]) ∧ w'.ownsRow lo 3 1 (.slice ad E.secs.length c) E.secs.length (E.secs.map (Value.int .i64))) ∨
  ((∀ E, LineOk E → lineT E ≠ l) ∧ e = .returned (.agg #[.bool false, .int .i64 0, .int .i64 0, .string ⟨#[]⟩, .int .i64 0, .slice none 0 0, .string ⟨#[]⟩]))

theorem secsI_len (n : Nat) : ∀ (l : List UInt8) (L : List Int), l.length ≤ n → secsI l = some L → L.length ≤ l.length := by
  induction n with
  | zero =>
    intro l L h e
    obtain rfl : l = [] := List.length_eq_zero_iff.1 (by omega)
    rw [secsI_nil] at e
    cases e
    simp
  | succ n ih =>
    intro l L h e
    by_cases hne : l = []
    · subst hne
      rw [secsI_nil] at e
      cases e
      simp
    cases hn : numI l with
    | none => rw [secsI_none hne hn] at e; cases e
    | some x =>
      obtain ⟨v, r⟩ := x
      have hl := numI_len hne hn
      rw [secsI_some hne hn] at e
      cases hs : secsI r with
      | none => rw [hs] at e; cases e
      | some L' =>
        rw [hs] at e
        have := ih r L' (by omega) hs
        simp only [Option.map_some, Option.some.injEq] at e
        rw [← e]
        simp only [List.length_cons]
        omega

theorem numI_le {l r : List UInt8} {v : Int} (h : numI l = some (v, r)) : r.length ≤ l.length := by
  unfold numI at h
  split at h
  · simp only [Option.some.injEq, Prod.mk.injEq] at h
    rw [← h.2]
    exact cut_snd_len l [32]
  · cases h

/-- What was read is no longer than the line. -/
theorem readI_bound {l : List UInt8} {E : Ev} (h : readI l = some E) : E.holder.size ≤ l.length ∧ E.text.size ≤ l.length ∧ E.secs.length ≤ l.length := by
  have a1 : (wordI l).2.length ≤ l.length := cut_snd_len l [32]
  have ez : (⟨#[]⟩ : ByteArray).size = 0 := rfl
  unfold readI at h
  split at h
  · cases h
  split at h
  · split at h
    · cases h
    have a2 : (wordI (wordI l).2).1.length ≤ (wordI l).2.length := cut_fst_len _ [32]
    have a3 : (wordI (wordI l).2).2.length ≤ (wordI l).2.length := cut_snd_len _ [32]
    have a4 : (wordI (wordI (wordI l).2).2).2.length ≤ (wordI (wordI l).2).2.length := cut_snd_len _ [32]
    cases hs : secsI (wordI (wordI (wordI l).2).2).2 with
    | none => rw [hs] at h; cases h
    | some L =>
      rw [hs] at h
      have := secsI_len _ _ L (Nat.le_refl _) hs
      simp only [Option.map_some, Option.some.injEq] at h
      rw [← h]
      have e1 : (⟨(wordI (wordI l).2).1.toArray⟩ : ByteArray).size = (wordI (wordI l).2).1.length := mkB_size _
      refine ⟨?_, ?_, ?_⟩
      · show (⟨(wordI (wordI l).2).1.toArray⟩ : ByteArray).size ≤ _; rw [e1]; omega
      · show (⟨#[]⟩ : ByteArray).size ≤ _; omega
      · show L.length ≤ _; omega
  · cases hn : numI (wordI l).2 with
    | none => rw [hn] at h; cases h
    | some x =>
      obtain ⟨v, r⟩ := x
      rw [hn] at h
      have hr := numI_le hn
      have a2 : (wordI r).1.length ≤ r.length := cut_fst_len _ [32]
      have a3 := cut_fst_len r [58, 32]
      have a4 := cut_snd_len r [58, 32]
      have e1 : (⟨(wordI r).1.toArray⟩ : ByteArray).size = (wordI r).1.length := mkB_size _
      have e2 : (⟨(Lib.cut r [58, 32]).1.toArray⟩ : ByteArray).size = (Lib.cut r [58, 32]).1.length := mkB_size _
      have e3 : (⟨(Lib.cut r [58, 32]).2.1.toArray⟩ : ByteArray).size = (Lib.cut r [58, 32]).2.1.length := mkB_size _
      simp only at h
      split at h
      · simp only [Option.some.injEq] at h
        rw [← h]
        exact ⟨by show (⟨(Lib.cut r [58, 32]).1.toArray⟩ : ByteArray).size ≤ _; rw [e2]; omega, by show (⟨(Lib.cut r [58, 32]).2.1.toArray⟩ : ByteArray).size ≤ _; rw [e3]; omega, Nat.zero_le _⟩
      split at h
      · simp only [Option.some.injEq] at h
        rw [← h]
        exact ⟨by show (⟨(wordI r).1.toArray⟩ : ByteArray).size ≤ _; rw [e1]; omega, Nat.zero_le _, Nat.zero_le _⟩
      · simp only [Option.some.injEq] at h
        rw [← h]
        exact ⟨Nat.zero_le _, Nat.zero_le _, Nat.zero_le _⟩

theorem readI_nil : readI [] = none := by decide

set_option maxHeartbeats 2000000 in
theorem clone_any (s : ByteArray) (w : World) (hs : s.size ≤ 1048576) : Calls Tryd.prog 15 #[.string s] w fun e w' => e = .returned (.string s) ∧ Below w.heap.size w w' := by
  go_enter Tryd.func15, Tryd.ntmps15
  go_wp2_with fail
  refine (Tryd.stringslite_Clone s _ (by omega)).mono ?_
  rintro e w1 ⟨rfl, hb⟩
  have HB : Hid (Below w.heap.size w w1) := hb
  clear hb
  go_wp2
  go_ret
  exact ⟨rfl, HB.out⟩

theorem tab_fr {w w' : World} (h : Lib.TabIs Tryd.prog w "internal/strconv.uint64pow10" .u64 Lib.pow10Tab) (hb : Below w.heap.size w w') : Lib.TabIs Tryd.prog w' "internal/strconv.uint64pow10" .u64 Lib.pow10Tab := tab_below h hb

/-- What was heard, laid field by field. -/
def put7 (W : World) (R : Nat) (z a b c d e f : Value) : World := ((((((W.setCell ⟨R, 0, none⟩ z).setCell ⟨R, 1, none⟩ a).setCell ⟨R, 2, none⟩ b).setCell ⟨R, 3, none⟩ c).setCell ⟨R, 4, none⟩ d).setCell ⟨R, 5, none⟩ e).setCell ⟨R, 6, none⟩ f
theorem put7_fr (W : World) (R : Nat) (z a b c d e f : Value) : Fr (fun x => x = R) W (put7 W R z a b c d e f) := fr2 (fr2 (fr2 (fr2 (fr2 (fr2 (fr2 (Fr.refl _ _)))))))
theorem put7_box {W : World} {R : Nat} {z' a' b' c' d' e' f' : Value} {t : TypeId} (h : W.heap[R]? = some (.cells #[z', a', b', c', d', e', f'] t (0, 0))) (z a b c d e f : Value) : (put7 W R z a b c d e f).heap[R]? = some (.cells #[z, a, b, c, d, e, f] t (0, 0)) := by
  have h1 : (W.setCell ⟨R, 0, none⟩ z).heap[R]? = some (.cells #[z, a', b', c', d', e', f'] t (0, 0)) := (box_set h _).trans rfl
  have h2 : ((W.setCell ⟨R, 0, none⟩ z).setCell ⟨R, 1, none⟩ a).heap[R]? = some (.cells #[z, a, b', c', d', e', f'] t (0, 0)) := (box_set h1 _).trans rfl
  have h3 := (box_set (i := 2) h2 b).trans (show _ = some (Obj.cells #[z, a, b, c', d', e', f'] t (0, 0)) from rfl)
  have h4 := (box_set (i := 3) h3 c).trans (show _ = some (Obj.cells #[z, a, b, c, d', e', f'] t (0, 0)) from rfl)
  have h5 := (box_set (i := 4) h4 d).trans (show _ = some (Obj.cells #[z, a, b, c, d, e', f'] t (0, 0)) from rfl)
  have h6 := (box_set (i := 5) h5 e).trans (show _ = some (Obj.cells #[z, a, b, c, d, e, f'] t (0, 0)) from rfl)
  exact (box_set (i := 6) h6 f).trans (show _ = some (Obj.cells #[z, a, b, c, d, e, f] t (0, 0)) from rfl)

set_option maxRecDepth 20000 in
set_option maxHeartbeats 8000000 in
theorem implHear_any (s : ByteArray) (w : World) (hs : s.size ≤ 1048576) (hg : Gl w) (hw : FWords w) (hT : Lib.TabIs Tryd.prog w "internal/strconv.uint64pow10" .u64 Lib.pow10Tab) (hG : 7 ≤ w.heap.size) :
    Calls Tryd.prog 5 #[.string s] w fun e w' => RetH e w' w.heap.size (bl s) ∧ Below w.heap.size w w' := by
  have HG : Hid (Gl w ∧ FWords w ∧ Lib.TabIs Tryd.prog w "internal/strconv.uint64pow10" .u64 Lib.pow10Tab) := ⟨hg, hw, hT⟩
  clear hg hw hT
  have B1 := below1 w (.cells #[.bool false, .int .i64 0, .int .i64 0, .string ⟨#[]⟩, .int .i64 0, .slice none 0 0, .string ⟨#[]⟩] 26)
  have x1 : (w.alloc (.cells #[.bool false, .int .i64 0, .int .i64 0, .string ⟨#[]⟩, .int .i64 0, .slice none 0 0, .string ⟨#[]⟩] 26)).heap[w.heap.size]? = some (.cells #[.bool false, .int .i64 0, .int .i64 0, .string ⟨#[]⟩, .int .i64 0, .slice none 0 0, .string ⟨#[]⟩] 26 (0, 0)) := Deep.blk_alloc_new _ _
  have s1 : (w.alloc (.cells #[.bool false, .int .i64 0, .int .i64 0, .string ⟨#[]⟩, .int .i64 0, .slice none 0 0, .string ⟨#[]⟩] 26)).heap.size = w.heap.size + 1 := by simp
  have HB1 : Hid (Below w.heap.size w (w.alloc (.cells #[.bool false, .int .i64 0, .int .i64 0, .string ⟨#[]⟩, .int .i64 0, .slice none 0 0, .string ⟨#[]⟩] 26)) ∧ (w.alloc (.cells #[.bool false, .int .i64 0, .int .i64 0, .string ⟨#[]⟩, .int .i64 0, .slice none 0 0, .string ⟨#[]⟩] 26)).heap[w.heap.size]? = some (.cells #[.bool false, .int .i64 0, .int .i64 0, .string ⟨#[]⟩, .int .i64 0, .slice none 0 0, .string ⟨#[]⟩] 26 (0, 0)) ∧ (w.alloc (.cells #[.bool false, .int .i64 0, .int .i64 0, .string ⟨#[]⟩, .int .i64 0, .slice none 0 0, .string ⟨#[]⟩] 26)).heap.size = w.heap.size + 1) := ⟨B1, x1, s1⟩
  clear B1 x1 s1
  go_enter Tryd.func5, Tryd.ntmps5
  go_wp2_with fail
  refine (clone_any s _ hs).mono ?_
  rintro e w2 ⟨rfl, hb2⟩
  have HB2 : Hid (Below w.heap.size w w2 ∧ w2.heap[w.heap.size]? = some (.cells #[.bool false, .int .i64 0, .int .i64 0, .string ⟨#[]⟩, .int .i64 0, .slice none 0 0, .string ⟨#[]⟩] 26 (0, 0)) ∧ w.heap.size + 1 ≤ w2.heap.size) := ⟨HB1.out.1.trans (hb2.mono (by have := HB1.out.2.2; omega)), (hb2.block _ (by have := HB1.out.2.2; omega)).trans HB1.out.2.1, by have := hb2.size; have := HB1.out.2.2; omega⟩
  have FB : Fr (fun _ => False) w w2 := Fr.of_below HB2.out.1
  have HR : Hid (Calls Tryd.prog 14 #[.string s] w2 fun e w' => RetRE e w' w2.heap.size (readI (bl s)) ∧ Below w2.heap.size w2 w') := readEvent_any s w2 hs (HG.out.1.fr FB (fun _ e => e.elim)) (HG.out.2.1.fr FB (fun _ e => e.elim)) (by have := HB2.out.2.2; omega)
  clear hb2 FB HB1
  go_wp2_with fail
  refine HR.out.mono ?_
  rintro e w3 ⟨hr, hb3⟩
  have z3 : w.heap.size < w3.heap.size := by have := HB2.out.2.2; have := hb3.size; omega
  have HB3 : Hid (Below w.heap.size w w3 ∧ w3.heap[w.heap.size]? = some (.cells #[.bool false, .int .i64 0, .int .i64 0, .string ⟨#[]⟩, .int .i64 0, .slice none 0 0, .string ⟨#[]⟩] 26 (0, 0))) := ⟨HB2.out.1.trans (hb3.mono (by have := HB2.out.2.2; omega)), (hb3.block _ (by have := HB2.out.2.2; omega)).trans HB2.out.2.1⟩
  have z2 := HB2.out.2.2
  clear hb3 HB2 HR
  rcases hr with ⟨v, E, hE, rfl, sv, rfl, hown⟩ | ⟨hE, rfl⟩
  · obtain ⟨g, ad, c, rfl, -⟩ := ownL_of hown
    have HE : Hid (readI (bl s) = some E ∧ w3.ownsRow w2.heap.size 3 1 (.slice ad E.secs.length c) E.secs.length (E.secs.map (Value.int .i64))) := ⟨hE, hown⟩
    clear hE hown
    obtain ⟨b1, b2, b3⟩ := readI_bound HE.out.1
    rw [bl_size] at b1 b2 b3
    have B4 := below1 w3 (.cells #[.int .i64 E.op, .int .i64 E.of_, .string E.holder, .int .i64 E.kind, .slice ad E.secs.length c, .string E.text] 24)
    have EA : EvAt (w3.alloc (.cells #[.int .i64 E.op, .int .i64 E.of_, .string E.holder, .int .i64 E.kind, .slice ad E.secs.length c, .string E.text] 24)) (.agg #[.int .i64 E.op, .int .i64 E.of_, .string E.holder, .int .i64 E.kind, .slice ad E.secs.length c, .string E.text]) E := (evW_at ⟨_, rfl, HE.out.2⟩).below B4
    have B5 : Below w.heap.size w (w3.alloc (.cells #[.int .i64 E.op, .int .i64 E.of_, .string E.holder, .int .i64 E.kind, .slice ad E.secs.length c, .string E.text] 24)) := HB3.out.1.trans (B4.mono (by omega))
    have HL : Hid (Calls Tryd.prog 16 #[.agg #[.int .i64 E.op, .int .i64 E.of_, .string E.holder, .int .i64 E.kind, .slice ad E.secs.length c, .string E.text]] (w3.alloc (.cells #[.int .i64 E.op, .int .i64 E.of_, .string E.holder, .int .i64 E.kind, .slice ad E.secs.length c, .string E.text] 24)) fun e w' => RetLn e E ∧ Below (w3.alloc (.cells #[.int .i64 E.op, .int .i64 E.of_, .string E.holder, .int .i64 E.kind, .slice ad E.secs.length c, .string E.text] 24)).heap.size (w3.alloc (.cells #[.int .i64 E.op, .int .i64 E.of_, .string E.holder, .int .i64 E.kind, .slice ad E.secs.length c, .string E.text] 24)) w') := implLine_any _ E _ (by omega) (by omega) (by omega) (tab_below HG.out.2.2 B5) (HG.out.2.1.below B5) EA
    clear B4 EA B5 b1 b2 b3
    go_wp2_with fail
    refine HL.out.mono ?_
    rintro e w5 ⟨⟨t, rfl, ht⟩, hb5⟩
    have s4 : (w3.alloc (.cells #[.int .i64 E.op, .int .i64 E.of_, .string E.holder, .int .i64 E.kind, .slice ad E.secs.length c, .string E.text] 24)).heap.size = w3.heap.size + 1 := by simp
    have x5 := (hb5.block w.heap.size (by omega)).trans ((Deep.blk_alloc_lt _ _ _ z3).trans HB3.out.2)
    have y5 := (hb5.block w3.heap.size (by omega)).trans (Deep.blk_alloc_new _ _)
    have o5 := ownsRow_below (ownsRow_below HE.out.2 (below1 w3 (.cells #[.int .i64 E.op, .int .i64 E.of_, .string E.holder, .int .i64 E.kind, .slice ad E.secs.length c, .string E.text] 24))) hb5
    have HB5 : Hid (Below w.heap.size w w5 ∧ w5.ownsRow w2.heap.size 3 1 (.slice ad E.secs.length c) E.secs.length (E.secs.map (Value.int .i64))) := ⟨HB3.out.1.trans (((below1 w3 _).trans (hb5.mono (by omega))).mono (by omega)), o5⟩
    have z5 : w3.heap.size + 1 ≤ w5.heap.size := by have := hb5.size; omega
    have HX5 : Hid (w5.heap[w.heap.size]? = some (.cells #[.bool false, .int .i64 0, .int .i64 0, .string ⟨#[]⟩, .int .i64 0, .slice none 0 0, .string ⟨#[]⟩] 26 (0, 0))) := x5
    obtain ⟨d0, d1, d2, d3, d4, d5⟩ := ev_cells y5
    have hc : ∀ i u, (#[Value.bool false, Value.int .i64 0, Value.int .i64 0, Value.string ⟨#[]⟩, Value.int .i64 0, Value.slice none 0 0, Value.string ⟨#[]⟩] : Array Value)[i]? = some u → w5.cell? ⟨w.heap.size, i, none⟩ = some u := fun i u h => cell_of_box x5 h
    have e0 := hc 0 _ rfl
    have e1 := hc 1 _ rfl
    have e2 := hc 2 _ rfl
    have e3 := hc 3 _ rfl
    have e4 := hc 4 _ rfl
    have e5 := hc 5 _ rfl
    have e6 := hc 6 _ rfl
    have g0 : w5.frozen? ⟨w.heap.size, 0, none⟩ = false := frozen_of_box x5
    have g1 : w5.frozen? ⟨w.heap.size, 1, none⟩ = false := frozen_of_box x5
    have g2 : w5.frozen? ⟨w.heap.size, 2, none⟩ = false := frozen_of_box x5
    have g3 : w5.frozen? ⟨w.heap.size, 3, none⟩ = false := frozen_of_box x5
    have g4 : w5.frozen? ⟨w.heap.size, 4, none⟩ = false := frozen_of_box x5
    have g5 : w5.frozen? ⟨w.heap.size, 5, none⟩ = false := frozen_of_box x5
    have g6 : w5.frozen? ⟨w.heap.size, 6, none⟩ = false := frozen_of_box x5
    clear hc hb5 x5 y5 o5 HL
    by_cases hts : t = s
    · have te : (t.toList == s.toList) = true := by rw [hts]; exact beq_self_eq_true _
      have HOK : Hid (LineOk E ∧ lineT E = bl s) := by
        rcases ht with ⟨h1, h2⟩ | ⟨h1, h2⟩
        · exact ⟨h1, by rw [← h2, hts]⟩
        · have := HE.out.1
          rw [← hts, h2, readI_nil] at this
          cases this
      obtain ⟨Z, hZ⟩ : ∃ Z, Z = put7 w5 w.heap.size (.bool true) (.int .i64 E.op) (.int .i64 E.of_) (.string E.holder) (.int .i64 E.kind) (.slice ad E.secs.length c) (.string E.text) := ⟨_, rfl⟩
      have hZ' : (((((((w5.setCell ⟨w.heap.size, 0, none⟩ (.bool true)).setCell ⟨w.heap.size, 1, none⟩ (.int .i64 E.op)).setCell ⟨w.heap.size, 2, none⟩ (.int .i64 E.of_)).setCell ⟨w.heap.size, 3, none⟩ (.string E.holder)).setCell ⟨w.heap.size, 4, none⟩ (.int .i64 E.kind)).setCell ⟨w.heap.size, 5, none⟩ (.slice ad E.secs.length c)).setCell ⟨w.heap.size, 6, none⟩ (.string E.text)) = Z := hZ.symm
      have HZ : Hid (Z.heap[w.heap.size]? = some (.cells #[.bool true, .int .i64 E.op, .int .i64 E.of_, .string E.holder, .int .i64 E.kind, .slice ad E.secs.length c, .string E.text] 26 (0, 0)) ∧ Fr (fun x => x = w.heap.size) w5 Z) := by
        rw [hZ]
        exact ⟨put7_box HX5.out _ _ _ _ _ _ _, put7_fr _ _ _ _ _ _ _ _ _⟩
      clear hZ ht hts
      go_wp2
      try rw [hZ']
      clear hZ' e0 e1 e2 e3 e4 e5 e6 g0 g1 g2 g3 g4 g5 g6 d0 d1 d2 d3 d4 d5
      have hc : ∀ i u, (#[Value.bool true, .int .i64 E.op, .int .i64 E.of_, .string E.holder, .int .i64 E.kind, .slice ad E.secs.length c, .string E.text] : Array Value)[i]? = some u → Z.cell? ⟨w.heap.size, i, none⟩ = some u := fun i u h => cell_of_box HZ.out.1 h
      have e0 := hc 0 _ rfl
      have e1 := hc 1 _ rfl
      have e2 := hc 2 _ rfl
      have e3 := hc 3 _ rfl
      have e4 := hc 4 _ rfl
      have e5 := hc 5 _ rfl
      have e6 := hc 6 _ rfl
      refine bodyPost_ret (v := .agg #[.bool true, .int .i64 E.op, .int .i64 E.of_, .string E.holder, .int .i64 E.kind, .slice ad E.secs.length c, .string E.text]) (by simp [results, Tryd.results5, go_sem, e0, e1, e2, e3, e4, e5, e6]) rfl ?_
      refine ⟨Or.inl ⟨E, ad, c, HOK.out.1, HOK.out.2, rfl, owns_lower (owns_of_block HB5.out.2 (fun g hg => HZ.out.2.block g (owns_lt HB5.out.2 hg).2 (by have := owns_lt HB5.out.2 hg; omega))) (by omega)⟩, HB5.out.1.trans (HZ.out.2.below (B := w.heap.size) (by omega) (fun i e => by omega))⟩
    · have te : (t.toList == s.toList) = false := by
        rw [ByteArray.toList_eq, ByteArray.toList_eq]
        exact beq_eq_false_iff_ne.2 (fun e => hts (bl_inj e))
      have HNO : Hid (∀ E, LineOk E → lineT E ≠ bl s) := fun E' h' e' => by
        have h1 := readI_line h'
        rw [e', HE.out.1] at h1
        cases h1
        rcases ht with ⟨h2, h3⟩ | ⟨h2, h3⟩
        · exact hts (bl_inj (h3.trans e'))
        · exact h2 h'
      clear ht hts
      obtain ⟨Z, hZ⟩ : ∃ Z, Z = put7 w5 w.heap.size (.bool false) (.int .i64 0) (.int .i64 0) (.string ⟨#[]⟩) (.int .i64 0) (.slice none 0 0) (.string ⟨#[]⟩) := ⟨_, rfl⟩
      have hZ' : (((((((w5.setCell ⟨w.heap.size, 0, none⟩ (.bool false)).setCell ⟨w.heap.size, 1, none⟩ (.int .i64 0)).setCell ⟨w.heap.size, 2, none⟩ (.int .i64 0)).setCell ⟨w.heap.size, 3, none⟩ (.string ⟨#[]⟩)).setCell ⟨w.heap.size, 4, none⟩ (.int .i64 0)).setCell ⟨w.heap.size, 5, none⟩ (.slice none 0 0)).setCell ⟨w.heap.size, 6, none⟩ (.string ⟨#[]⟩)) = Z := hZ.symm
      have HZ : Hid (Z.heap[w.heap.size]? = some (.cells #[.bool false, .int .i64 0, .int .i64 0, .string ⟨#[]⟩, .int .i64 0, .slice none 0 0, .string ⟨#[]⟩] 26 (0, 0)) ∧ Fr (fun x => x = w.heap.size) w5 Z) := by
        rw [hZ]
        exact ⟨put7_box HX5.out _ _ _ _ _ _ _, put7_fr _ _ _ _ _ _ _ _ _⟩
      clear hZ
      go_wp2
      try rw [hZ']
      clear hZ' e0 e1 e2 e3 e4 e5 e6 g0 g1 g2 g3 g4 g5 g6
      have hc : ∀ i u, (#[Value.bool false, Value.int .i64 0, Value.int .i64 0, Value.string ⟨#[]⟩, Value.int .i64 0, Value.slice none 0 0, Value.string ⟨#[]⟩] : Array Value)[i]? = some u → Z.cell? ⟨w.heap.size, i, none⟩ = some u := fun i u h => cell_of_box HZ.out.1 h
      have e0 := hc 0 _ rfl
      have e1 := hc 1 _ rfl
      have e2 := hc 2 _ rfl
      have e3 := hc 3 _ rfl
      have e4 := hc 4 _ rfl
      have e5 := hc 5 _ rfl
      have e6 := hc 6 _ rfl
      refine bodyPost_ret (v := .agg #[.bool false, .int .i64 0, .int .i64 0, .string ⟨#[]⟩, .int .i64 0, .slice none 0 0, .string ⟨#[]⟩]) (by simp [results, Tryd.results5, go_sem, e0, e1, e2, e3, e4, e5, e6]) rfl ?_
      exact ⟨Or.inr ⟨HNO.out, rfl⟩, HB5.out.1.trans (HZ.out.2.below (B := w.heap.size) (by omega) (fun i e => by omega))⟩
  · have HNO : Hid (∀ E, LineOk E → lineT E ≠ bl s) := fun E' h' e' => by
      have h1 := readI_line h'
      rw [e', hE] at h1
      cases h1
    have x3 := HB3.out.2
    have hc : ∀ i u, (#[Value.bool false, Value.int .i64 0, Value.int .i64 0, Value.string ⟨#[]⟩, Value.int .i64 0, Value.slice none 0 0, Value.string ⟨#[]⟩] : Array Value)[i]? = some u → w3.cell? ⟨w.heap.size, i, none⟩ = some u := fun i u h => cell_of_box x3 h
    have e0 := hc 0 _ rfl
    have e1 := hc 1 _ rfl
    have e2 := hc 2 _ rfl
    have e3 := hc 3 _ rfl
    have e4 := hc 4 _ rfl
    have e5 := hc 5 _ rfl
    have e6 := hc 6 _ rfl
    have g0 : w3.frozen? ⟨w.heap.size, 0, none⟩ = false := frozen_of_box x3
    have g1 : w3.frozen? ⟨w.heap.size, 1, none⟩ = false := frozen_of_box x3
    have g2 : w3.frozen? ⟨w.heap.size, 2, none⟩ = false := frozen_of_box x3
    have g3 : w3.frozen? ⟨w.heap.size, 3, none⟩ = false := frozen_of_box x3
    have g4 : w3.frozen? ⟨w.heap.size, 4, none⟩ = false := frozen_of_box x3
    have g5 : w3.frozen? ⟨w.heap.size, 5, none⟩ = false := frozen_of_box x3
    have g6 : w3.frozen? ⟨w.heap.size, 6, none⟩ = false := frozen_of_box x3
    obtain ⟨Z, hZ⟩ : ∃ Z, Z = (put7 w3 w.heap.size (.bool false) (.int .i64 0) (.int .i64 0) (.string ⟨#[]⟩) (.int .i64 0) (.slice none 0 0) (.string ⟨#[]⟩)).alloc (.cells #[.int .i64 0, .int .i64 0, .string ⟨#[]⟩, .int .i64 0, .slice none 0 0, .string ⟨#[]⟩] 24) := ⟨_, rfl⟩
    have hZ' : (((((((w3.setCell ⟨w.heap.size, 0, none⟩ (.bool false)).setCell ⟨w.heap.size, 1, none⟩ (.int .i64 0)).setCell ⟨w.heap.size, 2, none⟩ (.int .i64 0)).setCell ⟨w.heap.size, 3, none⟩ (.string ⟨#[]⟩)).setCell ⟨w.heap.size, 4, none⟩ (.int .i64 0)).setCell ⟨w.heap.size, 5, none⟩ (.slice none 0 0)).setCell ⟨w.heap.size, 6, none⟩ (.string ⟨#[]⟩)).alloc (.cells #[.int .i64 0, .int .i64 0, .string ⟨#[]⟩, .int .i64 0, .slice none 0 0, .string ⟨#[]⟩] 24) = Z := hZ.symm
    have f7 := put7_fr w3 w.heap.size (.bool false) (.int .i64 0) (.int .i64 0) (.string ⟨#[]⟩) (.int .i64 0) (.slice none 0 0) (.string ⟨#[]⟩)
    have b7 := put7_box x3 (.bool false) (.int .i64 0) (.int .i64 0) (.string ⟨#[]⟩) (.int .i64 0) (.slice none 0 0) (.string ⟨#[]⟩)
    have HZ : Hid (Z.heap[w.heap.size]? = some (.cells #[.bool false, .int .i64 0, .int .i64 0, .string ⟨#[]⟩, .int .i64 0, .slice none 0 0, .string ⟨#[]⟩] 26 (0, 0)) ∧ Fr (fun x => x = w.heap.size) w3 Z) := by
      rw [hZ]
      exact ⟨(Deep.blk_alloc_lt _ _ _ (Array.getElem?_eq_some_iff.1 b7).1).trans b7, f7.alloc _⟩
    clear hZ f7 b7 hE hc x3
    go_wp2
    try rw [hZ']
    clear hZ' e0 e1 e2 e3 e4 e5 e6 g0 g1 g2 g3 g4 g5 g6
    have hc : ∀ i u, (#[Value.bool false, Value.int .i64 0, Value.int .i64 0, Value.string ⟨#[]⟩, Value.int .i64 0, Value.slice none 0 0, Value.string ⟨#[]⟩] : Array Value)[i]? = some u → Z.cell? ⟨w.heap.size, i, none⟩ = some u := fun i u h => cell_of_box HZ.out.1 h
    have e0 := hc 0 _ rfl
    have e1 := hc 1 _ rfl
    have e2 := hc 2 _ rfl
    have e3 := hc 3 _ rfl
    have e4 := hc 4 _ rfl
    have e5 := hc 5 _ rfl
    have e6 := hc 6 _ rfl
    refine bodyPost_ret (v := .agg #[.bool false, .int .i64 0, .int .i64 0, .string ⟨#[]⟩, .int .i64 0, .slice none 0 0, .string ⟨#[]⟩]) (by simp [results, Tryd.results5, go_sem, e0, e1, e2, e3, e4, e5, e6]) rfl ?_
    exact ⟨Or.inr ⟨HNO.out, rfl⟩, HB3.out.1.trans (HZ.out.2.below (B := w.heap.size) (by omega) (fun i e => by omega))⟩

end Go.Proofs.YtbcfmehcghkpiaaDoor
