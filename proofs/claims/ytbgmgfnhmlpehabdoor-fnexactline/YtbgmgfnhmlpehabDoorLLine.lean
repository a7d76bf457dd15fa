/-
  laws.FnExactLine: the walk out of contracts. Mine, by program (wip/lline.py), by template (wip/gen.py).
-/
import Derived.Test.YtbgmgfnhmlpehabDoorSLine
import Derived.Test.YtbgmgfnhmlpehabDoorILine
import Derived.Test.YtbgmgfnhmlpehabDoorEvTo
namespace Go.Proofs.YtbgmgfnhmlpehabDoor
open Go.RowKit

structure EvWf (E : Ev) : Prop where
  h : E.holder.size ≤ maxLen
  t : E.text.size ≤ maxLen
  s : E.secs.length ≤ maxLen

set_option maxHeartbeats 4000000 in
theorem fnExactLine_walk (ve : Value) (E : Ev) (w : World) (hT : Lib.TabIs Tryd.prog w "internal/strconv.uint64pow10" .u64 Lib.pow10Tab) (hW : FWords w) (hwe : EvWf E) (GE : EvAt w ve E) :
    Calls Tryd.prog 3 #[ve] w fun e w' => e = .returned (.bool true) ∧ Below w.heap.size w w' := by
  have GE0 := GE
  obtain ⟨ad, ca, rfl, -⟩ := GE
  have HG : Hid (EvAt w (.agg #[.int .i64 E.op, .int .i64 E.of_, .string E.holder, .int .i64 E.kind, .slice ad E.secs.length ca, .string E.text]) E ∧ EvWf E ∧ Lib.TabIs Tryd.prog w "internal/strconv.uint64pow10" .u64 Lib.pow10Tab ∧ FWords w) := ⟨GE0, hwe, hT, hW⟩
  clear GE0 hwe hT hW
  go_enter Tryd.func3, Tryd.ntmps3
  go_wp2_with fail
  have B1 := below1 w (.cells #[.int .i64 E.op, .int .i64 E.of_, .string E.holder, .int .i64 E.kind, .slice ad E.secs.length ca, .string E.text] 24)
  refine (szEvent_any _ E 1048576 _ (by have := HG.out.2.1.h; unfold maxLen at this; exact this) (by have := HG.out.2.1.t; unfold maxLen at this; exact this) (by have := HG.out.2.1.s; unfold maxLen at this; exact this) (by omega) (by omega) (HG.out.1.below B1)).mono ?_
  rintro e w1 ⟨r, rfl, hr, hb⟩
  have be : w1.heap[w.heap.size]? = some (.cells #[.int .i64 E.op, .int .i64 E.of_, .string E.holder, .int .i64 E.kind, .slice ad E.secs.length ca, .string E.text] 24 (0, 0)) := (hb.block _ (by simp)).trans (Deep.blk_alloc_new _ _)
  have bw : Below w.heap.size w w1 := B1.trans (hb.mono (by simp))
  have z1 : w.heap.size < w1.heap.size := by have := hb.size; simp at this; omega
  clear hb B1
  by_cases hneg : r < 0
  · clear hr be
    go_wp2
    go_ret
    exact ⟨rfl, bw⟩
  have hse : wEv E ≤ 1048576 := by rcases hr with h | h <;> omega
  have HE : Hid (E.holder.size ≤ 1048576 ∧ E.text.size ≤ 1048576 ∧ E.secs.length ≤ 1048576) := by unfold wEv at hse; exact ⟨by omega, by omega, by omega⟩
  have HB : Hid (w1.heap[w.heap.size]? = some (.cells #[.int .i64 E.op, .int .i64 E.of_, .string E.holder, .int .i64 E.kind, .slice ad E.secs.length ca, .string E.text] 24 (0, 0))) := be
  clear hr hse
  obtain ⟨e0, e1, e2, e3, e4, e5⟩ := ev_cells be
  clear be
  -- w0 := spec.Line(toEvent(aE))
  go_wp2_with fail
  refine (toEvent_any _ E _ HE.out.2.2 (HG.out.1.below bw)).mono ?_
  rintro e w2 ⟨v2, g2, rfl, h2, hb⟩
  have bw2 := below_trans bw bw.size hb
  have be2 := (hb.block _ z1).trans HB.out
  have z2 : w.heap.size < w2.heap.size := Nat.lt_of_lt_of_le z1 hb.size
  have H2 : Hid (EvAt w2 v2 E ∧ w2.heap[w.heap.size]? = some (.cells #[.int .i64 E.op, .int .i64 E.of_, .string E.holder, .int .i64 E.kind, .slice ad E.secs.length ca, .string E.text] 24 (0, 0))) := ⟨h2.evAt, be2⟩
  clear hb bw z1 HB e0 e1 e2 e3 e4 e5 be2 h2
  go_wp2_with fail
  refine (specLine_any _ E _ HE.out.1 HE.out.2.1 HE.out.2.2 H2.out.1).mono ?_
  rintro e w3 ⟨hL, hb⟩
  obtain ⟨s0, rfl, hs0⟩ := hL
  have HL : Hid (RetL (.returned (.string s0)) E) := ⟨s0, rfl, hs0⟩
  have bw3 := below_trans bw2 bw2.size hb
  have be3 := (hb.block _ z2).trans H2.out.2
  have z3 : w.heap.size < w3.heap.size := Nat.lt_of_lt_of_le z2 hb.size
  clear hb bw2 z2 H2 hs0
  obtain ⟨e0, e1, e2, e3, e4, e5⟩ := ev_cells be3
  have HB3 : Hid (w3.heap[w.heap.size]? = some (.cells #[.int .i64 E.op, .int .i64 E.of_, .string E.holder, .int .i64 E.kind, .slice ad E.secs.length ca, .string E.text] 24 (0, 0))) := be3
  clear be3
  -- x0 := toEvent(aE)
  go_wp2_with fail
  refine (toEvent_any _ E _ HE.out.2.2 (HG.out.1.below bw3)).mono ?_
  rintro e w5 ⟨v5, g5, rfl, h5, hb⟩
  obtain ⟨rfl, hg5⟩ := h5
  have hE5 : EvAt w5 (.agg #[.int .i64 E.op, .int .i64 E.of_, .string E.holder, .int .i64 E.kind, .slice (some ⟨g5, 0, none⟩) E.secs.length E.secs.length, .string E.text]) E := OwnEv.evAt ⟨rfl, hg5⟩
  have st := below1 w5 (.cells #[.int .i64 E.op, .int .i64 E.of_, .string E.holder, .int .i64 E.kind, .slice (some ⟨g5, 0, none⟩) E.secs.length E.secs.length, .string E.text] 27)
  have bw5 : Below w.heap.size w (w5.alloc (.cells #[.int .i64 E.op, .int .i64 E.of_, .string E.holder, .int .i64 E.kind, .slice (some ⟨g5, 0, none⟩) E.secs.length E.secs.length, .string E.text] 27)) := below_trans bw3 bw3.size (below_trans hb hb.size st)
  have z5 : w.heap.size < w5.heap.size := Nat.lt_of_lt_of_le z3 hb.size
  have HX : Hid (EvAt (w5.alloc (.cells #[.int .i64 E.op, .int .i64 E.of_, .string E.holder, .int .i64 E.kind, .slice (some ⟨g5, 0, none⟩) E.secs.length E.secs.length, .string E.text] 27)) (.agg #[.int .i64 E.op, .int .i64 E.of_, .string E.holder, .int .i64 E.kind, .slice (some ⟨g5, 0, none⟩) E.secs.length E.secs.length, .string E.text]) E ∧ (w5.alloc (.cells #[.int .i64 E.op, .int .i64 E.of_, .string E.holder, .int .i64 E.kind, .slice (some ⟨g5, 0, none⟩) E.secs.length E.secs.length, .string E.text] 27)).heap[w.heap.size]? = some (.cells #[.int .i64 E.op, .int .i64 E.of_, .string E.holder, .int .i64 E.kind, .slice ad E.secs.length ca, .string E.text] 24 (0, 0)) ∧ (w5.alloc (.cells #[.int .i64 E.op, .int .i64 E.of_, .string E.holder, .int .i64 E.kind, .slice (some ⟨g5, 0, none⟩) E.secs.length E.secs.length, .string E.text] 27)).heap[w5.heap.size]? = some (.cells #[.int .i64 E.op, .int .i64 E.of_, .string E.holder, .int .i64 E.kind, .slice (some ⟨g5, 0, none⟩) E.secs.length E.secs.length, .string E.text] 27 (0, 0)) ∧ Below w.heap.size w (w5.alloc (.cells #[.int .i64 E.op, .int .i64 E.of_, .string E.holder, .int .i64 E.kind, .slice (some ⟨g5, 0, none⟩) E.secs.length E.secs.length, .string E.text] 27))) := ⟨hE5.below st, (st.block _ z5).trans ((hb.block _ z3).trans HB3.out), Deep.blk_alloc_new _ _, bw5⟩
  clear hb hg5 hE5 st bw5 bw3 z3 HB3 e0 e1 e2 e3 e4 e5
  -- g0 := impl.Line(x0)
  go_wp2_with fail
  refine (implLine_any _ E _ HE.out.1 HE.out.2.1 HE.out.2.2 (tab_below HG.out.2.2.1 HX.out.2.2.2) (HG.out.2.2.2.below HX.out.2.2.2) HX.out.1).mono ?_
  rintro e w7 ⟨hL, hb⟩
  obtain ⟨s, e1, e2⟩ := hL.same HL.out
  subst e1
  cases e2
  have szz : (w5.alloc (.cells #[.int .i64 E.op, .int .i64 E.of_, .string E.holder, .int .i64 E.kind, .slice (some ⟨g5, 0, none⟩) E.secs.length E.secs.length, .string E.text] 27)).heap.size = w5.heap.size + 1 := by simp
  have be7 := (hb.block _ (by omega : w.heap.size < (w5.alloc (.cells #[.int .i64 E.op, .int .i64 E.of_, .string E.holder, .int .i64 E.kind, .slice (some ⟨g5, 0, none⟩) E.secs.length E.secs.length, .string E.text] 27)).heap.size)).trans HX.out.2.1
  have bf7 := (hb.block _ (by omega : w5.heap.size < (w5.alloc (.cells #[.int .i64 E.op, .int .i64 E.of_, .string E.holder, .int .i64 E.kind, .slice (some ⟨g5, 0, none⟩) E.secs.length E.secs.length, .string E.text] 27)).heap.size)).trans HX.out.2.2.1
  have bw7 := below_trans HX.out.2.2.2 HX.out.2.2.2.size hb
  have H7 : Hid (EvAt w7 (.agg #[.int .i64 E.op, .int .i64 E.of_, .string E.holder, .int .i64 E.kind, .slice (some ⟨g5, 0, none⟩) E.secs.length E.secs.length, .string E.text]) E) := HX.out.1.below hb
  have y1 : w5.heap.size < w7.heap.size := by have := hb.size; omega
  have y2 : w.heap.size < w7.heap.size := by omega
  obtain ⟨e0, e1, e2, e3, e4, e5⟩ := ev_cells be7
  obtain ⟨f0, f1, f2, f3, f4, f5⟩ := ev_cells bf7
  have tn : (s0.toList == s0.toList) = true := by simp
  clear hb szz HX be7 bf7 hL
  go_wp2
  -- eqEvent(x0, toEvent(aE))
  go_region_held3 (fun w' => w'.cell? ⟨w.heap.size, 0, none⟩ = some (.int .i64 E.op) ∧ w'.cell? ⟨w.heap.size, 1, none⟩ = some (.int .i64 E.of_) ∧ w'.cell? ⟨w.heap.size, 2, none⟩ = some (.string E.holder) ∧ w'.cell? ⟨w.heap.size, 3, none⟩ = some (.int .i64 E.kind) ∧ w'.cell? ⟨w.heap.size, 4, none⟩ = some (.slice ad E.secs.length ca) ∧ w'.cell? ⟨w.heap.size, 5, none⟩ = some (.string E.text) ∧ w'.cell? ⟨w5.heap.size, 0, none⟩ = some (.int .i64 E.op) ∧ w'.cell? ⟨w5.heap.size, 1, none⟩ = some (.int .i64 E.of_) ∧ w'.cell? ⟨w5.heap.size, 2, none⟩ = some (.string E.holder) ∧ w'.cell? ⟨w5.heap.size, 3, none⟩ = some (.int .i64 E.kind) ∧ w'.cell? ⟨w5.heap.size, 4, none⟩ = some (.slice (some ⟨g5, 0, none⟩) E.secs.length E.secs.length) ∧ w'.cell? ⟨w5.heap.size, 5, none⟩ = some (.string E.text)) (go_keep)
    (first | (go_at_call 7; refine (toEvent_any _ E _ HE.out.2.2 (HG.out.1.below bw7.drew)).mono ?_; rintro e wA ⟨vA, gA, rfl, hA, hbA⟩; have hbR : Below w7.heap.size w7 wA := (Below.refl _ _).drew.trans hbA; obtain ⟨hc1, hf1⟩ := bcell hbR; have HA : Hid (EvAt wA vA E ∧ Below w7.heap.size w7 wA) := ⟨hA.evAt, hbR⟩; clear hf1 hbA hbR hA) | (go_at_call 9; refine (eqEvent_same _ _ E _ HE.out.2.2 (H7.out.below HA.out.2) HA.out.1).mono ?_; rintro e wB ⟨rfl, hbB⟩; have hbR : Below w7.heap.size w7 wB := below_trans HA.out.2 HA.out.2.size hbB; obtain ⟨hc1, hf1⟩ := bcell hbR; clear hf1 hbB))
  have bwB := below_trans bw7 bw7.size hbR
  clear hc1 hbR
  go_wp2
  go_ret
  exact ⟨rfl, bwB⟩

end Go.Proofs.YtbgmgfnhmlpehabDoor
