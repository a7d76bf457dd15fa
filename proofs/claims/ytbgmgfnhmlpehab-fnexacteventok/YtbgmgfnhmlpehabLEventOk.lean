/-
  laws.FnExactEventOk: the walk out of contracts. Mine, by template (wip/gen.py).
-/
import Derived.Test.YtbgmgfnhmlpehabEvI2
import Derived.Test.YtbgmgfnhmlpehabEvTo
import Derived.Test.YtbgmgfnhmlpehabSmall
import Derived.Test.YtbgmgfnhmlpehabEq
import Derived.Test.YtbgmgfnhmlpehabSz
import Derived.Deep.RegionHeld3
namespace Go.Proofs.Ytbgmgfnhmlpehab
open Go.RowKit

structure EvWf (E : Ev) : Prop where
  h : E.holder.size ≤ maxLen
  t : E.text.size ≤ maxLen
  s : E.secs.length ≤ maxLen

theorem box4 {w : World} {p : Nat} {a b c d : Value} {t : TypeId} (h : w.heap[p]? = some (.cells #[a, b, c, d] t (0, 0))) :
    w.cell? ⟨p, 0, none⟩ = some a ∧ w.cell? ⟨p, 1, none⟩ = some b ∧ w.cell? ⟨p, 2, none⟩ = some c ∧ w.cell? ⟨p, 3, none⟩ = some d := by
  simp [World.cell?, h]

set_option maxHeartbeats 4000000 in
theorem fnExactEventOk_walk (v ve : Value) (B : Bk) (E : Ev) (w : World) (hwf : BkWf B) (hwe : EvWf E) (G : BookAt w v B) (GE : EvAt w ve E) :
    Calls Try.prog 3 #[v, ve] w fun e w' => e = .returned (.bool true) ∧ Below w.heap.size w w' := by
  have G0 := G
  have GE0 := GE
  obtain ⟨ao, co, al, cl, ac, cc, rfl, -⟩ := G
  obtain ⟨ad, ca, rfl, -⟩ := GE
  have HG : Hid (BookAt w (.agg #[.int .i64 B.n, .slice ao B.orders.length co, .slice al B.locked.length cl, .slice ac B.occ.length cc]) B ∧ BkWf B ∧ EvAt w (.agg #[.int .i64 E.op, .int .i64 E.of_, .string E.holder, .int .i64 E.kind, .slice ad E.secs.length ca, .string E.text]) E ∧ EvWf E) := ⟨G0, hwf, GE0, hwe⟩
  clear G0 hwf GE0 hwe
  go_enter Try.func3, Try.ntmps3
  go_wp2_with fail
  have B1 := below2 w (.cells #[.int .i64 B.n, .slice ao B.orders.length co, .slice al B.locked.length cl, .slice ac B.occ.length cc] 25) (.cells #[.int .i64 E.op, .int .i64 E.of_, .string E.holder, .int .i64 E.kind, .slice ad E.secs.length ca, .string E.text] 28)
  have hwf := HG.out.2.1
  refine (szBook_any _ B 1048576 _ (by have := hwf.o; unfold maxLen at this; exact this) (fun i hi => by have := hwf.x i hi; unfold OrdWf maxLen at this; exact this) (by have := hwf.l; unfold maxLen at this; exact this) (by have := hwf.c; unfold maxLen at this; exact this) (by omega) (by omega) (HG.out.1.below B1)).mono ?_
  clear hwf
  rintro e w1 ⟨r, rfl, hr, hb⟩
  have bx : w1.heap[w.heap.size]? = some (.cells #[.int .i64 B.n, .slice ao B.orders.length co, .slice al B.locked.length cl, .slice ac B.occ.length cc] 25 (0, 0)) := (hb.block _ (by simp; omega)).trans ((Deep.blk_alloc_lt _ _ _ (by simp)).trans (Deep.blk_alloc_new _ _))
  have be : w1.heap[w.heap.size + 1]? = some (.cells #[.int .i64 E.op, .int .i64 E.of_, .string E.holder, .int .i64 E.kind, .slice ad E.secs.length ca, .string E.text] 28 (0, 0)) := (hb.block _ (by simp)).trans (by have := Deep.blk_alloc_new (w.alloc (.cells #[.int .i64 B.n, .slice ao B.orders.length co, .slice al B.locked.length cl, .slice ac B.occ.length cc] 25)) (.cells #[.int .i64 E.op, .int .i64 E.of_, .string E.holder, .int .i64 E.kind, .slice ad E.secs.length ca, .string E.text] 28); simpa using this)
  have bw : Below w.heap.size w w1 := B1.trans (hb.mono B1.size)
  have z : w.heap.size + 1 < w1.heap.size := by have := hb.size; simp at this; omega
  clear hb B1
  by_cases hneg : r < 0
  · clear hr bx be
    go_wp2
    go_ret
    exact ⟨rfl, bw⟩
  have hsm : wBk B ≤ 1048576 := by rcases hr with h | h <;> omega
  have HS : Hid (Small B ∧ wBk B ≤ 1048576) := ⟨small_of hsm, hsm⟩
  have hr1 : r ≤ 1048576 := by rcases hr with h | h <;> omega
  clear hr hsm
  obtain ⟨e0, e1, e2, e3, e4, e5⟩ := ev_cells be
  go_wp2_with fail
  refine (szEvent_any _ E r _ (by have := HG.out.2.2.2.h; unfold maxLen at this; exact this) (by have := HG.out.2.2.2.t; unfold maxLen at this; exact this) (by have := HG.out.2.2.2.s; unfold maxLen at this; exact this) (by omega) hr1 (HG.out.2.2.1.below bw)).mono ?_
  rintro e w2 ⟨r2, rfl, hr2, hb⟩
  have bx2 := (hb.block _ (by omega : w.heap.size < w1.heap.size)).trans bx
  have be2 := (hb.block _ z).trans be
  have bw2 := below_trans bw bw.size hb
  have z2 : w.heap.size + 1 < w2.heap.size := Nat.lt_of_lt_of_le z hb.size
  clear hb bw bx be z e0 e1 e2 e3 e4 e5
  by_cases hneg2 : r2 < 0
  · clear hr2 bx2 be2
    go_wp2
    go_ret
    exact ⟨rfl, bw2⟩
  have hse : wEv E ≤ 1048576 := by rcases hr2 with h | h <;> omega
  have HE : Hid (E.holder.size ≤ 1048576 ∧ E.text.size ≤ 1048576 ∧ E.secs.length ≤ 1048576) := by unfold wEv at hse; exact ⟨by omega, by omega, by omega⟩
  clear hr2 hse
  obtain ⟨c0, c1, c2, c3⟩ := box4 bx2
  obtain ⟨e0, e1, e2, e3, e4, e5⟩ := ev_cells be2
  have HX2 : Hid (w2.heap[w.heap.size]? = some (.cells #[.int .i64 B.n, .slice ao B.orders.length co, .slice al B.locked.length cl, .slice ac B.occ.length cc] 25 (0, 0)) ∧ w2.heap[w.heap.size + 1]? = some (.cells #[.int .i64 E.op, .int .i64 E.of_, .string E.holder, .int .i64 E.kind, .slice ad E.secs.length ca, .string E.text] 28 (0, 0))) := ⟨bx2, be2⟩
  have z2' : w.heap.size < w2.heap.size := by omega
  clear bx2 be2
  go_wp2
  -- w0 := spec.EventOk(toBook(aB), toEvent(aE))
  go_region_held3 (fun w' => w'.cell? ⟨w.heap.size, 0, none⟩ = some (.int .i64 B.n) ∧ w'.cell? ⟨w.heap.size, 1, none⟩ = some (.slice ao B.orders.length co) ∧ w'.cell? ⟨w.heap.size, 2, none⟩ = some (.slice al B.locked.length cl) ∧ w'.cell? ⟨w.heap.size, 3, none⟩ = some (.slice ac B.occ.length cc) ∧ w'.cell? ⟨w.heap.size + 1, 0, none⟩ = some (.int .i64 E.op) ∧ w'.cell? ⟨w.heap.size + 1, 1, none⟩ = some (.int .i64 E.of_) ∧ w'.cell? ⟨w.heap.size + 1, 2, none⟩ = some (.string E.holder) ∧ w'.cell? ⟨w.heap.size + 1, 3, none⟩ = some (.int .i64 E.kind) ∧ w'.cell? ⟨w.heap.size + 1, 4, none⟩ = some (.slice ad E.secs.length ca) ∧ w'.cell? ⟨w.heap.size + 1, 5, none⟩ = some (.string E.text)) (go_keep)
    (first
      | (go_at_call 7; refine (toBook_any _ B _ HS.out.2 (HG.out.1.below bw2.drew)).mono ?_; rintro e wa ⟨va, Ka, rfl, ha, hba⟩; have hbR : Below w2.heap.size w2 wa := (Below.refl _ _).drew.trans hba; obtain ⟨hc1, hf1⟩ := bcell hbR; have HRa : Hid (BookAt wa va B ∧ Below w2.heap.size w2 wa) := ⟨ha.bookAt, hbR⟩; clear hf1 hba hbR ha)
      | (go_at_call 7; refine (toBook_any _ B _ HS.out.2 (HG.out.1.below (below_trans bw2 bw2.size HRe.out.2))).mono ?_; rintro e wz ⟨va, Ka, rfl, ha, hba⟩; have hbR : Below w2.heap.size w2 wz := below_trans HRe.out.2 HRe.out.2.size hba; obtain ⟨hc2, hf1⟩ := bcell hbR; have HRz : Hid (BookAt wz va B ∧ EvAt wz ve1 E ∧ Below w2.heap.size w2 wz) := ⟨ha.bookAt, HRe.out.1.below hba, hbR⟩; clear hf1 hba hbR ha hc1)
      | (go_at_call 8; refine (toEvent_any _ E _ HE.out.2.2 (HG.out.2.2.1.below bw2.drew)).mono ?_; rintro e wa ⟨ve1, ge, rfl, ha, hba⟩; have hbR : Below w2.heap.size w2 wa := (Below.refl _ _).drew.trans hba; obtain ⟨hc1, hf1⟩ := bcell hbR; have HRe : Hid (EvAt wa ve1 E ∧ Below w2.heap.size w2 wa) := ⟨ha.evAt, hbR⟩; clear hf1 hba hbR ha)
      | (go_at_call 8; refine (toEvent_any _ E _ HE.out.2.2 (HG.out.2.2.1.below (below_trans bw2 bw2.size HRa.out.2))).mono ?_; rintro e wz ⟨ve1, ge, rfl, ha, hba⟩; have hbR : Below w2.heap.size w2 wz := below_trans HRa.out.2 HRa.out.2.size hba; obtain ⟨hc2, hf1⟩ := bcell hbR; have HRz : Hid (BookAt wz va B ∧ EvAt wz ve1 E ∧ Below w2.heap.size w2 wz) := ⟨HRa.out.1.below hba, ha.evAt, hbR⟩; clear hf1 hba hbR ha hc1)
      | (go_at_call 6; refine (specEventOk_any _ _ B E _ HS.out.1.o HS.out.1.s ⟨HG.out.2.1.n0, HG.out.2.1.n1⟩ (by have := HE.out; omega) (by have := HE.out; omega) (by have := HE.out; omega) HRz.out.1 HRz.out.2.1).mono ?_; rintro e w3 ⟨⟨c, rfl, hc⟩, hb7⟩; have hbR : Below w2.heap.size w2 w3 := below_trans HRz.out.2.2 HRz.out.2.2.size hb7; obtain ⟨hc3, hf1⟩ := bcell hbR; have HC : Hid (c = true ↔ EvOk B E) := hc; clear hf1 hb7 hc))
  have bw3 := below_trans bw2 bw2.size hbR
  have bx3 := (hbR.block _ z2').trans HX2.out.1
  have be3 := (hbR.block _ z2).trans HX2.out.2
  have z3 : w.heap.size + 1 < w3.heap.size := Nat.lt_of_lt_of_le z2 hbR.size
  clear hc3 hbR HX2 bw2 z2 z2' c0 c1 c2 c3 e0 e1 e2 e3 e4 e5
  obtain ⟨c0, c1, c2, c3⟩ := box4 bx3
  go_wp2_with fail
  -- x0 := toBook(aB)
  refine (toBook_any _ B _ HS.out.2 (HG.out.1.below bw3)).mono ?_
  rintro e w4 ⟨v4, K4, rfl, h4, hb⟩
  obtain ⟨ao4, co4, al4, cl4, ac4, cc4, hv4, -⟩ := h4.shape
  subst hv4
  have st : Below w4.heap.size w4 (w4.alloc (.cells #[.int .i64 B.n, .slice ao4 B.orders.length co4, .slice al4 B.locked.length cl4, .slice ac4 B.occ.length cc4] 34)) := below1 _ _
  have sz : (w4.alloc (.cells #[.int .i64 B.n, .slice ao4 B.orders.length co4, .slice al4 B.locked.length cl4, .slice ac4 B.occ.length cc4] 34)).heap.size = w4.heap.size + 1 := by simp
  have stx := below_trans hb hb.size st
  have bw4 := below_trans bw3 bw3.size stx
  have bx4 := (stx.block _ (by omega : w.heap.size < w3.heap.size)).trans bx3
  have be4 := (stx.block _ z3).trans be3
  have z4 : w.heap.size + 1 < w4.heap.size := Nat.lt_of_lt_of_le z3 hb.size
  have H4 : Hid (BookAt (w4.alloc (.cells #[.int .i64 B.n, .slice ao4 B.orders.length co4, .slice al4 B.locked.length cl4, .slice ac4 B.occ.length cc4] 34)) (.agg #[.int .i64 B.n, .slice ao4 B.orders.length co4, .slice al4 B.locked.length cl4, .slice ac4 B.occ.length cc4]) B) := h4.bookAt.below st
  have bb4 : (w4.alloc (.cells #[.int .i64 B.n, .slice ao4 B.orders.length co4, .slice al4 B.locked.length cl4, .slice ac4 B.occ.length cc4] 34)).heap[w4.heap.size]? = some (.cells #[.int .i64 B.n, .slice ao4 B.orders.length co4, .slice al4 B.locked.length cl4, .slice ac4 B.occ.length cc4] 34 (0, 0)) := Deep.blk_alloc_new _ _
  have e3' := (stx.block _ z3).trans be3
  clear e3'
  obtain ⟨e0, e1, e2, e3, e4, e5⟩ : w4.cell? ⟨w.heap.size + 1, 0, none⟩ = some (.int .i64 E.op) ∧ w4.cell? ⟨w.heap.size + 1, 1, none⟩ = some (.int .i64 E.of_) ∧ w4.cell? ⟨w.heap.size + 1, 2, none⟩ = some (.string E.holder) ∧ w4.cell? ⟨w.heap.size + 1, 3, none⟩ = some (.int .i64 E.kind) ∧ w4.cell? ⟨w.heap.size + 1, 4, none⟩ = some (.slice ad E.secs.length ca) ∧ w4.cell? ⟨w.heap.size + 1, 5, none⟩ = some (.string E.text) := ev_cells ((hb.block _ z3).trans be3)
  have HX4 : Hid ((w4.alloc (.cells #[.int .i64 B.n, .slice ao4 B.orders.length co4, .slice al4 B.locked.length cl4, .slice ac4 B.occ.length cc4] 34)).heap[w.heap.size]? = some (.cells #[.int .i64 B.n, .slice ao B.orders.length co, .slice al B.locked.length cl, .slice ac B.occ.length cc] 25 (0, 0)) ∧ (w4.alloc (.cells #[.int .i64 B.n, .slice ao4 B.orders.length co4, .slice al4 B.locked.length cl4, .slice ac4 B.occ.length cc4] 34)).heap[w.heap.size + 1]? = some (.cells #[.int .i64 E.op, .int .i64 E.of_, .string E.holder, .int .i64 E.kind, .slice ad E.secs.length ca, .string E.text] 28 (0, 0)) ∧ (w4.alloc (.cells #[.int .i64 B.n, .slice ao4 B.orders.length co4, .slice al4 B.locked.length cl4, .slice ac4 B.occ.length cc4] 34)).heap[w4.heap.size]? = some (.cells #[.int .i64 B.n, .slice ao4 B.orders.length co4, .slice al4 B.locked.length cl4, .slice ac4 B.occ.length cc4] 34 (0, 0))) := ⟨bx4, be4, bb4⟩
  have HW4 : Hid (Below w.heap.size w (w4.alloc (.cells #[.int .i64 B.n, .slice ao4 B.orders.length co4, .slice al4 B.locked.length cl4, .slice ac4 B.occ.length cc4] 34))) := bw4
  clear hb bx3 be3 bw3 z3 h4 c0 c1 c2 c3 st stx bx4 be4 bb4 bw4
  go_wp2_with fail
  -- x1 := toEvent(aE)
  refine (toEvent_any _ E _ HE.out.2.2 (HG.out.2.2.1.below HW4.out)).mono ?_
  rintro e w5 ⟨v5, g5, rfl, h5, hb⟩
  have hE5 := h5.evAt
  obtain ⟨hv5, -⟩ := h5
  subst hv5
  rw [sz] at hb
  have st : Below w5.heap.size w5 (w5.alloc (.cells #[.int .i64 E.op, .int .i64 E.of_, .string E.holder, .int .i64 E.kind, .slice (some ⟨g5, 0, none⟩) E.secs.length E.secs.length, .string E.text] 36)) := below1 _ _
  have szz : (w5.alloc (.cells #[.int .i64 E.op, .int .i64 E.of_, .string E.holder, .int .i64 E.kind, .slice (some ⟨g5, 0, none⟩) E.secs.length E.secs.length, .string E.text] 36)).heap.size = w5.heap.size + 1 := by simp
  have z45 : w4.heap.size < w5.heap.size := by have := hb.size; rw [sz] at this; omega
  have stx : Below (w4.heap.size + 1) (w4.alloc (.cells #[.int .i64 B.n, .slice ao4 B.orders.length co4, .slice al4 B.locked.length cl4, .slice ac4 B.occ.length cc4] 34)) (w5.alloc (.cells #[.int .i64 E.op, .int .i64 E.of_, .string E.holder, .int .i64 E.kind, .slice (some ⟨g5, 0, none⟩) E.secs.length E.secs.length, .string E.text] 36)) := hb.trans (st.mono (by omega))
  have HX6 : Hid ((w5.alloc (.cells #[.int .i64 E.op, .int .i64 E.of_, .string E.holder, .int .i64 E.kind, .slice (some ⟨g5, 0, none⟩) E.secs.length E.secs.length, .string E.text] 36)).heap[w.heap.size]? = some (.cells #[.int .i64 B.n, .slice ao B.orders.length co, .slice al B.locked.length cl, .slice ac B.occ.length cc] 25 (0, 0)) ∧ (w5.alloc (.cells #[.int .i64 E.op, .int .i64 E.of_, .string E.holder, .int .i64 E.kind, .slice (some ⟨g5, 0, none⟩) E.secs.length E.secs.length, .string E.text] 36)).heap[w.heap.size + 1]? = some (.cells #[.int .i64 E.op, .int .i64 E.of_, .string E.holder, .int .i64 E.kind, .slice ad E.secs.length ca, .string E.text] 28 (0, 0)) ∧ (w5.alloc (.cells #[.int .i64 E.op, .int .i64 E.of_, .string E.holder, .int .i64 E.kind, .slice (some ⟨g5, 0, none⟩) E.secs.length E.secs.length, .string E.text] 36)).heap[w4.heap.size]? = some (.cells #[.int .i64 B.n, .slice ao4 B.orders.length co4, .slice al4 B.locked.length cl4, .slice ac4 B.occ.length cc4] 34 (0, 0)) ∧ (w5.alloc (.cells #[.int .i64 E.op, .int .i64 E.of_, .string E.holder, .int .i64 E.kind, .slice (some ⟨g5, 0, none⟩) E.secs.length E.secs.length, .string E.text] 36)).heap[w5.heap.size]? = some (.cells #[.int .i64 E.op, .int .i64 E.of_, .string E.holder, .int .i64 E.kind, .slice (some ⟨g5, 0, none⟩) E.secs.length E.secs.length, .string E.text] 36 (0, 0)) ∧ Below w.heap.size w (w5.alloc (.cells #[.int .i64 E.op, .int .i64 E.of_, .string E.holder, .int .i64 E.kind, .slice (some ⟨g5, 0, none⟩) E.secs.length E.secs.length, .string E.text] 36)) ∧ BookAt (w5.alloc (.cells #[.int .i64 E.op, .int .i64 E.of_, .string E.holder, .int .i64 E.kind, .slice (some ⟨g5, 0, none⟩) E.secs.length E.secs.length, .string E.text] 36)) (.agg #[.int .i64 B.n, .slice ao4 B.orders.length co4, .slice al4 B.locked.length cl4, .slice ac4 B.occ.length cc4]) B ∧ EvAt (w5.alloc (.cells #[.int .i64 E.op, .int .i64 E.of_, .string E.holder, .int .i64 E.kind, .slice (some ⟨g5, 0, none⟩) E.secs.length E.secs.length, .string E.text] 36)) (.agg #[.int .i64 E.op, .int .i64 E.of_, .string E.holder, .int .i64 E.kind, .slice (some ⟨g5, 0, none⟩) E.secs.length E.secs.length, .string E.text]) E) :=
    ⟨(stx.block _ (by omega)).trans HX4.out.1, (stx.block _ (by omega)).trans HX4.out.2.1, (stx.block _ (by omega)).trans HX4.out.2.2, Deep.blk_alloc_new _ _, HW4.out.trans (stx.mono (by omega)), H4.out.below (by rw [sz]; exact stx), hE5.below st⟩
  obtain ⟨d0, d1, d2, d3⟩ : w5.cell? ⟨w4.heap.size, 0, none⟩ = some (.int .i64 B.n) ∧ w5.cell? ⟨w4.heap.size, 1, none⟩ = some (.slice ao4 B.orders.length co4) ∧ w5.cell? ⟨w4.heap.size, 2, none⟩ = some (.slice al4 B.locked.length cl4) ∧ w5.cell? ⟨w4.heap.size, 3, none⟩ = some (.slice ac4 B.occ.length cc4) := box4 ((hb.block _ (by omega)).trans HX4.out.2.2)
  clear hb sz st stx H4 HX4 HW4 hE5 e0 e1 e2 e3 e4 e5
  go_wp2_with fail
  -- g0 := impl.EventOk(x0, x1)
  refine (implEventOk_any _ _ B E _ HS.out.1.o HS.out.1.s (by have := HE.out; omega) (by have := HE.out; omega) (by have := HE.out; omega) HX6.out.2.2.2.2.2.1 HX6.out.2.2.2.2.2.2).mono ?_
  rintro e w7 ⟨⟨d, rfl, hd⟩, hb⟩
  have hcd : d = c := Bool.eq_iff_iff.2 (hd.trans HC.out.symm)
  subst hcd
  have bx7 := (hb.block _ (by omega : w.heap.size < (w5.alloc (.cells #[.int .i64 E.op, .int .i64 E.of_, .string E.holder, .int .i64 E.kind, .slice (some ⟨g5, 0, none⟩) E.secs.length E.secs.length, .string E.text] 36)).heap.size)).trans HX6.out.1
  have be7 := (hb.block _ (by omega : w.heap.size + 1 < (w5.alloc (.cells #[.int .i64 E.op, .int .i64 E.of_, .string E.holder, .int .i64 E.kind, .slice (some ⟨g5, 0, none⟩) E.secs.length E.secs.length, .string E.text] 36)).heap.size)).trans HX6.out.2.1
  have bb7 := (hb.block _ (by omega : w4.heap.size < (w5.alloc (.cells #[.int .i64 E.op, .int .i64 E.of_, .string E.holder, .int .i64 E.kind, .slice (some ⟨g5, 0, none⟩) E.secs.length E.secs.length, .string E.text] 36)).heap.size)).trans HX6.out.2.2.1
  have bf7 := (hb.block _ (by omega : w5.heap.size < (w5.alloc (.cells #[.int .i64 E.op, .int .i64 E.of_, .string E.holder, .int .i64 E.kind, .slice (some ⟨g5, 0, none⟩) E.secs.length E.secs.length, .string E.text] 36)).heap.size)).trans HX6.out.2.2.2.1
  have bw7 := below_trans HX6.out.2.2.2.2.1 HX6.out.2.2.2.2.1.size hb
  have z7 : w5.heap.size < w7.heap.size := by have := hb.size; omega
  have H7 : Hid (BookAt w7 (.agg #[.int .i64 B.n, .slice ao4 B.orders.length co4, .slice al4 B.locked.length cl4, .slice ac4 B.occ.length cc4]) B ∧ EvAt w7 (.agg #[.int .i64 E.op, .int .i64 E.of_, .string E.holder, .int .i64 E.kind, .slice (some ⟨g5, 0, none⟩) E.secs.length E.secs.length, .string E.text]) E) := ⟨HX6.out.2.2.2.2.2.1.below hb, HX6.out.2.2.2.2.2.2.below hb⟩
  have HX7 : Hid (w7.heap[w.heap.size]? = some (.cells #[.int .i64 B.n, .slice ao B.orders.length co, .slice al B.locked.length cl, .slice ac B.occ.length cc] 25 (0, 0)) ∧ w7.heap[w.heap.size + 1]? = some (.cells #[.int .i64 E.op, .int .i64 E.of_, .string E.holder, .int .i64 E.kind, .slice ad E.secs.length ca, .string E.text] 28 (0, 0)) ∧ w7.heap[w4.heap.size]? = some (.cells #[.int .i64 B.n, .slice ao4 B.orders.length co4, .slice al4 B.locked.length cl4, .slice ac4 B.occ.length cc4] 34 (0, 0)) ∧ w7.heap[w5.heap.size]? = some (.cells #[.int .i64 E.op, .int .i64 E.of_, .string E.holder, .int .i64 E.kind, .slice (some ⟨g5, 0, none⟩) E.secs.length E.secs.length, .string E.text] 36 (0, 0))) := ⟨bx7, be7, bb7, bf7⟩
  obtain ⟨c0, c1, c2, c3⟩ := box4 bx7
  obtain ⟨d0, d1, d2, d3⟩ := box4 bb7
  have y1 : w.heap.size < w7.heap.size := by omega
  have y2 : w4.heap.size < w7.heap.size := by omega
  have tn : (d != d) = false := by simp
  clear hb szz HX6 bx7 be7 bb7 bf7 hd
  go_wp2
  -- eqBook(x0, toBook(aB))
  go_region_held3 (fun w' => w'.cell? ⟨w4.heap.size, 0, none⟩ = some (.int .i64 B.n) ∧ w'.cell? ⟨w4.heap.size, 1, none⟩ = some (.slice ao4 B.orders.length co4) ∧ w'.cell? ⟨w4.heap.size, 2, none⟩ = some (.slice al4 B.locked.length cl4) ∧ w'.cell? ⟨w4.heap.size, 3, none⟩ = some (.slice ac4 B.occ.length cc4) ∧ w'.cell? ⟨w.heap.size, 0, none⟩ = some (.int .i64 B.n) ∧ w'.cell? ⟨w.heap.size, 1, none⟩ = some (.slice ao B.orders.length co) ∧ w'.cell? ⟨w.heap.size, 2, none⟩ = some (.slice al B.locked.length cl) ∧ w'.cell? ⟨w.heap.size, 3, none⟩ = some (.slice ac B.occ.length cc)) (go_keep)
    (first | (go_at_call 7; refine (toBook_any _ B _ HS.out.2 (HG.out.1.below bw7.drew)).mono ?_; rintro e w8 ⟨v8, K8, rfl, h8, hb8⟩; have hbR : Below w7.heap.size w7 w8 := (Below.refl _ _).drew.trans hb8; obtain ⟨hc1, hf1⟩ := bcell hbR; have H8 : Hid (BookAt w8 v8 B ∧ Below w7.heap.size w7 w8) := ⟨h8.bookAt, hbR⟩; clear hf1 hb8 hbR h8) | (go_at_call 10; refine (eqBook_same _ _ B _ HS.out.1.o HS.out.1.e HS.out.1.l HS.out.1.c (H7.out.1.below H8.out.2) H8.out.1).mono ?_; rintro e w9 ⟨rfl, hb9⟩; have hbR : Below w7.heap.size w7 w9 := below_trans H8.out.2 H8.out.2.size hb9; obtain ⟨hc1, hf1⟩ := bcell hbR; clear hf1 hb9))
  have bw9 := below_trans bw7 bw7.size hbR
  have be9 := (hbR.block _ (by omega : w.heap.size + 1 < w7.heap.size)).trans HX7.out.2.1
  have bf9 := (hbR.block _ z7).trans HX7.out.2.2.2
  have H9 : Hid (EvAt w9 (.agg #[.int .i64 E.op, .int .i64 E.of_, .string E.holder, .int .i64 E.kind, .slice (some ⟨g5, 0, none⟩) E.secs.length E.secs.length, .string E.text]) E) := H7.out.2.below hbR
  have y3 : w5.heap.size < w9.heap.size := Nat.lt_of_lt_of_le z7 hbR.size
  have y4 : w.heap.size + 1 < w9.heap.size := by omega
  clear hc1 hbR H7 HX7 y1 y2 z7 c0 c1 c2 c3 d0 d1 d2 d3 bw7 tn
  obtain ⟨e0, e1, e2, e3, e4, e5⟩ := ev_cells be9
  obtain ⟨f0, f1, f2, f3, f4, f5⟩ := ev_cells bf9
  clear be9 bf9
  go_wp2
  -- eqEvent(x1, toEvent(aE))
  go_region_held3 (fun w' => w'.cell? ⟨w.heap.size + 1, 0, none⟩ = some (.int .i64 E.op) ∧ w'.cell? ⟨w.heap.size + 1, 1, none⟩ = some (.int .i64 E.of_) ∧ w'.cell? ⟨w.heap.size + 1, 2, none⟩ = some (.string E.holder) ∧ w'.cell? ⟨w.heap.size + 1, 3, none⟩ = some (.int .i64 E.kind) ∧ w'.cell? ⟨w.heap.size + 1, 4, none⟩ = some (.slice ad E.secs.length ca) ∧ w'.cell? ⟨w.heap.size + 1, 5, none⟩ = some (.string E.text) ∧ w'.cell? ⟨w5.heap.size, 0, none⟩ = some (.int .i64 E.op) ∧ w'.cell? ⟨w5.heap.size, 1, none⟩ = some (.int .i64 E.of_) ∧ w'.cell? ⟨w5.heap.size, 2, none⟩ = some (.string E.holder) ∧ w'.cell? ⟨w5.heap.size, 3, none⟩ = some (.int .i64 E.kind) ∧ w'.cell? ⟨w5.heap.size, 4, none⟩ = some (.slice (some ⟨g5, 0, none⟩) E.secs.length E.secs.length) ∧ w'.cell? ⟨w5.heap.size, 5, none⟩ = some (.string E.text)) (go_keep)
    (first | (go_at_call 8; refine (toEvent_any _ E _ HE.out.2.2 (HG.out.2.2.1.below bw9.drew)).mono ?_; rintro e wA ⟨vA, gA, rfl, hA, hbA⟩; have hbR : Below w9.heap.size w9 wA := (Below.refl _ _).drew.trans hbA; obtain ⟨hc1, hf1⟩ := bcell hbR; have HA : Hid (EvAt wA vA E ∧ Below w9.heap.size w9 wA) := ⟨hA.evAt, hbR⟩; clear hf1 hbA hbR hA) | (go_at_call 11; refine (eqEvent_same _ _ E _ HE.out.2.2 (H9.out.below HA.out.2) HA.out.1).mono ?_; rintro e wB ⟨rfl, hbB⟩; have hbR : Below w9.heap.size w9 wB := below_trans HA.out.2 HA.out.2.size hbB; obtain ⟨hc1, hf1⟩ := bcell hbR; clear hf1 hbB))
  have bwB := below_trans bw9 bw9.size hbR
  clear hc1 hbR
  go_wp2
  go_ret
  exact ⟨rfl, bwB⟩

end Go.Proofs.Ytbgmgfnhmlpehab
