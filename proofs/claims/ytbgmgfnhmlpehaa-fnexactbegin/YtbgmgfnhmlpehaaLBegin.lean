/-
  laws.FnExactBegin: the walk out of contracts. Mine, by template (wip/gen.py).
-/
import Derived.Test.YtbgmgfnhmlpehaaBegin
import Derived.Test.YtbgmgfnhmlpehaaHeld
import Derived.Test.YtbgmgfnhmlpehaaEq
namespace Go.Proofs.Ytbgmgfnhmlpehaa
open Go.RowKit

theorem begin_small (s : Int) : (beginBk s).orders.length = 0 ∧ (beginBk s).locked.length ≤ 60 ∧ (beginBk s).occ.length ≤ 60 := by
  unfold beginBk
  split
  · refine ⟨rfl, ?_, ?_⟩ <;> simp <;> omega
  · exact ⟨rfl, by simp, by simp⟩

set_option maxHeartbeats 2000000 in
theorem fnExactBegin_walk (s : Int) (w : World) :
    Calls Try.prog 3 #[.int .i64 s] w fun e w' => e = .returned (.bool true) ∧ Below w.heap.size w w' := by
  obtain ⟨B, hB⟩ : ∃ B, B = beginBk s := ⟨_, rfl⟩
  have hsm : B.orders.length = 0 ∧ B.locked.length ≤ 60 ∧ B.occ.length ≤ 60 := by rw [hB]; exact begin_small s
  have e1 : B.orders.length ≤ 1048576 := by omega
  have e2 : ∀ i, i < B.orders.length → (B.orders.getD i Ord.zero).secs.length ≤ 4294967296 := fun i hi => by omega
  have e3 : B.locked.length ≤ 4294967296 := by omega
  have e4 : B.occ.length ≤ 4294967296 := by omega
  have e5 : bEnd B 1 ≤ 2305843009213693952 := by
    have : bK B 1 = 1 := by unfold bK; rw [hsm.1]; rfl
    unfold bEnd
    omega
  have HE : Hid (_ ∧ _ ∧ _ ∧ _ ∧ _) := ⟨e1, e2, e3, e4, e5⟩
  have HB : Hid (B = beginBk s) := hB
  clear hB e1 e2 e3 e4 e5 hsm
  go_enter Try.func3, Try.ntmps3
  go_wp2_with fail
  refine (specBegin_any s _).mono ?_
  rintro e w1 ⟨v0, rfl, ⟨K0, h0⟩, hb⟩
  rw [← HB.out] at h0
  obtain ⟨ao0, co0, al0, cl0, ac0, cc0, hv0, -⟩ := h0.shape
  subst hv0
  have pw : w.heap.size ≤ w1.heap.size := hb.size
  have lt0 : ∀ b, bookBlocks B K0 b → b < w1.heap.size := fun b h => h0.blocks_lt h
  obtain ⟨e1, e2, e3, e4, e5⟩ := HE.out
  have H0 : Hid (OwnBook w1 w.heap.size (.agg #[.int .i64 B.n, .slice ao0 B.orders.length co0, .slice al0 B.locked.length cl0, .slice ac0 B.occ.length cc0]) B K0 ∧ Below w.heap.size w w1) := ⟨h0, hb⟩
  clear h0 hb e1 e2 e3 e4 e5
  have HT : Hid (∀ b, bookBlocks B K0 b → b < w1.heap.size) := lt0
  clear lt0
  go_wp2_with fail
  refine (implBegin_any s _).mono ?_
  rintro e w2 ⟨v1, rfl, ⟨K1, h1⟩, hb⟩
  rw [← HB.out] at h1
  obtain ⟨ao1, co1, al1, cl1, ac1, cc1, hv1, -⟩ := h1.shape
  subst hv1
  have sz1 : (w1.alloc (.cells #[.int .i64 B.n, .slice ao0 B.orders.length co0, .slice al0 B.locked.length cl0, .slice ac0 B.occ.length cc0] 25)).heap.size = w1.heap.size + 1 := by simp
  rw [sz1] at h1 hb
  have pz : w1.heap.size < w2.heap.size := by have := hb.size; rw [sz1] at this; omega
  have bx0 : w2.heap[w1.heap.size]? = some (.cells #[.int .i64 B.n, .slice ao0 B.orders.length co0, .slice al0 B.locked.length cl0, .slice ac0 B.occ.length cc0] 25 (0, 0)) := (hb.block _ (by omega)).trans (box_new _ _)
  have O0 : OwnBook w2 w.heap.size (.agg #[.int .i64 B.n, .slice ao0 B.orders.length co0, .slice al0 B.locked.length cl0, .slice ac0 B.occ.length cc0]) B K0 := (H0.out.1.below (below1 _ _)).below (by rw [sz1]; exact hb)
  have Bw : Below w.heap.size w w2 := below_trans (H0.out.2) H0.out.2.size ((below1 _ _).trans (hb.mono (by omega)))
  have H1 : Hid (OwnBook w2 w.heap.size (.agg #[.int .i64 B.n, .slice ao0 B.orders.length co0, .slice al0 B.locked.length cl0, .slice ac0 B.occ.length cc0]) B K0 ∧ OwnBook w2 (w1.heap.size + 1) (.agg #[.int .i64 B.n, .slice ao1 B.orders.length co1, .slice al1 B.locked.length cl1, .slice ac1 B.occ.length cc1]) B K1 ∧ Below w.heap.size w w2 ∧ w2.heap[w1.heap.size]? = some (.cells #[.int .i64 B.n, .slice ao0 B.orders.length co0, .slice al0 B.locked.length cl0, .slice ac0 B.occ.length cc0] 25 (0, 0))) := ⟨O0, h1, Bw, bx0⟩
  obtain ⟨c00, c01, c02, c03⟩ := box_cells bx0
  clear h1 hb sz1 H0 O0 Bw bx0
  go_wp2_with fail
  -- eqBook(g0, w0)
  have st1 : Below w2.heap.size w2 (w2.alloc (.cells #[.int .i64 B.n, .slice ao1 B.orders.length co1, .slice al1 B.locked.length cl1, .slice ac1 B.occ.length cc1] 25)) := below1 _ _
  refine (eqBook_same _ _ B _ HE.out.1 HE.out.2.1 HE.out.2.2.1 HE.out.2.2.2.1 ((H1.out.2.1.below st1).bookAt) ((H1.out.1.below st1).bookAt)).mono ?_
  rintro e w3 ⟨rfl, hb⟩
  have sz2 : (w2.alloc (.cells #[.int .i64 B.n, .slice ao1 B.orders.length co1, .slice al1 B.locked.length cl1, .slice ac1 B.occ.length cc1] 25)).heap.size = w2.heap.size + 1 := by simp
  have st2 : Below w2.heap.size w2 w3 := st1.trans (hb.mono (by omega))
  have bx1 : w3.heap[w2.heap.size]? = some (.cells #[.int .i64 B.n, .slice ao1 B.orders.length co1, .slice al1 B.locked.length cl1, .slice ac1 B.occ.length cc1] 25 (0, 0)) := (hb.block _ (by omega)).trans (box_new _ _)
  have qz : w2.heap.size < w3.heap.size := by have := hb.size; omega
  have H2 : Hid (OwnBook w3 w.heap.size (.agg #[.int .i64 B.n, .slice ao0 B.orders.length co0, .slice al0 B.locked.length cl0, .slice ac0 B.occ.length cc0]) B K0 ∧ OwnBook w3 (w1.heap.size + 1) (.agg #[.int .i64 B.n, .slice ao1 B.orders.length co1, .slice al1 B.locked.length cl1, .slice ac1 B.occ.length cc1]) B K1 ∧ Below w.heap.size w w3 ∧ w3.heap[w1.heap.size]? = some (.cells #[.int .i64 B.n, .slice ao0 B.orders.length co0, .slice al0 B.locked.length cl0, .slice ac0 B.occ.length cc0] 25 (0, 0)) ∧ w3.heap[w2.heap.size]? = some (.cells #[.int .i64 B.n, .slice ao1 B.orders.length co1, .slice al1 B.locked.length cl1, .slice ac1 B.occ.length cc1] 25 (0, 0))) :=
    ⟨H1.out.1.below st2, H1.out.2.1.below st2, below_trans H1.out.2.2.1 H1.out.2.2.1.size st2, (st2.block _ pz).trans H1.out.2.2.2, bx1⟩
  have HQ : Hid (∀ b, bookBlocks B K1 b → w1.heap.size + 1 ≤ b ∧ b < w2.heap.size) := fun b h => ⟨H1.out.2.1.blocks_low h, H1.out.2.1.blocks_lt h⟩
  obtain ⟨c10, c11, c12, c13⟩ := box_cells bx1
  clear hb sz2 st1 st2 bx1 H1 c00 c01 c02 c03
  go_wp2_with fail
  -- markBook(g0, 1)
  have hm := markBook_any (.agg #[.int .i64 B.n, .slice ao1 B.orders.length co1, .slice al1 B.locked.length cl1, .slice ac1 B.occ.length cc1]) B K1 (w1.heap.size + 1) 1 w3 (by omega) HE.out.2.2.2.2 HE.out.1 H2.out.2.1
  refine hm.mono ?_
  clear hm
  rintro e w4 ⟨rfl, O1, f4⟩
  have bx1 : w4.heap[w2.heap.size]? = some (.cells #[.int .i64 B.n, .slice ao1 B.orders.length co1, .slice al1 B.locked.length cl1, .slice ac1 B.occ.length cc1] 25 (0, 0)) := (f4.block _ qz (fun h => by have := (HQ.out _ h).2; omega)).trans H2.out.2.2.2.2
  have bx0 : w4.heap[w1.heap.size]? = some (.cells #[.int .i64 B.n, .slice ao0 B.orders.length co0, .slice al0 B.locked.length cl0, .slice ac0 B.occ.length cc0] 25 (0, 0)) := (f4.block _ (by omega) (fun h => by have := (HQ.out _ h).1; omega)).trans H2.out.2.2.2.1
  have O0 : OwnBook w4 w.heap.size (.agg #[.int .i64 B.n, .slice ao0 B.orders.length co0, .slice al0 B.locked.length cl0, .slice ac0 B.occ.length cc0]) B K0 := H2.out.1.fr f4 (fun b h h' => by have := HT.out b h; have := (HQ.out _ h').1; omega)
  have Bw : Below w.heap.size w w4 := H2.out.2.2.1.trans (f4.below (by omega) (fun b h => by have := (HQ.out _ h).1; omega))
  have rz : w2.heap.size < w4.heap.size := Nat.lt_of_lt_of_le qz f4.size
  obtain ⟨c10, c11, c12, c13⟩ := box_cells bx1
  have H3 : Hid (OwnBook w4 w.heap.size (.agg #[.int .i64 B.n, .slice ao0 B.orders.length co0, .slice al0 B.locked.length cl0, .slice ac0 B.occ.length cc0]) B K0 ∧ OwnBook w4 (w1.heap.size + 1) (.agg #[.int .i64 B.n, .slice ao1 B.orders.length co1, .slice al1 B.locked.length cl1, .slice ac1 B.occ.length cc1]) (mBk B 1) K1 ∧ Below w.heap.size w w4 ∧ w4.heap[w1.heap.size]? = some (.cells #[.int .i64 B.n, .slice ao0 B.orders.length co0, .slice al0 B.locked.length cl0, .slice ac0 B.occ.length cc0] 25 (0, 0)) ∧ w4.heap[w2.heap.size]? = some (.cells #[.int .i64 B.n, .slice ao1 B.orders.length co1, .slice al1 B.locked.length cl1, .slice ac1 B.occ.length cc1] 25 (0, 0))) := ⟨O0, O1, Bw, bx0, bx1⟩
  clear O0 O1 Bw bx0 bx1 f4 H2
  go_wp2_with fail
  -- heldBook(g0, 1)
  have hm := heldBook_any (.agg #[.int .i64 B.n, .slice ao1 B.orders.length co1, .slice al1 B.locked.length cl1, .slice ac1 B.occ.length cc1]) B 1 w4 (by omega) HE.out.2.2.2.2 HE.out.1 H3.out.2.1.bookAt
  refine hm.mono ?_
  clear hm
  rintro e w5 ⟨rfl, hb⟩
  have sz : w4.heap.size ≤ w5.heap.size := hb.size
  have H4 : Hid (OwnBook w5 w.heap.size (.agg #[.int .i64 B.n, .slice ao0 B.orders.length co0, .slice al0 B.locked.length cl0, .slice ac0 B.occ.length cc0]) B K0 ∧ OwnBook w5 (w1.heap.size + 1) (.agg #[.int .i64 B.n, .slice ao1 B.orders.length co1, .slice al1 B.locked.length cl1, .slice ac1 B.occ.length cc1]) (mBk B 1) K1 ∧ Below w.heap.size w w5 ∧ w5.heap[w1.heap.size]? = some (.cells #[.int .i64 B.n, .slice ao0 B.orders.length co0, .slice al0 B.locked.length cl0, .slice ac0 B.occ.length cc0] 25 (0, 0)) ∧ w5.heap[w2.heap.size]? = some (.cells #[.int .i64 B.n, .slice ao1 B.orders.length co1, .slice al1 B.locked.length cl1, .slice ac1 B.occ.length cc1] 25 (0, 0))) :=
    ⟨H3.out.1.below hb, H3.out.2.1.below hb, below_trans H3.out.2.2.1 H3.out.2.2.1.size hb, (hb.block _ (by omega)).trans H3.out.2.2.2.1, (hb.block _ (by omega)).trans H3.out.2.2.2.2⟩
  have nn : (0 : Int) ≤ (bEnd B 1 : Int) := by omega
  clear hb H3 c10 c11 c12 c13
  go_wp2_with fail
  -- Begin again
  refine (implBegin_any s _).mono ?_
  rintro e w6 ⟨v2, rfl, ⟨K2, h2⟩, hb⟩
  rw [← HB.out] at h2
  obtain ⟨ao2, co2, al2, cl2, ac2, cc2, hv2, -⟩ := h2.shape
  subst hv2
  have sz6 : w5.heap.size ≤ w6.heap.size := hb.size
  have bx0 : w6.heap[w1.heap.size]? = some (.cells #[.int .i64 B.n, .slice ao0 B.orders.length co0, .slice al0 B.locked.length cl0, .slice ac0 B.occ.length cc0] 25 (0, 0)) := (hb.block _ (by omega)).trans H4.out.2.2.2.1
  have p6 : w1.heap.size < w6.heap.size := by omega
  have H5 : Hid (OwnBook w6 w.heap.size (.agg #[.int .i64 B.n, .slice ao0 B.orders.length co0, .slice al0 B.locked.length cl0, .slice ac0 B.occ.length cc0]) B K0 ∧ OwnBook w6 (w1.heap.size + 1) (.agg #[.int .i64 B.n, .slice ao1 B.orders.length co1, .slice al1 B.locked.length cl1, .slice ac1 B.occ.length cc1]) (mBk B 1) K1 ∧ Below w.heap.size w w6 ∧ OwnBook w6 w5.heap.size (.agg #[.int .i64 B.n, .slice ao2 B.orders.length co2, .slice al2 B.locked.length cl2, .slice ac2 B.occ.length cc2]) B K2 ∧ w6.heap[w2.heap.size]? = some (.cells #[.int .i64 B.n, .slice ao1 B.orders.length co1, .slice al1 B.locked.length cl1, .slice ac1 B.occ.length cc1] 25 (0, 0))) :=
    ⟨H4.out.1.below hb, H4.out.2.1.below hb, below_trans H4.out.2.2.1 H4.out.2.2.1.size hb, h2, (hb.block _ (by omega)).trans H4.out.2.2.2.2⟩
  obtain ⟨c00, c01, c02, c03⟩ := box_cells bx0
  clear hb H4 h2 bx0
  go_wp2_with fail
  -- eqBook(h0, w0)
  have st1 : Below w6.heap.size w6 (w6.alloc (.cells #[.int .i64 B.n, .slice ao2 B.orders.length co2, .slice al2 B.locked.length cl2, .slice ac2 B.occ.length cc2] 25)) := below1 _ _
  refine (eqBook_same _ _ B _ HE.out.1 HE.out.2.1 HE.out.2.2.1 HE.out.2.2.2.1 ((H5.out.2.2.2.1.below st1).bookAt) ((H5.out.1.below st1).bookAt)).mono ?_
  rintro e w7 ⟨rfl, hb⟩
  have sz2 : (w6.alloc (.cells #[.int .i64 B.n, .slice ao2 B.orders.length co2, .slice al2 B.locked.length cl2, .slice ac2 B.occ.length cc2] 25)).heap.size = w6.heap.size + 1 := by simp
  have st2 : Below w6.heap.size w6 w7 := st1.trans (hb.mono (by omega))
  have bx1 : w7.heap[w2.heap.size]? = some (.cells #[.int .i64 B.n, .slice ao1 B.orders.length co1, .slice al1 B.locked.length cl1, .slice ac1 B.occ.length cc1] 25 (0, 0)) := (st2.block _ (by omega)).trans H5.out.2.2.2.2
  have H6 : Hid (OwnBook w7 (w1.heap.size + 1) (.agg #[.int .i64 B.n, .slice ao1 B.orders.length co1, .slice al1 B.locked.length cl1, .slice ac1 B.occ.length cc1]) (mBk B 1) K1 ∧ Below w.heap.size w w7) := ⟨H5.out.2.1.below st2, below_trans H5.out.2.2.1 H5.out.2.2.1.size st2⟩
  obtain ⟨c10, c11, c12, c13⟩ := box_cells bx1
  clear hb sz2 st1 st2 bx1 H5 c00 c01 c02 c03
  go_wp2_with fail
  have hm := heldBook_any (.agg #[.int .i64 B.n, .slice ao1 B.orders.length co1, .slice al1 B.locked.length cl1, .slice ac1 B.occ.length cc1]) B 1 w7 (by omega) HE.out.2.2.2.2 HE.out.1 H6.out.1.bookAt
  refine hm.mono ?_
  clear hm
  rintro e w8 ⟨rfl, hb⟩
  have H7 : Hid (Below w.heap.size w w8) := below_trans H6.out.2 H6.out.2.size hb
  clear hb H6
  go_wp2
  go_ret
  exact ⟨rfl, H7.out⟩

end Go.Proofs.Ytbgmgfnhmlpehaa
