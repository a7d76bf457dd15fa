/-
  laws.FnExactOpen: the walk out of contracts. Mine, by template (wip/gen.py).
-/
import Derived.Test.YtbgmgfnhmlpehaaOpenL
import Derived.Test.YtbgmgfnhmlpehaaLBookOk
import Derived.Test.YtbgmgfnhmlpehaaHeld
namespace Go.Proofs.Ytbgmgfnhmlpehaa
open Go.RowKit

theorem kAt_bulk (xs : List Ord) (k n : Nat) (h : n ≤ xs.length) : kAt (fun i => xs.getD i Ord.zero) k n ≤ k + 3 * n + wOrds (xs.take n) := by
  induction n with
  | zero => simp [kAt]
  | succ n ih =>
    have h1 := ih (by omega)
    have h2 := wOrds_take xs n (by omega)
    simp only [kAt]
    unfold wOrd at h2
    omega

theorem bEnd_small {B : Bk} (h : wBk B ≤ 1048576) : bEnd B 1 ≤ 2305843009213693952 := by
  have h1 := kAt_bulk B.orders 1 B.orders.length (Nat.le_refl _)
  rw [List.take_length] at h1
  have h2 : bK B 1 = kAt (fun i => B.orders.getD i Ord.zero) 1 B.orders.length := rfl
  unfold wBk at h
  unfold bEnd
  omega

set_option maxHeartbeats 4000000 in
theorem fnExactOpen_walk (v : Value) (B : Bk) (w : World) (hwf : BkWf B) (G : BookAt w v B) :
    Calls Try.prog 5 #[v] w fun e w' => e = .returned (.bool true) ∧ Below w.heap.size w w' := by
  have G0 := G
  obtain ⟨ao, co, al, cl, ac, cc, rfl, -⟩ := G
  have HG : Hid (BookAt w (.agg #[.int .i64 B.n, .slice ao B.orders.length co, .slice al B.locked.length cl, .slice ac B.occ.length cc]) B ∧ BkWf B) := ⟨G0, hwf⟩
  clear G0 hwf
  go_enter Try.func5, Try.ntmps5
  go_wp2_with fail
  have B1 := below1 w (.cells #[.int .i64 B.n, .slice ao B.orders.length co, .slice al B.locked.length cl, .slice ac B.occ.length cc] 32)
  have hwf := HG.out.2
  refine (szBook_any _ B 1048576 _ (by have := hwf.o; unfold maxLen at this; exact this) (fun i hi => by have := hwf.x i hi; unfold OrdWf maxLen at this; exact this) (by have := hwf.l; unfold maxLen at this; exact this) (by have := hwf.c; unfold maxLen at this; exact this) (by omega) (by omega) (HG.out.1.below B1)).mono ?_
  clear hwf
  rintro e w1 ⟨r, rfl, hr, hb⟩
  have bx : w1.heap[w.heap.size]? = some (.cells #[.int .i64 B.n, .slice ao B.orders.length co, .slice al B.locked.length cl, .slice ac B.occ.length cc] 32 (0, 0)) := (hb.block _ (by simp)).trans (Deep.blk_alloc_new _ _)
  have bw : Below w.heap.size w w1 := B1.trans (hb.mono (by simp))
  have z : w.heap.size < w1.heap.size := by have := hb.size; simp at this; omega
  clear hb B1
  by_cases hneg : r < 0
  · clear hr bx
    go_wp2
    go_ret
    exact ⟨rfl, bw⟩
  have hsm : wBk B ≤ 1048576 := by rcases hr with h | h <;> omega
  have HS : Hid (Small B ∧ wBk B ≤ 1048576) := ⟨small_of hsm, hsm⟩
  have HEnd : Hid (bEnd B 1 ≤ 2305843009213693952) := bEnd_small hsm
  clear hr hsm
  obtain ⟨c0, c1, c2, c3⟩ : w1.cell? ⟨w.heap.size, 0, none⟩ = some (.int .i64 B.n) ∧ w1.cell? ⟨w.heap.size, 1, none⟩ = some (.slice ao B.orders.length co) ∧ w1.cell? ⟨w.heap.size, 2, none⟩ = some (.slice al B.locked.length cl) ∧ w1.cell? ⟨w.heap.size, 3, none⟩ = some (.slice ac B.occ.length cc) := by simp [World.cell?, bx]
  clear c0 c1 c2 c3
  obtain ⟨c0, c1, c2, c3⟩ := box_cells bx
  go_wp2_with fail
  -- w0 := spec.Open(toBook(aB))
  refine (toBook_any _ B _ HS.out.2 (HG.out.1.below bw)).mono ?_
  rintro e w2 ⟨v2, K2, rfl, h2, hb⟩
  have bx2 := (hb.block _ z).trans bx
  have bw2 := below_trans bw bw.size hb
  have z2 : w.heap.size < w2.heap.size := Nat.lt_of_lt_of_le z hb.size
  have H2 : Hid (BookAt w2 v2 B) := h2.bookAt
  clear hb bx bw z h2 c0 c1 c2 c3
  go_wp2_with fail
  refine (specOpen_any v2 B _ HS.out.1.o HS.out.1.s ⟨HG.out.2.n0, HG.out.2.n1⟩ H2.out).mono ?_
  rintro e w3 ⟨⟨vw, l, gw, rfl, hl, ⟨adw, capw, rfl, hw3⟩⟩, hb⟩
  have HL : Hid (OpenIs B l) := hl
  have hlen : l.length ≤ 1048576 := Nat.le_trans hl.le HS.out.1.o
  have bx3 := (hb.block _ z2).trans bx2
  have bw3 := below_trans bw2 bw2.size hb
  have z3 : w.heap.size < w3.heap.size := Nat.lt_of_lt_of_le z2 hb.size
  have P3 : Hid (0 < l.length → adw = some ⟨gw, 0, none⟩ ∧ Pre w3 gw 3 l.length (iV l)) := fun hp => ⟨(hw3 hp).1, (hw3 hp).2.2⟩
  clear hl hb bx2 bw2 z2 H2 hw3
  obtain ⟨c0, c1, c2, c3⟩ := box_cells bx3
  go_wp2_with fail
  -- x0 := toBook(aB)
  refine (toBook_any _ B _ HS.out.2 (HG.out.1.below bw3)).mono ?_
  rintro e w4 ⟨v4, K4, rfl, h4, hb⟩
  obtain ⟨ao4, co4, al4, cl4, ac4, cc4, hv4, -⟩ := h4.shape
  subst hv4
  have bx4 := (hb.block _ z3).trans bx3
  have bw4 := below_trans bw3 bw3.size hb
  have z34 : w3.heap.size ≤ w4.heap.size := hb.size
  have z4 : w.heap.size < w4.heap.size := Nat.lt_of_lt_of_le z3 hb.size
  have H4 : Hid (OwnBook w4 w3.heap.size (.agg #[.int .i64 B.n, .slice ao4 B.orders.length co4, .slice al4 B.locked.length cl4, .slice ac4 B.occ.length cc4]) B K4 ∧ (0 < l.length → adw = some ⟨gw, 0, none⟩ ∧ Pre w4 gw 3 l.length (iV l) ∧ gw < w3.heap.size)) := ⟨h4, fun hp => ⟨(P3.out hp).1, (P3.out hp).2.of_block (hb.block _ (P3.out hp).2.lt), (P3.out hp).2.lt⟩⟩
  have HK : Hid (∀ x, bookBlocks B K4 x → w3.heap.size ≤ x ∧ x < w4.heap.size) := fun x hx => ⟨h4.blocks_low hx, h4.blocks_lt hx⟩
  clear hb bx3 bw3 h4 c0 c1 c2 c3 P3
  go_wp2_with fail
  -- g0 := impl.Open(x0)
  have st : Below w4.heap.size w4 (w4.alloc (.cells #[.int .i64 B.n, .slice ao4 B.orders.length co4, .slice al4 B.locked.length cl4, .slice ac4 B.occ.length cc4] 25)) := below1 _ _
  refine (implOpen_any _ B _ HS.out.1.o HS.out.1.s (H4.out.1.below st).bookAt).mono ?_
  rintro e w5 ⟨⟨vg, l', gg, rfl, hl', ⟨adg, capg, rfl, hg5⟩⟩, hb⟩
  obtain rfl : l' = l := hl'.det HL.out
  have sz : (w4.alloc (.cells #[.int .i64 B.n, .slice ao4 B.orders.length co4, .slice al4 B.locked.length cl4, .slice ac4 B.occ.length cc4] 25)).heap.size = w4.heap.size + 1 := by simp
  have st5 : Below w4.heap.size w4 w5 := st.trans (hb.mono (by omega))
  have bx5 : w5.heap[w4.heap.size]? = some (.cells #[.int .i64 B.n, .slice ao4 B.orders.length co4, .slice al4 B.locked.length cl4, .slice ac4 B.occ.length cc4] 25 (0, 0)) := (hb.block _ (by omega)).trans (Deep.blk_alloc_new _ _)
  have by5 := (st5.block _ z4).trans bx4
  have bw5 := below_trans bw4 bw4.size st5
  have z5 : w4.heap.size < w5.heap.size := by have := hb.size; omega
  have H5 : Hid (OwnBook w5 w3.heap.size (.agg #[.int .i64 B.n, .slice ao4 B.orders.length co4, .slice al4 B.locked.length cl4, .slice ac4 B.occ.length cc4]) B K4 ∧ (0 < l'.length → adw = some ⟨gw, 0, none⟩ ∧ Pre w5 gw 3 l'.length (iV l') ∧ gw < w3.heap.size) ∧ (0 < l'.length → adg = some ⟨gg, 0, none⟩ ∧ Pre w5 gg 3 l'.length (iV l') ∧ w4.heap.size < gg)) :=
    ⟨H4.out.1.below st5, fun hp => ⟨(H4.out.2 hp).1, (H4.out.2 hp).2.1.of_block (st5.block _ (H4.out.2 hp).2.1.lt), (H4.out.2 hp).2.2⟩, fun hp => ⟨(hg5 hp).1, (hg5 hp).2.2, by have := (hg5 hp).2.1; omega⟩⟩
  clear hb sz st st5 bx4 bw4 hl' H4 hg5
  go_wp2_with fail
  -- eqIntS(g0, w0)
  refine (eqIntS_same adg adw capg capw l'.length (fun i => l'.getD i 0) _ (by omega) (pre_cells (fun hp => ⟨(H5.out.2.2 hp).1, (H5.out.2.2 hp).2.1⟩)) (pre_cells (fun hp => ⟨(H5.out.2.1 hp).1, (H5.out.2.1 hp).2.1⟩))).mono ?_
  rintro e w6 ⟨rfl, hb⟩
  have bx6 := (hb.block _ z5).trans bx5
  have by6 := (hb.block _ (by omega : w.heap.size < w5.heap.size)).trans by5
  have bw6 := below_trans bw5 bw5.size hb
  have z6 : w4.heap.size < w6.heap.size := Nat.lt_of_lt_of_le z5 hb.size
  have z6' : w.heap.size < w6.heap.size := by omega
  have H6 : Hid (OwnBook w6 w3.heap.size (.agg #[.int .i64 B.n, .slice ao4 B.orders.length co4, .slice al4 B.locked.length cl4, .slice ac4 B.occ.length cc4]) B K4 ∧ (0 < l'.length → adw = some ⟨gw, 0, none⟩ ∧ Pre w6 gw 3 l'.length (iV l') ∧ gw < w3.heap.size) ∧ (0 < l'.length → adg = some ⟨gg, 0, none⟩ ∧ Pre w6 gg 3 l'.length (iV l') ∧ w4.heap.size < gg)) :=
    ⟨H5.out.1.below hb, fun hp => ⟨(H5.out.2.1 hp).1, (H5.out.2.1 hp).2.1.of_block (hb.block _ (H5.out.2.1 hp).2.1.lt), (H5.out.2.1 hp).2.2⟩, fun hp => ⟨(H5.out.2.2 hp).1, (H5.out.2.2 hp).2.1.of_block (hb.block _ (H5.out.2.2 hp).2.1.lt), (H5.out.2.2 hp).2.2⟩⟩
  obtain ⟨d0, d1, d2, d3⟩ := box_cells bx6
  obtain ⟨c0, c1, c2, c3⟩ := box_cells by6
  have HB6 : Hid (w6.heap[w4.heap.size]? = some (.cells #[.int .i64 B.n, .slice ao4 B.orders.length co4, .slice al4 B.locked.length cl4, .slice ac4 B.occ.length cc4] 25 (0, 0)) ∧ w6.heap[w.heap.size]? = some (.cells #[.int .i64 B.n, .slice ao B.orders.length co, .slice al B.locked.length cl, .slice ac B.occ.length cc] 32 (0, 0))) := ⟨bx6, by6⟩
  clear hb H5 bx5 by5 bw5 z5 bx6 by6
  go_wp2
  -- eqBook(x0, toBook(aB))
  go_region_held3 (fun w' => w'.cell? ⟨w4.heap.size, 0, none⟩ = some (.int .i64 B.n) ∧ w'.cell? ⟨w4.heap.size, 1, none⟩ = some (.slice ao4 B.orders.length co4) ∧ w'.cell? ⟨w4.heap.size, 2, none⟩ = some (.slice al4 B.locked.length cl4) ∧ w'.cell? ⟨w4.heap.size, 3, none⟩ = some (.slice ac4 B.occ.length cc4) ∧ w'.cell? ⟨w.heap.size, 0, none⟩ = some (.int .i64 B.n) ∧ w'.cell? ⟨w.heap.size, 1, none⟩ = some (.slice ao B.orders.length co) ∧ w'.cell? ⟨w.heap.size, 2, none⟩ = some (.slice al B.locked.length cl) ∧ w'.cell? ⟨w.heap.size, 3, none⟩ = some (.slice ac B.occ.length cc)) (go_keep)
    (first | (go_at_call 14; refine (toBook_any _ B _ HS.out.2 (HG.out.1.below bw6.drew)).mono ?_; rintro e wa ⟨va, Ka, rfl, ha, hba⟩; have hbR : Below w6.heap.size w6 wa := (Below.refl _ _).drew.trans hba; obtain ⟨hc1, hf1⟩ := bcell hbR; have HRa : Hid (BookAt wa va B ∧ Below w6.heap.size w6 wa) := ⟨ha.bookAt, hbR⟩; clear hf1 hba hbR ha) | (go_at_call 9; refine (eqBook_same _ _ B _ HS.out.1.o HS.out.1.e HS.out.1.l HS.out.1.c (H6.out.1.bookAt.below HRa.out.2) HRa.out.1).mono ?_; rintro e w7 ⟨rfl, hb7⟩; have hbR : Below w6.heap.size w6 w7 := below_trans HRa.out.2 HRa.out.2.size hb7; obtain ⟨hc1, hf1⟩ := bcell hbR; clear hf1 hb7))
  have bw7 := below_trans bw6 bw6.size hbR
  have bx7 := (hbR.block _ z6).trans HB6.out.1
  have by7 := (hbR.block _ z6').trans HB6.out.2
  have z7 : w4.heap.size < w7.heap.size := Nat.lt_of_lt_of_le z6 hbR.size
  have H7 : Hid (OwnBook w7 w3.heap.size (.agg #[.int .i64 B.n, .slice ao4 B.orders.length co4, .slice al4 B.locked.length cl4, .slice ac4 B.occ.length cc4]) B K4 ∧ (0 < l'.length → adw = some ⟨gw, 0, none⟩ ∧ Pre w7 gw 3 l'.length (iV l') ∧ gw < w3.heap.size) ∧ (0 < l'.length → adg = some ⟨gg, 0, none⟩ ∧ Pre w7 gg 3 l'.length (iV l') ∧ w4.heap.size < gg)) :=
    ⟨H6.out.1.below hbR, fun hp => ⟨(H6.out.2.1 hp).1, (H6.out.2.1 hp).2.1.of_block (hbR.block _ (H6.out.2.1 hp).2.1.lt), (H6.out.2.1 hp).2.2⟩, fun hp => ⟨(H6.out.2.2 hp).1, (H6.out.2.2 hp).2.1.of_block (hbR.block _ (H6.out.2.2 hp).2.1.lt), (H6.out.2.2 hp).2.2⟩⟩
  clear hc1 hbR HRa H6 d0 d1 d2 d3 c0 c1 c2 c3 HB6 bw6 z6 z6'
  obtain ⟨d0, d1, d2, d3⟩ := box_cells bx7
  go_wp2_with fail
  -- markBook(x0, 1)
  have hm := markBook_any (.agg #[.int .i64 B.n, .slice ao4 B.orders.length co4, .slice al4 B.locked.length cl4, .slice ac4 B.occ.length cc4]) B K4 w3.heap.size 1 w7 (by omega) HEnd.out HS.out.1.o H7.out.1
  refine hm.mono ?_
  clear hm
  rintro e w8 ⟨rfl, -, f8⟩
  have by8 := (f8.block _ (by omega) (fun h => by have := (HK.out _ h).1; omega)).trans by7
  have bw8 : Below w.heap.size w w8 := bw7.trans (f8.below (by omega) (fun x h => by have := (HK.out _ h).1; omega))
  have z8 : w.heap.size < w8.heap.size := by have := f8.size; omega
  have P8 : Hid ((0 < l'.length → adw = some ⟨gw, 0, none⟩ ∧ Pre w8 gw 3 l'.length (iV l') ∧ gw < w3.heap.size) ∧ (0 < l'.length → adg = some ⟨gg, 0, none⟩ ∧ Pre w8 gg 3 l'.length (iV l') ∧ w4.heap.size < gg)) :=
    ⟨fun hp => ⟨(H7.out.2.1 hp).1, f8.row (H7.out.2.1 hp).2.1 (fun h => by have := (HK.out _ h).1; have := (H7.out.2.1 hp).2.2; omega), (H7.out.2.1 hp).2.2⟩, fun hp => ⟨(H7.out.2.2 hp).1, f8.row (H7.out.2.2 hp).2.1 (fun h => by have := (HK.out _ h).2; have := (H7.out.2.2 hp).2.2; omega), (H7.out.2.2 hp).2.2⟩⟩
  have nn : (0 : Int) ≤ (bEnd B 1 : Int) := by omega
  clear f8 H7 by7 bx7 bw7 z7 d0 d1 d2 d3
  go_wp2_with fail
  -- eqIntS(g0, w0) again
  refine (eqIntS_same adg adw capg capw l'.length (fun i => l'.getD i 0) _ (by omega) (pre_cells (fun hp => ⟨(P8.out.2 hp).1, (P8.out.2 hp).2.1⟩)) (pre_cells (fun hp => ⟨(P8.out.1 hp).1, (P8.out.1 hp).2.1⟩))).mono ?_
  rintro e w9 ⟨rfl, hb⟩
  have by9 := (hb.block _ z8).trans by8
  have bw9 := below_trans bw8 bw8.size hb
  have z9 : w.heap.size < w9.heap.size := Nat.lt_of_lt_of_le z8 hb.size
  have P9 : Hid ((0 < l'.length → adw = some ⟨gw, 0, none⟩ ∧ Pre w9 gw 3 l'.length (iV l') ∧ gw < w3.heap.size) ∧ (0 < l'.length → adg = some ⟨gg, 0, none⟩ ∧ Pre w9 gg 3 l'.length (iV l') ∧ w4.heap.size < gg)) :=
    ⟨fun hp => ⟨(P8.out.1 hp).1, (P8.out.1 hp).2.1.of_block (hb.block _ (P8.out.1 hp).2.1.lt), (P8.out.1 hp).2.2⟩, fun hp => ⟨(P8.out.2 hp).1, (P8.out.2 hp).2.1.of_block (hb.block _ (P8.out.2 hp).2.1.lt), (P8.out.2 hp).2.2⟩⟩
  clear hb P8 by8 bw8 z8
  go_wp2_with fail
  -- markIntS(g0, 1)
  refine (markIntS_any adg capg l'.length gg (iV l') 1 _ (by omega) (by omega) (fun hp => (P9.out.2 hp).1) (fun hp => (P9.out.2 hp).2.1)).mono ?_
  rintro e wa ⟨rfl, ua, fa⟩
  have bya := (fa.block _ z9 (fun h => by have := (P9.out.2 h.1).2.2; omega)).trans by9
  have bwa : Below w.heap.size w wa := bw9.trans (fa.below (by omega) (fun x h => by have := (P9.out.2 h.1).2.2; omega))
  have za : w.heap.size < wa.heap.size := by have := fa.size; omega
  have Pa : Hid ((0 < l'.length → adw = some ⟨gw, 0, none⟩ ∧ Pre wa gw 3 l'.length (iV l')) ∧ (0 < l'.length → adg = some ⟨gg, 0, none⟩ ∧ Pre wa gg 3 l'.length (fun i => .int .i64 (1 + (i : Int))))) :=
    ⟨fun hp => ⟨(P9.out.1 hp).1, fa.row (P9.out.1 hp).2.1 (fun h => by have := (P9.out.1 hp).2.2; have := (P9.out.2 hp).2.2; omega)⟩, fun hp => ⟨(P9.out.2 hp).1, ua hp⟩⟩
  clear fa ua P9 by9 bw9 z9
  go_wp2_with fail
  -- heldIntS(g0, 1)
  refine (heldIntS_any adg capg l'.length 1 _ (by omega) (by omega) (pre_cells Pa.out.2)).mono ?_
  rintro e wb ⟨rfl, hb⟩
  have byb := (hb.block _ za).trans bya
  have bwb := below_trans bwa bwa.size hb
  have zb : w.heap.size < wb.heap.size := Nat.lt_of_lt_of_le za hb.size
  have Pb : Hid ((0 < l'.length → adw = some ⟨gw, 0, none⟩ ∧ Pre wb gw 3 l'.length (iV l')) ∧ (0 < l'.length → adg = some ⟨gg, 0, none⟩ ∧ Pre wb gg 3 l'.length (fun i => .int .i64 (1 + (i : Int))))) :=
    ⟨fun hp => ⟨(Pa.out.1 hp).1, (Pa.out.1 hp).2.of_block (hb.block _ (Pa.out.1 hp).2.lt)⟩, fun hp => ⟨(Pa.out.2 hp).1, (Pa.out.2 hp).2.of_block (hb.block _ (Pa.out.2 hp).2.lt)⟩⟩
  obtain ⟨c0, c1, c2, c3⟩ := box_cells byb
  clear hb Pa bya bwa za
  go_wp2_with fail
  -- h0 := impl.Open(toBook(aB))
  refine (toBook_any _ B _ HS.out.2 (HG.out.1.below bwb)).mono ?_
  rintro e wc ⟨vc, Kc, rfl, hcc, hb⟩
  have bwc := below_trans bwb bwb.size hb
  have Pc : Hid (BookAt wc vc B ∧ (0 < l'.length → adw = some ⟨gw, 0, none⟩ ∧ Pre wc gw 3 l'.length (iV l')) ∧ (0 < l'.length → adg = some ⟨gg, 0, none⟩ ∧ Pre wc gg 3 l'.length (fun i => .int .i64 (1 + (i : Int))))) :=
    ⟨hcc.bookAt, fun hp => ⟨(Pb.out.1 hp).1, (Pb.out.1 hp).2.of_block (hb.block _ (Pb.out.1 hp).2.lt)⟩, fun hp => ⟨(Pb.out.2 hp).1, (Pb.out.2 hp).2.of_block (hb.block _ (Pb.out.2 hp).2.lt)⟩⟩
  clear hb hcc Pb byb bwb zb c0 c1 c2 c3
  go_wp2_with fail
  refine (implOpen_any _ B _ HS.out.1.o HS.out.1.s Pc.out.1).mono ?_
  rintro e wd ⟨⟨vd, l2, gd, rfl, hl2, ⟨add, capd, rfl, hgd⟩⟩, hb⟩
  obtain rfl : l2 = l' := hl2.det HL.out
  have bwd := below_trans bwc bwc.size hb
  have Pd : Hid ((0 < l2.length → adw = some ⟨gw, 0, none⟩ ∧ Pre wd gw 3 l2.length (iV l2)) ∧ (0 < l2.length → adg = some ⟨gg, 0, none⟩ ∧ Pre wd gg 3 l2.length (fun i => .int .i64 (1 + (i : Int)))) ∧ (0 < l2.length → add = some ⟨gd, 0, none⟩ ∧ Pre wd gd 3 l2.length (iV l2))) :=
    ⟨fun hp => ⟨(Pc.out.2.1 hp).1, (Pc.out.2.1 hp).2.of_block (hb.block _ (Pc.out.2.1 hp).2.lt)⟩, fun hp => ⟨(Pc.out.2.2 hp).1, (Pc.out.2.2 hp).2.of_block (hb.block _ (Pc.out.2.2 hp).2.lt)⟩, fun hp => ⟨(hgd hp).1, (hgd hp).2.2⟩⟩
  clear hb hgd Pc bwc hl2
  go_wp2_with fail
  refine (eqIntS_same add adw capd capw l2.length (fun i => l2.getD i 0) _ (by omega) (pre_cells Pd.out.2.2) (pre_cells Pd.out.1)).mono ?_
  rintro e we ⟨rfl, hb⟩
  have bwe := below_trans bwd bwd.size hb
  have Pe : Hid (0 < l2.length → adg = some ⟨gg, 0, none⟩ ∧ Pre we gg 3 l2.length (fun i => .int .i64 (1 + (i : Int)))) := fun hp => ⟨(Pd.out.2.1 hp).1, (Pd.out.2.1 hp).2.of_block (hb.block _ (Pd.out.2.1 hp).2.lt)⟩
  clear hb Pd bwd
  go_wp2_with fail
  refine (heldIntS_any adg capg l2.length 1 _ (by omega) (by omega) (pre_cells Pe.out)).mono ?_
  rintro e wf ⟨rfl, hb⟩
  have bwf := below_trans bwe bwe.size hb
  clear hb Pe bwe
  go_wp2
  go_ret
  exact ⟨rfl, bwf⟩

end Go.Proofs.Ytbgmgfnhmlpehaa
