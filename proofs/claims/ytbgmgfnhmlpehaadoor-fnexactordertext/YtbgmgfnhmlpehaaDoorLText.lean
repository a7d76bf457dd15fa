/-
  laws.FnExactOrderText: the walk out of contracts. Mine, by template (wip/gen.py).
-/
import Derived.Test.YtbgmgfnhmlpehaaDoorSText
import Derived.Test.YtbgmgfnhmlpehaaDoorIText2
import Derived.Test.YtbgmgfnhmlpehaaDoorSmall
import Derived.Test.YtbgmgfnhmlpehaaDoorEq
import Derived.Test.YtbgmgfnhmlpehaaDoorSz
import Derived.Deep.RegionHeld3
namespace Go.Proofs.YtbgmgfnhmlpehaaDoor
open Go.RowKit

set_option maxHeartbeats 2000000 in
theorem fnExactOrderText_walk (v : Value) (B : Bk) (s : Int) (w : World) (ht : Lib.TabIs Tryd.prog w "internal/strconv.uint64pow10" .u64 Lib.pow10Tab) (hwf : BkWf B) (G : BookAt w v B) :
    Calls Tryd.prog 6 #[v, .int .i64 s] w fun e w' => e = .returned (.bool true) ∧ Below w.heap.size w w' := by
  have G0 := G
  obtain ⟨ao, co, al, cl, ac, cc, rfl, -⟩ := G
  have HG : Hid (BookAt w (.agg #[.int .i64 B.n, .slice ao B.orders.length co, .slice al B.locked.length cl, .slice ac B.occ.length cc]) B ∧ BkWf B) := ⟨G0, hwf⟩
  have HT : Hid (Lib.TabIs Tryd.prog w "internal/strconv.uint64pow10" .u64 Lib.pow10Tab) := ht
  clear G0 hwf ht
  go_enter Tryd.func6, Tryd.ntmps6
  go_wp2_with fail
  have B1 := below1 w (.cells #[.int .i64 B.n, .slice ao B.orders.length co, .slice al B.locked.length cl, .slice ac B.occ.length cc] 47)
  have hwf := HG.out.2
  refine (szBook_any _ B 1048576 _ (by have := hwf.o; unfold maxLen at this; exact this) (fun i hi => by have := hwf.x i hi; unfold OrdWf maxLen at this; exact this) (by have := hwf.l; unfold maxLen at this; exact this) (by have := hwf.c; unfold maxLen at this; exact this) (by omega) (by omega) (HG.out.1.below B1)).mono ?_
  clear hwf
  rintro e w1 ⟨r, rfl, hr, hb⟩
  have bx : w1.heap[w.heap.size]? = some (.cells #[.int .i64 B.n, .slice ao B.orders.length co, .slice al B.locked.length cl, .slice ac B.occ.length cc] 47 (0, 0)) := (hb.block _ (by simp)).trans (Deep.blk_alloc_new _ _)
  have bw : Below w.heap.size w w1 := B1.trans (hb.mono (by simp))
  have z : w.heap.size < w1.heap.size := by have := hb.size; simp at this; omega
  clear hb B1
  by_cases hneg : r < 0
  · clear hr bx
    go_wp2
    go_ret
    exact ⟨rfl, bw⟩
  have hsm : wBk B ≤ 1048576 := by rcases hr with h | h <;> omega
  have HS : Hid (Small B ∧ wBk B ≤ 1048576) := ⟨small_of hsm, hsm⟩
  clear hr hsm
  obtain ⟨c0, c1, c2, c3⟩ : w1.cell? ⟨w.heap.size, 0, none⟩ = some (.int .i64 B.n) ∧ w1.cell? ⟨w.heap.size, 1, none⟩ = some (.slice ao B.orders.length co) ∧ w1.cell? ⟨w.heap.size, 2, none⟩ = some (.slice al B.locked.length cl) ∧ w1.cell? ⟨w.heap.size, 3, none⟩ = some (.slice ac B.occ.length cc) := by simp [World.cell?, bx]
  go_wp2_with fail
  -- w0 := spec.OrderText(toBook(aB), aOrder)
  refine (toBook_any _ B _ HS.out.2 (HG.out.1.below bw)).mono ?_
  rintro e w2 ⟨v2, K2, rfl, h2, hb⟩
  have bx2 := (hb.block _ z).trans bx
  have bw2 := below_trans bw bw.size hb
  have z2 : w.heap.size < w2.heap.size := Nat.lt_of_lt_of_le z hb.size
  have H2 : Hid (BookAt w2 v2 B) := h2.bookAt
  clear hb bx bw z h2 c0 c1 c2 c3
  go_wp2_with fail
  refine (specOrderText_any v2 B s _ HS.out.1.o HS.out.1.s ⟨HG.out.2.n0, HG.out.2.n1⟩ H2.out).mono ?_
  rintro e w3 ⟨⟨c, rfl, hc⟩, hb⟩
  have HC : Hid (TextIs B s (bl c)) := hc
  have bx3 := (hb.block _ z2).trans bx2
  have bw3 := below_trans bw2 bw2.size hb
  have z3 : w.heap.size < w3.heap.size := Nat.lt_of_lt_of_le z2 hb.size
  clear hc hb bx2 bw2 z2 H2
  obtain ⟨c0, c1, c2, c3⟩ : w3.cell? ⟨w.heap.size, 0, none⟩ = some (.int .i64 B.n) ∧ w3.cell? ⟨w.heap.size, 1, none⟩ = some (.slice ao B.orders.length co) ∧ w3.cell? ⟨w.heap.size, 2, none⟩ = some (.slice al B.locked.length cl) ∧ w3.cell? ⟨w.heap.size, 3, none⟩ = some (.slice ac B.occ.length cc) := by simp [World.cell?, bx3]
  go_wp2_with fail
  -- x0 := toBook(aB)
  refine (toBook_any _ B _ HS.out.2 (HG.out.1.below bw3)).mono ?_
  rintro e w4 ⟨v4, K4, rfl, h4, hb⟩
  obtain ⟨ao4, co4, al4, cl4, ac4, cc4, hv4, -⟩ := h4.shape
  subst hv4
  have bx4 := (hb.block _ z3).trans bx3
  have bw4 := below_trans bw3 bw3.size hb
  have z4 : w.heap.size < w4.heap.size := Nat.lt_of_lt_of_le z3 hb.size
  have H4 : Hid (BookAt w4 (.agg #[.int .i64 B.n, .slice ao4 B.orders.length co4, .slice al4 B.locked.length cl4, .slice ac4 B.occ.length cc4]) B) := h4.bookAt
  clear hb bx3 bw3 z3 h4 c0 c1 c2 c3
  go_wp2_with fail
  -- g0 := impl.OrderText(x0, aOrder)
  have st : Below w4.heap.size w4 (w4.alloc (.cells #[.int .i64 B.n, .slice ao4 B.orders.length co4, .slice al4 B.locked.length cl4, .slice ac4 B.occ.length cc4] 29)) := below1 _ _
  refine (implOrderText_any _ B s _ HS.out.1.o HS.out.1.s (tab_below HT.out (below_trans bw4 bw4.size st)) (H4.out.below st)).mono ?_
  rintro e w5 ⟨⟨d, rfl, hd⟩, hb⟩
  have hcd : d = c := bl_inj (hd.det HC.out)
  subst hcd
  have sz : (w4.alloc (.cells #[.int .i64 B.n, .slice ao4 B.orders.length co4, .slice al4 B.locked.length cl4, .slice ac4 B.occ.length cc4] 29)).heap.size = w4.heap.size + 1 := by simp
  have st5 : Below w4.heap.size w4 w5 := st.trans (hb.mono (by omega))
  have bx5 : w5.heap[w4.heap.size]? = some (.cells #[.int .i64 B.n, .slice ao4 B.orders.length co4, .slice al4 B.locked.length cl4, .slice ac4 B.occ.length cc4] 29 (0, 0)) := (hb.block _ (by omega)).trans (Deep.blk_alloc_new _ _)
  have by5 := (st5.block _ z4).trans bx4
  have bw5 := below_trans bw4 bw4.size st5
  have z5 : w4.heap.size < w5.heap.size := by have := hb.size; omega
  have z5' : w.heap.size < w5.heap.size := by omega
  have H5 : Hid (BookAt w5 (.agg #[.int .i64 B.n, .slice ao4 B.orders.length co4, .slice al4 B.locked.length cl4, .slice ac4 B.occ.length cc4]) B) := H4.out.below st5
  obtain ⟨d0, d1, d2, d3⟩ : w5.cell? ⟨w4.heap.size, 0, none⟩ = some (.int .i64 B.n) ∧ w5.cell? ⟨w4.heap.size, 1, none⟩ = some (.slice ao4 B.orders.length co4) ∧ w5.cell? ⟨w4.heap.size, 2, none⟩ = some (.slice al4 B.locked.length cl4) ∧ w5.cell? ⟨w4.heap.size, 3, none⟩ = some (.slice ac4 B.occ.length cc4) := by simp [World.cell?, bx5]
  obtain ⟨c0, c1, c2, c3⟩ : w5.cell? ⟨w.heap.size, 0, none⟩ = some (.int .i64 B.n) ∧ w5.cell? ⟨w.heap.size, 1, none⟩ = some (.slice ao B.orders.length co) ∧ w5.cell? ⟨w.heap.size, 2, none⟩ = some (.slice al B.locked.length cl) ∧ w5.cell? ⟨w.heap.size, 3, none⟩ = some (.slice ac B.occ.length cc) := by simp [World.cell?, by5]
  clear hb sz st st5 bx4 bw4 z4 hd H4 bx5 by5
  go_wp2
  go_region_held3 (fun w' => w'.cell? ⟨w4.heap.size, 0, none⟩ = some (.int .i64 B.n) ∧ w'.cell? ⟨w4.heap.size, 1, none⟩ = some (.slice ao4 B.orders.length co4) ∧ w'.cell? ⟨w4.heap.size, 2, none⟩ = some (.slice al4 B.locked.length cl4) ∧ w'.cell? ⟨w4.heap.size, 3, none⟩ = some (.slice ac4 B.occ.length cc4) ∧ w'.cell? ⟨w.heap.size, 0, none⟩ = some (.int .i64 B.n) ∧ w'.cell? ⟨w.heap.size, 1, none⟩ = some (.slice ao B.orders.length co) ∧ w'.cell? ⟨w.heap.size, 2, none⟩ = some (.slice al B.locked.length cl) ∧ w'.cell? ⟨w.heap.size, 3, none⟩ = some (.slice ac B.occ.length cc)) (go_keep)
    (first | (go_at_call 16; refine (toBook_any _ B _ HS.out.2 (HG.out.1.below bw5.drew)).mono ?_; rintro e w6 ⟨v6, K6, rfl, h6, hb6⟩; have hbR : Below w5.heap.size w5 w6 := (Below.refl _ _).drew.trans hb6; obtain ⟨hc1, hf1⟩ := bcell hbR; have H6 : Hid (BookAt w6 v6 B ∧ Below w5.heap.size w5 w6) := ⟨h6.bookAt, hbR⟩; clear hf1 hb6 hbR h6) | (go_at_call 17; refine (eqBook_same _ _ B _ HS.out.1.o HS.out.1.e HS.out.1.l HS.out.1.c (H5.out.below H6.out.2) H6.out.1).mono ?_; rintro e w7 ⟨rfl, hb7⟩; have hbR : Below w5.heap.size w5 w7 := below_trans H6.out.2 H6.out.2.size hb7; obtain ⟨hc1, hf1⟩ := bcell hbR; clear hf1 hb7))
  have bw7 := below_trans bw5 bw5.size hbR
  clear hc1 hbR
  go_wp2
  go_ret
  exact ⟨rfl, bw7⟩

end Go.Proofs.YtbgmgfnhmlpehaaDoor
