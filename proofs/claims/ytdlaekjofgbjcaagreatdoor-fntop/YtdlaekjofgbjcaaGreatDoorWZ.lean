import Derived.Test.YtdlaekjofgbjcaaGreatDoorIDoZ
import Derived.Deep.QuietTactic
import Derived.BigQuiet
import Derived.Deep.RegionHeld3
import Derived.Deep.DrawnRows
import Derived.Test.YtdlaekjofgbjcaaGreatDoorDonesZ
import Derived.Test.YtdlaekjofgbjcaaGreatDoorBaseZ
/-
 laws.wInts, wBools, wBook: where the two are the same, true. Mine, by template (wip/gen.py).
-/
namespace Go.Proofs.YtdlaekjofgbjcaaGreatDoor
open Go.RowKit
theorem boxes2 (wo : World) (c1 c2 : Array Value) (t1 t2 : TypeId) : ((wo.alloc (.cells c1 t1)).alloc (.cells c2 t2)).heap[wo.heap.size]? = some (.cells c1 t1 (0, 0)) ∧ ((wo.alloc (.cells c1 t1)).alloc (.cells c2 t2)).heap[wo.heap.size + 1]? = some (.cells c2 t2 (0, 0)) := by
 refine ⟨(Deep.blk_alloc_lt _ _ _ (by simp)).trans (Deep.blk_alloc_new _ _), ?_⟩; have := Deep.blk_alloc_new (wo.alloc (.cells c1 t1)) (.cells c2 t2)
 simpa using this
set_option maxHeartbeats 2000000 in
theorem wInts_same (a1 a2 : Option Addr) (c1 c2 n : Nat) (V : Nat → Int) (w : World) (hn : n ≤ 4294967296)
  (G1 : Cells w a1 n (fun i => .int .i64 (V i))) (G2 : Cells w a2 n (fun i => .int .i64 (V i))) :
  Calls Tryz.prog 10 #[.slice a1 n c1, .slice a2 n c2] w fun e w' => e = .returned (.bool true) ∧ Below w.heap.size w w' := by
 obtain ⟨b1, o1, h1, g1⟩ := G1; obtain ⟨b2, o2, h2, g2⟩ := G2
 go_enter Tryz.func10, Tryz.ntmps10
 go_wp2
 go_loopw [13] (fun i wr => ∃ k : Nat, k ≤ n ∧ i = .int .i64 k ∧ Below w.heap.size w wr) (fun i _ => n - (intOf i).toNat)
 case atStart => exact ⟨0, Nat.zero_le _, rfl, Below.refl _ _⟩
 case round =>
  obtain ⟨k, hk, rfl, hb⟩ := hrel
  by_cases hlt : k < n
  ·
   obtain rfl := h1 (by omega); obtain rfl := h2 (by omega); have e1 : wr.cell? ⟨b1, o1 + k, none⟩ = some (.int .i64 (V k)) := (hb.cell (p := ⟨b1, o1 + k, none⟩) (World.block_lt_of_cell? _ _ (g1 k hlt))).trans (g1 k hlt); have e2 : wr.cell? ⟨b2, o2 + k, none⟩ = some (.int .i64 (V k)) := (hb.cell (p := ⟨b2, o2 + k, none⟩) (World.block_lt_of_cell? _ _ (g2 k hlt))).trans (g2 k hlt); have hz : (0 : Int) ≤ (k : Int) := by omega
   have hlz : (k : Int) < (n : Int) := by omega
   clear g1 g2 h1 h2; go_wp2
   go_quiet (fail)
   go_wp2; go_roundw
   case rel => exact ⟨k + 1, by omega, by go_num, below_drewN hb _⟩
   case measure => simp [intOf]; omega
  ·
   clear g1 g2 h1 h2; go_wp2; go_ret; exact ⟨rfl, hb⟩
set_option maxHeartbeats 2000000 in
theorem wBools_same (a1 a2 : Option Addr) (c1 c2 n : Nat) (V : Nat → Bool) (w : World) (hn : n ≤ 4294967296)
  (G1 : Cells w a1 n (fun i => .bool (V i))) (G2 : Cells w a2 n (fun i => .bool (V i))) :
  Calls Tryz.prog 33 #[.slice a1 n c1, .slice a2 n c2] w fun e w' => e = .returned (.bool true) ∧ Below w.heap.size w w' := by
 obtain ⟨b1, o1, h1, g1⟩ := G1; obtain ⟨b2, o2, h2, g2⟩ := G2
 go_enter Tryz.func33, Tryz.ntmps33
 go_wp2
 go_loopw [13] (fun i wr => ∃ k : Nat, k ≤ n ∧ i = .int .i64 k ∧ Below w.heap.size w wr) (fun i _ => n - (intOf i).toNat)
 case atStart => exact ⟨0, Nat.zero_le _, rfl, Below.refl _ _⟩
 case round =>
  obtain ⟨k, hk, rfl, hb⟩ := hrel
  by_cases hlt : k < n
  ·
   obtain rfl := h1 (by omega); obtain rfl := h2 (by omega); have e1 : wr.cell? ⟨b1, o1 + k, none⟩ = some (.bool (V k)) := (hb.cell (p := ⟨b1, o1 + k, none⟩) (World.block_lt_of_cell? _ _ (g1 k hlt))).trans (g1 k hlt); have e2 : wr.cell? ⟨b2, o2 + k, none⟩ = some (.bool (V k)) := (hb.cell (p := ⟨b2, o2 + k, none⟩) (World.block_lt_of_cell? _ _ (g2 k hlt))).trans (g2 k hlt); have hz : (0 : Int) ≤ (k : Int) := by omega
   have hlz : (k : Int) < (n : Int) := by omega
   clear g1 g2 h1 h2; go_wp2
   go_quiet (fail)
   go_wp2; go_roundw
   case rel => exact ⟨k + 1, by omega, by go_num, below_drewN hb _⟩
   case measure => simp [intOf]; omega
  ·
   clear g1 g2 h1 h2; go_wp2; go_ret; exact ⟨rfl, hb⟩
set_option maxHeartbeats 4000000 in
theorem wBook_same (v1 v2 : Value) (B : Bk) (w : World) (ho : B.orders.length ≤ 1048576) (hsec : ∀ i, i < B.orders.length → (B.orders.getD i Ord.zero).secs.length ≤ 4294967296)
  (hl : B.locked.length ≤ 4294967296) (hc : B.occ.length ≤ 4294967296) (G1 : BookAt w v1 B) (G2 : BookAt w v2 B) :
  Calls Tryz.prog 12 #[v1, v2] w fun e w' => e = .returned (.bool true) ∧ Below w.heap.size w w' := by
 obtain ⟨ao1, co1, al1, cl1, ac1, cc1, rfl, p1, p2, p3⟩ := G1; obtain ⟨ao2, co2, al2, cl2, ac2, cc2, rfl, q1, q2, q3⟩ := G2; obtain ⟨X, hX⟩ : ∃ X : Nat → Ord, X = fun i => B.orders.getD i Ord.zero := ⟨_, rfl⟩; have K1 : ∃ b o, (0 < B.orders.length → ao1 = some ⟨b, o, none⟩) ∧ ∀ i, i < B.orders.length → ∃ sa sc, OrdAt w b (o + i * 4) (X i) sa sc := by rw [hX]; exact p1
 have K2 : ∃ b o, (0 < B.orders.length → ao2 = some ⟨b, o, none⟩) ∧ ∀ i, i < B.orders.length → ∃ sa sc, OrdAt w b (o + i * 4) (X i) sa sc := by rw [hX]; exact q1
 have hs : ∀ i, i < B.orders.length → (X i).secs.length ≤ 4294967296 := by rw [hX]; exact hsec
 have HP : Hid (Cells w al1 B.locked.length (bV B.locked) ∧ Cells w ac1 B.occ.length (bV B.occ) ∧ Cells w al2 B.locked.length (bV B.locked) ∧ Cells w ac2 B.occ.length (bV B.occ)) := ⟨p2, p3, q2, q3⟩; clear p1 q1 hsec hX p2 p3 q2 q3; have B2 := below2 w (.cells #[.int .i64 B.n, .slice ao1 B.orders.length co1, .slice al1 B.locked.length cl1, .slice ac1 B.occ.length cc1] 37) (.cells #[.int .i64 B.n, .slice ao2 B.orders.length co2, .slice al2 B.locked.length cl2, .slice ac2 B.occ.length cc2] 37); have b1 : ((w.alloc (.cells #[.int .i64 B.n, .slice ao1 B.orders.length co1, .slice al1 B.locked.length cl1, .slice ac1 B.occ.length cc1] 37)).alloc (.cells #[.int .i64 B.n, .slice ao2 B.orders.length co2, .slice al2 B.locked.length cl2, .slice ac2 B.occ.length cc2] 37)).heap[w.heap.size]? = some (.cells #[.int .i64 B.n, .slice ao1 B.orders.length co1, .slice al1 B.locked.length cl1, .slice ac1 B.occ.length cc1] 37 (0, 0)) := (Deep.blk_alloc_lt _ _ _ (by simp)).trans (Deep.blk_alloc_new _ _)
 have b2 : ((w.alloc (.cells #[.int .i64 B.n, .slice ao1 B.orders.length co1, .slice al1 B.locked.length cl1, .slice ac1 B.occ.length cc1] 37)).alloc (.cells #[.int .i64 B.n, .slice ao2 B.orders.length co2, .slice al2 B.locked.length cl2, .slice ac2 B.occ.length cc2] 37)).heap[w.heap.size + 1]? = some (.cells #[.int .i64 B.n, .slice ao2 B.orders.length co2, .slice al2 B.locked.length cl2, .slice ac2 B.occ.length cc2] 37 (0, 0)) := by
  have := Deep.blk_alloc_new (w.alloc (.cells #[.int .i64 B.n, .slice ao1 B.orders.length co1, .slice al1 B.locked.length cl1, .slice ac1 B.occ.length cc1] 37)) (.cells #[.int .i64 B.n, .slice ao2 B.orders.length co2, .slice al2 B.locked.length cl2, .slice ac2 B.occ.length cc2] 37)
  simpa using this
 have HB : Hid (((w.alloc (.cells #[.int .i64 B.n, .slice ao1 B.orders.length co1, .slice al1 B.locked.length cl1, .slice ac1 B.occ.length cc1] 37)).alloc (.cells #[.int .i64 B.n, .slice ao2 B.orders.length co2, .slice al2 B.locked.length cl2, .slice ac2 B.occ.length cc2] 37)).heap[w.heap.size]? = some (.cells #[.int .i64 B.n, .slice ao1 B.orders.length co1, .slice al1 B.locked.length cl1, .slice ac1 B.occ.length cc1] 37 (0, 0)) ∧ ((w.alloc (.cells #[.int .i64 B.n, .slice ao1 B.orders.length co1, .slice al1 B.locked.length cl1, .slice ac1 B.occ.length cc1] 37)).alloc (.cells #[.int .i64 B.n, .slice ao2 B.orders.length co2, .slice al2 B.locked.length cl2, .slice ac2 B.occ.length cc2] 37)).heap[w.heap.size + 1]? = some (.cells #[.int .i64 B.n, .slice ao2 B.orders.length co2, .slice al2 B.locked.length cl2, .slice ac2 B.occ.length cc2] 37 (0, 0)) ∧ Below w.heap.size w ((w.alloc (.cells #[.int .i64 B.n, .slice ao1 B.orders.length co1, .slice al1 B.locked.length cl1, .slice ac1 B.occ.length cc1] 37)).alloc (.cells #[.int .i64 B.n, .slice ao2 B.orders.length co2, .slice al2 B.locked.length cl2, .slice ac2 B.occ.length cc2] 37))) := ⟨b1, b2, B2⟩; have s2 : ((w.alloc (.cells #[.int .i64 B.n, .slice ao1 B.orders.length co1, .slice al1 B.locked.length cl1, .slice ac1 B.occ.length cc1] 37)).alloc (.cells #[.int .i64 B.n, .slice ao2 B.orders.length co2, .slice al2 B.locked.length cl2, .slice ac2 B.occ.length cc2] 37)).heap.size = w.heap.size + 2 := by simp
 clear b1 b2 B2
 go_enter Tryz.func12, Tryz.ntmps12
 go_upto_region 1 with (fail)
 obtain ⟨W, hW⟩ : ∃ W, W = (w.alloc (.cells #[.int .i64 B.n, .slice ao1 B.orders.length co1, .slice al1 B.locked.length cl1, .slice ac1 B.occ.length cc1] 37)).alloc (.cells #[.int .i64 B.n, .slice ao2 B.orders.length co2, .slice al2 B.locked.length cl2, .slice ac2 B.occ.length cc2] 37) := ⟨_, rfl⟩; rw [← hW] at HB s2 ⊢; clear hW; obtain ⟨x0, x1, x2, x3⟩ := box_cells HB.out.1; obtain ⟨y0, y1, y2, y3⟩ := box_cells HB.out.2.1; have z1 : w.heap.size < W.heap.size := by omega
 have z2 : w.heap.size + 1 < W.heap.size := by omega
 go_wp2_with fail
 refine (wBools_same al1 al2 cl1 cl2 _ (fun i => B.locked.getD i false) _ hl (HP.out.1.below HB.out.2.2) (HP.out.2.2.1.below HB.out.2.2)).mono ?_; rintro e w1 ⟨rfl, hb1⟩; have H1 : Hid (w1.heap[w.heap.size]? = some (.cells #[.int .i64 B.n, .slice ao1 B.orders.length co1, .slice al1 B.locked.length cl1, .slice ac1 B.occ.length cc1] 37 (0, 0)) ∧ w1.heap[w.heap.size + 1]? = some (.cells #[.int .i64 B.n, .slice ao2 B.orders.length co2, .slice al2 B.locked.length cl2, .slice ac2 B.occ.length cc2] 37 (0, 0)) ∧ Below w.heap.size w w1) := ⟨(hb1.block _ z1).trans HB.out.1, (hb1.block _ z2).trans HB.out.2.1, below_trans HB.out.2.2 HB.out.2.2.size hb1⟩; have z3 : w.heap.size + 1 < w1.heap.size := Nat.lt_of_lt_of_le z2 hb1.size; have z4 : w.heap.size < w1.heap.size := by omega
 clear hb1 HB x0 x1 x2 x3 y0 y1 y2 y3; obtain ⟨x0, x1, x2, x3⟩ := box_cells H1.out.1; obtain ⟨y0, y1, y2, y3⟩ := box_cells H1.out.2.1
 go_wp2_with fail
 refine (wBools_same ac1 ac2 cc1 cc2 _ (fun i => B.occ.getD i false) _ hc (HP.out.2.1.below H1.out.2.2) (HP.out.2.2.2.below H1.out.2.2)).mono ?_; rintro e w2 ⟨rfl, hb2⟩; have H2 : Hid (w2.heap[w.heap.size]? = some (.cells #[.int .i64 B.n, .slice ao1 B.orders.length co1, .slice al1 B.locked.length cl1, .slice ac1 B.occ.length cc1] 37 (0, 0)) ∧ w2.heap[w.heap.size + 1]? = some (.cells #[.int .i64 B.n, .slice ao2 B.orders.length co2, .slice al2 B.locked.length cl2, .slice ac2 B.occ.length cc2] 37 (0, 0)) ∧ Below w.heap.size w w2) := ⟨(hb2.block _ z4).trans H1.out.1, (hb2.block _ z3).trans H1.out.2.1, below_trans H1.out.2.2 H1.out.2.2.size hb2⟩; have z5 : w.heap.size + 1 < w2.heap.size := Nat.lt_of_lt_of_le z3 hb2.size; have z6 : w.heap.size < w2.heap.size := by omega
 clear hb2 H1 HP x0 x1 x2 x3 y0 y1 y2 y3; obtain ⟨x0, x1, x2, x3⟩ := box_cells H2.out.1; obtain ⟨y0, y1, y2, y3⟩ := box_cells H2.out.2.1; go_wp2; clear x0 x1 x2 x3 y0 y1 y2 y3
 go_loopw [41] (fun i wr => ∃ k : Nat, k ≤ B.orders.length ∧ i = .int .i64 k ∧ wr.heap[w.heap.size]? = some (.cells #[.int .i64 B.n, .slice ao1 B.orders.length co1, .slice al1 B.locked.length cl1, .slice ac1 B.occ.length cc1] 37 (0, 0)) ∧ wr.heap[w.heap.size + 1]? = some (.cells #[.int .i64 B.n, .slice ao2 B.orders.length co2, .slice al2 B.locked.length cl2, .slice ac2 B.occ.length cc2] 37 (0, 0)) ∧ Below w.heap.size w wr) (fun i _ => B.orders.length - (intOf i).toNat)
 case atStart => exact ⟨0, Nat.zero_le _, rfl, H2.out⟩
 case round =>
  obtain ⟨k, hk, rfl, h1, h2, hb⟩ := hrel; have z1 : w.heap.size < wr.heap.size := (Array.getElem?_eq_some_iff.1 h1).1; have z2 : w.heap.size + 1 < wr.heap.size := (Array.getElem?_eq_some_iff.1 h2).1; obtain ⟨x0, x1, x2, x3⟩ := box_cells h1; obtain ⟨y0, y1, y2, y3⟩ := box_cells h2; have HR : Hid (wr.heap[w.heap.size]? = some (.cells #[.int .i64 B.n, .slice ao1 B.orders.length co1, .slice al1 B.locked.length cl1, .slice ac1 B.occ.length cc1] 37 (0, 0)) ∧ wr.heap[w.heap.size + 1]? = some (.cells #[.int .i64 B.n, .slice ao2 B.orders.length co2, .slice al2 B.locked.length cl2, .slice ac2 B.occ.length cc2] 37 (0, 0)) ∧ Below w.heap.size w wr) := ⟨h1, h2, hb⟩; clear h1 h2 H2
  by_cases hlt : k < B.orders.length
  ·
   obtain ⟨b1, o1, k1, g1⟩ := K1; obtain ⟨b2, o2, k2, g2⟩ := K2; obtain rfl := k1 (by omega); obtain rfl := k2 (by omega); obtain ⟨sa1, sc1, q1⟩ := g1 k hlt; obtain ⟨sa2, sc2, q2⟩ := g2 k hlt; have hsk := hs k hlt; have r1 := q1.below hb; have r2 := q2.below hb; clear g1 g2 k1 k2 q1 q2 hs hb; have l1 : b1 < wr.heap.size := World.block_lt_of_cell? _ _ r1.c0; have l2 : b2 < wr.heap.size := World.block_lt_of_cell? _ _ r2.c0; obtain ⟨u0, u1, u2, u3, u4⟩ := r1; obtain ⟨v0, v1, v2, v3, v4⟩ := r2; have HS : Hid (Cells wr sa1 (X k).secs.length (iV (X k).secs) ∧ Cells wr sa2 (X k).secs.length (iV (X k).secs)) := ⟨u4, v4⟩; clear u4 v4; have hz : (0 : Int) ≤ (k : Int) := by omega
   have hlz : (k : Int) < (B.orders.length : Int) := by omega
   go_upto_region 8 with (fail)
   have B4 := below2 wr (.cells #[.string (X k).holder, .int .i64 (X k).kind, .slice sa1 (X k).secs.length sc1, .int .i64 (X k).state] 41) (.cells #[.string (X k).holder, .int .i64 (X k).kind, .slice sa2 (X k).secs.length sc2, .int .i64 (X k).state] 41); have H4 : Hid (((wr.alloc (.cells #[.string (X k).holder, .int .i64 (X k).kind, .slice sa1 (X k).secs.length sc1, .int .i64 (X k).state] 41)).alloc (.cells #[.string (X k).holder, .int .i64 (X k).kind, .slice sa2 (X k).secs.length sc2, .int .i64 (X k).state] 41)).heap[w.heap.size]? = some (.cells #[.int .i64 B.n, .slice (some ⟨b1, o1, none⟩) B.orders.length co1, .slice al1 B.locked.length cl1, .slice ac1 B.occ.length cc1] 37 (0, 0)) ∧ ((wr.alloc (.cells #[.string (X k).holder, .int .i64 (X k).kind, .slice sa1 (X k).secs.length sc1, .int .i64 (X k).state] 41)).alloc (.cells #[.string (X k).holder, .int .i64 (X k).kind, .slice sa2 (X k).secs.length sc2, .int .i64 (X k).state] 41)).heap[w.heap.size + 1]? = some (.cells #[.int .i64 B.n, .slice (some ⟨b2, o2, none⟩) B.orders.length co2, .slice al2 B.locked.length cl2, .slice ac2 B.occ.length cc2] 37 (0, 0)) ∧ Below w.heap.size w ((wr.alloc (.cells #[.string (X k).holder, .int .i64 (X k).kind, .slice sa1 (X k).secs.length sc1, .int .i64 (X k).state] 41)).alloc (.cells #[.string (X k).holder, .int .i64 (X k).kind, .slice sa2 (X k).secs.length sc2, .int .i64 (X k).state] 41)) ∧ Cells ((wr.alloc (.cells #[.string (X k).holder, .int .i64 (X k).kind, .slice sa1 (X k).secs.length sc1, .int .i64 (X k).state] 41)).alloc (.cells #[.string (X k).holder, .int .i64 (X k).kind, .slice sa2 (X k).secs.length sc2, .int .i64 (X k).state] 41)) sa1 (X k).secs.length (iV (X k).secs) ∧ Cells ((wr.alloc (.cells #[.string (X k).holder, .int .i64 (X k).kind, .slice sa1 (X k).secs.length sc1, .int .i64 (X k).state] 41)).alloc (.cells #[.string (X k).holder, .int .i64 (X k).kind, .slice sa2 (X k).secs.length sc2, .int .i64 (X k).state] 41)) sa2 (X k).secs.length (iV (X k).secs)) := ⟨(B4.block _ z1).trans HR.out.1, (B4.block _ z2).trans HR.out.2.1, below_trans HR.out.2.2 HR.out.2.2.size B4, HS.out.1.below B4, HS.out.2.below B4⟩; obtain ⟨e1, e2⟩ := boxes2 wr #[.string (X k).holder, .int .i64 (X k).kind, .slice sa1 (X k).secs.length sc1, .int .i64 (X k).state] #[.string (X k).holder, .int .i64 (X k).kind, .slice sa2 (X k).secs.length sc2, .int .i64 (X k).state] 41 41; have s4 : ((wr.alloc (.cells #[.string (X k).holder, .int .i64 (X k).kind, .slice sa1 (X k).secs.length sc1, .int .i64 (X k).state] 41)).alloc (.cells #[.string (X k).holder, .int .i64 (X k).kind, .slice sa2 (X k).secs.length sc2, .int .i64 (X k).state] 41)).heap.size = wr.heap.size + 2 := by simp
   obtain ⟨W4, hW4⟩ : ∃ W, W = (wr.alloc (.cells #[.string (X k).holder, .int .i64 (X k).kind, .slice sa1 (X k).secs.length sc1, .int .i64 (X k).state] 41)).alloc (.cells #[.string (X k).holder, .int .i64 (X k).kind, .slice sa2 (X k).secs.length sc2, .int .i64 (X k).state] 41) := ⟨_, rfl⟩; rw [← hW4] at H4 s4 e1 e2 ⊢; clear hW4 B4 HR HS x0 x1 x2 x3 y0 y1 y2 y3 u0 u1 u2 u3 v0 v1 v2 v3; obtain ⟨u0, u1, u2, u3⟩ := box_cells e1; obtain ⟨v0, v1, v2, v3⟩ := box_cells e2; have z3 : wr.heap.size < W4.heap.size := by omega
   have z4 : wr.heap.size + 1 < W4.heap.size := by omega
   clear e1 e2
   go_wp2_with fail
   refine (wInts_same sa1 sa2 sc1 sc2 _ (fun i => (X k).secs.getD i 0) _ hsk H4.out.2.2.2.1 H4.out.2.2.2.2).mono ?_; rintro e w5 ⟨rfl, hb5⟩; have H5 : Hid (w5.heap[w.heap.size]? = some (.cells #[.int .i64 B.n, .slice (some ⟨b1, o1, none⟩) B.orders.length co1, .slice al1 B.locked.length cl1, .slice ac1 B.occ.length cc1] 37 (0, 0)) ∧ w5.heap[w.heap.size + 1]? = some (.cells #[.int .i64 B.n, .slice (some ⟨b2, o2, none⟩) B.orders.length co2, .slice al2 B.locked.length cl2, .slice ac2 B.occ.length cc2] 37 (0, 0)) ∧ Below w.heap.size w w5) := ⟨(hb5.block _ (by omega)).trans H4.out.1, (hb5.block _ (by omega)).trans H4.out.2.1, below_trans H4.out.2.2.1 H4.out.2.2.1.size hb5⟩; clear hb5 H4 u0 u1 u2 u3 v0 v1 v2 v3; go_wp2; go_roundw
   case rel => exact ⟨k + 1, by omega, by go_num, H5.out⟩
   case measure => simp [intOf]; omega
  ·
   clear K1 K2 hs; go_wp2; go_ret; exact ⟨rfl, HR.out.2.2⟩
end Go.Proofs.YtdlaekjofgbjcaaGreatDoor
/-
 laws.wDone: where the two are the same, true. Mine, by template (wip/gen.py).
-/
namespace Go.Proofs.YtdlaekjofgbjcaaGreatDoor
open Go.RowKit
def Few (B : Bk) : Prop := B.orders.length ≤ 1048576 ∧ (∀ i, i < B.orders.length → (B.orders.getD i Ord.zero).secs.length ≤ 1048576) ∧ B.locked.length ≤ 1048576 ∧ B.occ.length ≤ 1048576
set_option maxRecDepth 20000 in
set_option maxHeartbeats 8000000 in
theorem wDone_same (a1 a2 : Option Addr) (c1 c2 n : Nat) (C : Nat → Int) (R : Nat → Bk) (w : World) (hn : n ≤ 1048576) (hF : ∀ i, i < n → Few (R i)) (G1 : DonesAt w a1 n C R) (G2 : DonesAt w a2 n C R) :
  Calls Tryz.prog 9 #[.slice a1 n c1, .slice a2 n c2] w fun e w' => e = .returned (.bool true) ∧ Below w.heap.size w w' := by
 obtain ⟨b1, o1, h1, g1⟩ := G1; obtain ⟨b2, o2, h2, g2⟩ := G2
 go_enter Tryz.func9, Tryz.ntmps9
 go_wp2
 go_loopw [13] (fun i wr => ∃ k : Nat, k ≤ n ∧ i = .int .i64 k ∧ Below w.heap.size w wr) (fun i _ => n - (intOf i).toNat)
 case atStart => exact ⟨0, Nat.zero_le _, rfl, Below.refl _ _⟩
 case round =>
  obtain ⟨k, hk, rfl, hb⟩ := hrel
  by_cases hlt : k < n
  ·
   obtain rfl := h1 (by omega); obtain rfl := h2 (by omega); obtain ⟨s1, q1⟩ := g1 k hlt; obtain ⟨s2, q2⟩ := g2 k hlt; have hFk := hF k hlt; have r1 := q1.below hb; have r2 := q2.below hb; clear g1 g2 h1 h2 q1 q2 hF; obtain ⟨x0, x1, x2, x3, x4, x5⟩ := r1; obtain ⟨y0, y1, y2, y3, y4, y5⟩ := r2; have HS : Hid (BookAt wr (.agg #[.int .i64 (R k).n, .slice s1.ao (R k).orders.length s1.co, .slice s1.al (R k).locked.length s1.cl, .slice s1.ac (R k).occ.length s1.cc]) (R k) ∧ BookAt wr (.agg #[.int .i64 (R k).n, .slice s2.ao (R k).orders.length s2.co, .slice s2.al (R k).locked.length s2.cl, .slice s2.ac (R k).occ.length s2.cc]) (R k) ∧ Few (R k) ∧ Below w.heap.size w wr) := ⟨x5, y5, hFk, hb⟩; have l1 : b1 < wr.heap.size := World.block_lt_of_cell? _ _ x0; have l2 : b2 < wr.heap.size := World.block_lt_of_cell? _ _ y0; clear x5 y5 hFk hb; have hz : (0 : Int) ≤ (k : Int) := by omega
   have hlz : (k : Int) < (n : Int) := by omega
   go_wp2; refine wp_region_held_drew (S := fun w' => w'.cell? ⟨b1, o1 + k * 5, none⟩ = some (.int .i64 (C k)) ∧ w'.cell? ⟨b1, o1 + k * 5 + 1, none⟩ = some (.int .i64 (R k).n) ∧ w'.cell? ⟨b1, o1 + k * 5 + 2, none⟩ = some (.slice s1.ao (R k).orders.length s1.co) ∧ w'.cell? ⟨b1, o1 + k * 5 + 3, none⟩ = some (.slice s1.al (R k).locked.length s1.cl) ∧ w'.cell? ⟨b1, o1 + k * 5 + 4, none⟩ = some (.slice s1.ac (R k).occ.length s1.cc) ∧ w'.cell? ⟨b2, o2 + k * 5, none⟩ = some (.int .i64 (C k)) ∧ w'.cell? ⟨b2, o2 + k * 5 + 1, none⟩ = some (.int .i64 (R k).n) ∧ w'.cell? ⟨b2, o2 + k * 5 + 2, none⟩ = some (.slice s2.ao (R k).orders.length s2.co) ∧ w'.cell? ⟨b2, o2 + k * 5 + 3, none⟩ = some (.slice s2.al (R k).locked.length s2.cl) ∧ w'.cell? ⟨b2, o2 + k * 5 + 4, none⟩ = some (.slice s2.ac (R k).occ.length s2.cc)) (by kernel_rfl) ⟨x0, x1, x2, x3, x4, y0, y1, y2, y3, y4⟩ (fun hS0 => ?_); refine tk 0 rfl ?_; refine tk 1 rfl ?_; refine tk 2 rfl ?_; refine tk 3 rfl ?_; refine tk 4 rfl ?_; refine tk 5 rfl ?_; refine tk 6 rfl ?_; refine tk 7 rfl ?_; refine tk 8 rfl ?_; refine tk 9 rfl ?_; refine tk 10 rfl ?_; refine tk 11 rfl ?_; refine tk 12 rfl ?_; refine tk 13 rfl ?_; refine tk 14 rfl ?_; refine tk 15 rfl ?_; refine tk 16 rfl ?_; refine tk 17 rfl ?_; refine tk 18 rfl ?_; refine tk 19 rfl ?_; refine tk 20 rfl ?_; refine tk 21 rfl ?_; refine rdy1 22 rfl (fun Kx hK => ?_); go_simp; have bd : Below wr.heap.size wr wr.drew := (Below.refl _ _).drew; refine (wBook_same _ _ (R k) _ HS.out.2.2.1.1 (fun i hi => Nat.le_trans (HS.out.2.2.1.2.1 i hi) (by decide)) (Nat.le_trans HS.out.2.2.1.2.2.1 (by decide)) (Nat.le_trans HS.out.2.2.1.2.2.2 (by decide)) (HS.out.1.below bd) (HS.out.2.1.below bd)).mono ?_; rintro e w1 ⟨rfl, hb1⟩; have hb2 : Below wr.heap.size wr w1 := bd.trans hb1; have H2 : Hid (Below w.heap.size w w1) := below_trans HS.out.2.2.2 HS.out.2.2.2.size hb2; have cc1 : ∀ o, w1.cell? ⟨b1, o, none⟩ = wr.cell? ⟨b1, o, none⟩ := fun o => hb2.cell (p := ⟨b1, o, none⟩) l1; have cc2 : ∀ o, w1.cell? ⟨b2, o, none⟩ = wr.cell? ⟨b2, o, none⟩ := fun o => hb2.cell (p := ⟨b2, o, none⟩) l2; refine hK.out _ _ ⟨(cc1 _).trans x0, (cc1 _).trans x1, (cc1 _).trans x2, (cc1 _).trans x3, (cc1 _).trans x4, (cc2 _).trans y0, (cc2 _).trans y1, (cc2 _).trans y2, (cc2 _).trans y3, (cc2 _).trans y4⟩ (fun hS1 => ?_); clear hK Kx cc1 cc2 hb1 hb2 bd HS x0 x1 x2 x3 x4 y0 y1 y2 y3 y4 hS0; refine tk 23 rfl ?_; refine tk 24 rfl ?_; refine wpAnyH_done (by kernel_rfl) ?_ _; go_simp; go_wp2; go_roundw
   case rel => exact ⟨k + 1, by omega, by go_num, H2.out⟩
   case measure => simp [intOf]; omega
  ·
   clear g1 g2 h1 h2 hF; go_wp2; go_ret; exact ⟨rfl, hb⟩
end Go.Proofs.YtdlaekjofgbjcaaGreatDoor
