/-
 The contract of spec.OrderText. Mine, by template (wip/gen.py).
-/
import Derived.Test.YtdlaekjofgbjcaaGreatDoorText2
namespace Go.Proofs.YtdlaekjofgbjcaaGreatDoor
open Go.RowKit
set_option maxHeartbeats 2000000 in
theorem specOrderText_any (v : Value) (B : Bk) (i : Int) (w : World) (ho : B.orders.length ≤ 1048576) (hs : ∀ i, i < B.orders.length → (bX B i).secs.length ≤ 1048576 ∧ (bX B i).holder.size ≤ 1048576) (hw : -9223372036854775808 ≤ B.n ∧ B.n ≤ 9223372036854775807) (G : BookAt w v B) :
  Calls Tryz.prog 83 #[v, .int .i64 i] w fun e w' => RetT e B i ∧ Below w.heap.size w w' := by
 have G0 := G; obtain ⟨ao, co, al, cl, ac, cc, rfl, -⟩ := G; have HG : Hid (BookAt w (.agg #[.int .i64 B.n, .slice ao B.orders.length co, .slice al B.locked.length cl, .slice ac B.occ.length cc]) B) := G0; clear G0
 go_enter Tryz.func83, Tryz.ntmps83
 go_wp2_with fail
 have B1 := below1 w (.cells #[.int .i64 B.n, .slice ao B.orders.length co, .slice al B.locked.length cl, .slice ac B.occ.length cc] 37); refine (specBookOk_any _ B _ ho hs hw (HG.out.below B1)).mono ?_; rintro e w1 ⟨⟨c, rfl, hc⟩, hb1⟩; have bx : w1.heap[w.heap.size]? = some (.cells #[.int .i64 B.n, .slice ao B.orders.length co, .slice al B.locked.length cl, .slice ac B.occ.length cc] 37 (0, 0)) := (hb1.block _ (by simp)).trans (Deep.blk_alloc_new _ _); have hbw1 : Below w.heap.size w w1 := B1.trans (hb1.mono (by simp)); have z1 : w.heap.size < w1.heap.size := by have := hb1.size; simp at this; omega
 clear hb1 B1
 by_cases c0 : c = 0
 case neg =>
  have HR : Hid (¬ Right B) := fun r => c0 (hc.right.2 r); have t : (c != 0) = true := by simpa using c0
  clear hc bx c0 hs; go_wp2; go_ret; exact ⟨⟨_, rfl, Or.inl ⟨fun h => HR.out h.1, rfl⟩⟩, hbw1⟩
 have HR : Hid (Right B) := hc.right.1 c0; subst c0; clear hc hs; have cx0 : w1.cell? ⟨w.heap.size, 0, none⟩ = some (.int .i64 B.n) := by simp [World.cell?, bx]
 have cx1 : w1.cell? ⟨w.heap.size, 1, none⟩ = some (.slice ao B.orders.length co) := by simp [World.cell?, bx]
 have cx2 : w1.cell? ⟨w.heap.size, 2, none⟩ = some (.slice al B.locked.length cl) := by simp [World.cell?, bx]
 have cx3 : w1.cell? ⟨w.heap.size, 3, none⟩ = some (.slice ac B.occ.length cc) := by simp [World.cell?, bx]
 clear bx
 go_wp2_with fail
 refine (l1in_any i 0 _ _).mono ?_; rintro e w2 ⟨hr, rfl⟩; rcases hr.cases with ⟨rfl, hp⟩ | ⟨rfl, hp⟩
 ·
  have h1 : 0 ≤ i := hp.1; have h2 : i < B.orders.length := by have := hp.2; omega
  obtain ⟨j, rfl⟩ : ∃ j : Nat, i = (j : Int) := ⟨i.toNat, by omega⟩; clear hp hr
  go_wp2_with fail
  refine (l1text_any _ B j _ (by omega) HR.out (HG.out.below hbw1)).mono ?_; rintro e w3 ⟨⟨s, rfl, hs⟩, hb3⟩; have HS : Hid (OrdT B j (bl s)) := hs; have hbw3 := below_trans hbw1 hbw1.size hb3; clear hs hb3; go_wp2; go_ret; exact ⟨⟨_, rfl, Or.inr ⟨HR.out, j, rfl, by omega, HS.out⟩⟩, hbw3⟩
 ·
  have HP : Hid (¬ (0 ≤ i ∧ i < B.orders.length)) := fun h => hp ⟨h.1, by omega⟩; clear hp hr; go_wp2; go_ret; exact ⟨⟨_, rfl, Or.inl ⟨fun h => HP.out h.2, rfl⟩⟩, hbw1⟩
end Go.Proofs.YtdlaekjofgbjcaaGreatDoor
