/-
  The contract of impl.repeat. Mine, by template (wip/gen.py).
-/
import Derived.Test.YteifekoiognhmaaGreatDoorIDo2
import Derived.Test.YteifekoiognhmaaGreatDoorIText2
namespace Go.Proofs.YteifekoiognhmaaGreatDoor
open Go.RowKit

theorem textIs_ord {B : Bk} {i : Nat} {l : List UInt8} (h : TextIs B (i : Int) l) (hR : Right B) (hi : i < B.orders.length) : OrdT B i l := by
  rcases h with ⟨h1, _⟩ | ⟨_, j, e, _, h2⟩
  · exact absurd ⟨hR, by omega, by omega⟩ h1
  · obtain rfl : i = j := by omega
    exact h2

theorem doRepeat_state {B : Bk} {i : Nat} {h t : ByteArray} (a : (bX B i).state ≠ 2) : doRepeat B i h t = (2, B) := by unfold doRepeat; rw [if_pos a]
theorem doRepeat_holder {B : Bk} {i : Nat} {h t : ByteArray} (a : (bX B i).state = 2) (b : (bX B i).holder ≠ h) : doRepeat B i h t = (3, B) := by unfold doRepeat; rw [if_neg (fun q => q a), if_pos b]
theorem doRepeat_text {B : Bk} {i : Nat} {h t : ByteArray} (a : (bX B i).state = 2) (b : (bX B i).holder = h) (c : ¬ OrdT B i (bl t)) : doRepeat B i h t = (4, setState B i 5) := by unfold doRepeat; rw [if_neg (fun q => q a), if_neg (fun q => q b), if_pos c]
theorem doRepeat_ok {B : Bk} {i : Nat} {h t : ByteArray} (a : (bX B i).state = 2) (b : (bX B i).holder = h) (c : OrdT B i (bl t)) : doRepeat B i h t = (0, setState B i 3) := by unfold doRepeat; rw [if_neg (fun q => q a), if_neg (fun q => q b), if_neg (fun q => q c)]

set_option maxHeartbeats 8000000 in
theorem repeat_any (A : Nat → Addr) (v : Value) (B : Bk) (K : Blk) (lo p i : Nat) (s t : ByteArray) (w : World) (hE : Errs w A) (hT : Lib.TabIs Tryz.prog w "internal/strconv.uint64pow10" .u64 Lib.pow10Tab) (h : OwnBook w lo v B K) (hp : BoxAt w p v) (hR : Right B) (hi : i < B.orders.length)
    (hsm : B.orders.length ≤ 1048576 ∧ ∀ i, i < B.orders.length → (bX B i).secs.length ≤ 1048576 ∧ (bX B i).holder.size ≤ 1048576) :
    Calls Tryz.prog 73 #[.pointer (some ⟨p, 0, none⟩), .agg #[.int .i64 (i : Int), .string s, .string t]] w fun e w' => RetX A e w w' lo v B K (doRepeat B i s t) := by
  obtain ⟨ao, co, al, cl, ac, cc, rfl, h1, -, -⟩ := h.shape
  obtain ⟨a, b, c, d, e, hbx⟩ := hp
  simp only [Value.agg.injEq, Array.mk.injEq, List.cons.injEq, and_true] at e
  obtain ⟨rfl, rfl, rfl, rfl⟩ := e
  obtain rfl : ao = some ⟨K.G, 0, none⟩ := h1.head (by omega)
  have B1 : Below w.heap.size w (w.alloc (.cells #[.int .i64 (i : Int), .string s, .string t] 114)) := below1 _ _
  have H1 := h.below B1
  have E1 := hE.below B1
  have T1 := tab_below hT B1
  have bx1 : (w.alloc (.cells #[.int .i64 (i : Int), .string s, .string t] 114)).heap[p]? = some (.cells #[.int .i64 B.n, .slice (some ⟨K.G, 0, none⟩) B.orders.length co, .slice al B.locked.length cl, .slice ac B.occ.length cc] 37 (0, 0)) := (B1.block _ (Array.getElem?_eq_some_iff.1 hbx).1).trans hbx
  have bh1 : (w.alloc (.cells #[.int .i64 (i : Int), .string s, .string t] 114)).heap[w.heap.size]? = some (.cells #[.int .i64 (i : Int), .string s, .string t] 114 (0, 0)) := Deep.blk_alloc_new _ _
  obtain ⟨W, hW⟩ : ∃ W, W = (w.alloc (.cells #[.int .i64 (i : Int), .string s, .string t] 114)) := ⟨_, rfl⟩
  have zW : w.heap.size < W.heap.size := by rw [hW]; simp
  go_enter Tryz.func73, Tryz.ntmps73
  go_wp2
  rw [← hW] at B1 H1 E1 T1 bx1 bh1 ⊢
  clear hW
  obtain ⟨⟨x0, x1, x2, x3, x4⟩, hf, hG⟩ := ord_facts H1 hi
  obtain ⟨o0, o1, o2, o3⟩ := box_cells bx1
  obtain ⟨n0, n1, n2⟩ : W.cell? ⟨w.heap.size, 0, none⟩ = some (.int .i64 (i : Int)) ∧ W.cell? ⟨w.heap.size, 1, none⟩ = some (.string s) ∧ W.cell? ⟨w.heap.size, 2, none⟩ = some (.string t) := ⟨cell_of_box bh1 rfl, cell_of_box bh1 rfl, cell_of_box bh1 rfl⟩
  have f3 := hf (i * 4 + 3)
  have v2 : W.cell? ⟨2, 0, none⟩ = some (errV A 2) := E1.v 2 (by omega)
  have v4 : W.cell? ⟨4, 0, none⟩ = some (errV A 4) := E1.v 4 (by omega)
  have hi0 : (0 : Int) ≤ (i : Int) := by omega
  have hi1 : (i : Int) < (B.orders.length : Int) := by omega
  have HH : Hid (OwnBook W lo (.agg #[.int .i64 B.n, .slice (some ⟨K.G, 0, none⟩) B.orders.length co, .slice al B.locked.length cl, .slice ac B.occ.length cc]) B K ∧ Right B ∧ W.heap[p]? = some (.cells #[.int .i64 B.n, .slice (some ⟨K.G, 0, none⟩) B.orders.length co, .slice al B.locked.length cl, .slice ac B.occ.length cc] 37 (0, 0)) ∧ Errs W A ∧ bookBlocks B K K.G ∧ Lib.TabIs Tryz.prog W "internal/strconv.uint64pow10" .u64 Lib.pow10Tab ∧ Fr (bookBlocks B K) w W) := ⟨H1, hR, bx1, E1, hG, T1, Fr.of_below B1⟩
  clear h h1 hE hT hbx B1 H1 E1 T1 bx1 bh1 x4 hf hG hR x1 x2
  go_region_held3 (fun w' => w'.cell? ⟨p, 1, none⟩ = some (.slice (some ⟨K.G, 0, none⟩) B.orders.length co) ∧ w'.cell? ⟨w.heap.size, 0, none⟩ = some (.int .i64 (i : Int))) (go_keep) (fail)
  by_cases s1 : (bX B i).state = 2
  case neg =>
    have t1 : ((bX B i).state != 2) = true := by simpa using s1
    have HS : Hid ((bX B i).state ≠ 2) := s1
    clear s1
    go_wp2
    go_ret
    refine ⟨some 2, rfl, by unfold ErrOk; simp, ?_⟩
    rw [doRepeat_state HS.out]
    exact ⟨rfl, HH.out.1.drew, HH.out.2.2.2.2.2.2.drew⟩
  have t1 : ((bX B i).state != 2) = false := by simp [s1]
  have HS : Hid ((bX B i).state = 2) := s1
  clear s1
  by_cases s2 : (bX B i).holder = s
  case neg =>
    have t2 := strEq_f s2
    have HS2 : Hid ((bX B i).holder ≠ s) := s2
    clear s2
    go_wp2
    go_region_held3 (fun w' => w'.cell? ⟨K.G, i * 4, none⟩ = some (.string (bX B i).holder) ∧ w'.cell? ⟨w.heap.size, 1, none⟩ = some (.string s)) (go_keep) (fail)
    go_wp2
    go_ret
    refine ⟨some 4, rfl, by unfold ErrOk; simp, ?_⟩
    rw [doRepeat_holder HS.out HS2.out]
    exact ⟨rfl, HH.out.1.drew.drew, HH.out.2.2.2.2.2.2.drew.drew⟩
  have t2 := strEq_t s2
  have HS2 : Hid ((bX B i).holder = s) := s2
  clear s2
  go_wp2
  go_region_held3 (fun w' => w'.cell? ⟨K.G, i * 4, none⟩ = some (.string (bX B i).holder) ∧ w'.cell? ⟨w.heap.size, 1, none⟩ = some (.string s)) (go_keep) (fail)
  go_wp2
  have zp : p < W.heap.size := (Array.getElem?_eq_some_iff.1 HH.out.2.2.1).1
  have hb0 : Below W.heap.size W W.drew.drew.drew := (Below.refl _ _).drew.drew.drew
  have HB0 : Hid (Below W.heap.size W W.drew.drew.drew) := hb0
  clear hb0
  go_region_held3 (fun w' => w'.cell? ⟨w.heap.size, 2, none⟩ = some (.string t) ∧ w'.cell? ⟨p, 0, none⟩ = some (.int .i64 B.n) ∧ w'.cell? ⟨p, 1, none⟩ = some (.slice (some ⟨K.G, 0, none⟩) B.orders.length co) ∧ w'.cell? ⟨p, 2, none⟩ = some (.slice al B.locked.length cl) ∧ w'.cell? ⟨p, 3, none⟩ = some (.slice ac B.occ.length cc) ∧ w'.cell? ⟨w.heap.size, 0, none⟩ = some (.int .i64 (i : Int))) (go_keep)
    (first | (go_at_call 19; refine (implOrderText_any _ B (i : Int) _ hsm.1 hsm.2 (tab_below HH.out.2.2.2.2.2.1 HB0.out) (HH.out.1.below HB0.out).bookAt).mono ?_; rintro e w2 ⟨⟨s', rfl, hs'⟩, hb2⟩; have hbR : Below W.heap.size W w2 := below_trans HB0.out HB0.out.size hb2; obtain ⟨hc1, hf1⟩ := bcell hbR; have HT : Hid (OrdT B i (bl s') ∧ Below W.heap.size W w2) := ⟨textIs_ord hs' HH.out.2.1 hi, hbR⟩; clear hb2 hs' hbR))
  have H2 := HH.out.1.below HT.out.2
  obtain ⟨⟨-, -, -, y3, -⟩, hf2, -⟩ := ord_facts H2 hi
  have g3 := hf2 (i * 4 + 3)
  have E2 := HH.out.2.2.2.1.below HT.out.2
  have v6 : w2.cell? ⟨6, 0, none⟩ = some (errV A 6) := E2.v 6 (by omega)
  have HZ : Hid (OwnBook w2 lo (.agg #[.int .i64 B.n, .slice (some ⟨K.G, 0, none⟩) B.orders.length co, .slice al B.locked.length cl, .slice ac B.occ.length cc]) B K ∧ Fr (bookBlocks B K) w w2 ∧ bookBlocks B K K.G) := ⟨H2, HH.out.2.2.2.2.2.2.trans (Fr.of_below HT.out.2), HH.out.2.2.2.2.1⟩
  clear H2 hf2 E2 hc1 hf1 v2 v4 x0 x3 f3 o0 o1 o2 o3 n0 n1 n2
  by_cases s3 : t = s'
  · subst s3
    have HS3 : Hid (OrdT B i (bl t)) := HT.out.1
    have t3 : (!(t.toList == t.toList)) = false := by rw [strEq_t rfl]; rfl
    rw [t3]
    clear t3
    go_wp2
    go_ret
    refine ⟨none, rfl, Or.inl rfl, ?_⟩
    rw [doRepeat_ok HS.out HS2.out HS3.out]
    exact ⟨rfl, HZ.out.1.setState hi 3, HZ.out.2.1.setCell (p := ⟨K.G, i * 4 + 3, none⟩) HZ.out.2.2 _⟩
  · have t3 : (!(t.toList == s'.toList)) = true := by rw [strEq_f s3]; rfl
    have HS3 : Hid (¬ OrdT B i (bl t)) := fun q => s3 (bl_inj (q.det HT.out.1))
    rw [t3]
    clear s3 t3
    go_wp2
    go_ret
    refine ⟨some 6, ?_, by unfold ErrOk; simp, ?_⟩
    · rfl
    · rw [doRepeat_text HS.out HS2.out HS3.out]
      exact ⟨rfl, HZ.out.1.setState hi 5, HZ.out.2.1.setCell (p := ⟨K.G, i * 4 + 3, none⟩) HZ.out.2.2 _⟩

end Go.Proofs.YteifekoiognhmaaGreatDoor
