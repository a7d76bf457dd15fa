import Derived.Test.YteifekoiognhmaaGreatDoorFull
import Derived.Test.YteifekoiognhmaaGreatDoorRanZ
import Derived.Test.YteifekoiognhmaaGreatDoorIBook
import Derived.Test.YteifekoiognhmaaGreatDoorSBook
import Derived.Test.YteifekoiognhmaaGreatDoorEvI2
import Derived.Test.YteifekoiognhmaaGreatDoorIDo6
import Derived.Test.YteifekoiognhmaaGreatDoorIText2
import Derived.Test.YteifekoiognhmaaGreatDoorEvZ
import Derived.Test.YteifekoiognhmaaGreatDoorCurZ
/-
  Drawn books: spec.l4book, spec.DrawBookOk. Mine, by program (wip/book.py), by template (wip/gen.py).
-/
namespace Go.Proofs.YteifekoiognhmaaGreatDoor
open Go.RowKit

theorem Drawable.loose {B : Bk} (h : Drawable B) : Loose B 0 := by
  obtain ⟨_, _, h1, h2, hR⟩ := h
  have s1 := hR.1
  exact ⟨by have := s1.2.2.2; omega, fun i hi => ⟨by have := (hR.2.1 i hi).2.2.1.2.1; omega, by have := (hR.2.1 i hi).2.2.1.2.2; omega, (hR.2.1 i hi).1.2.2⟩, by have := s1.2.1; omega, by have := s1.2.1; omega, by have := s1.2.2.1; omega, by omega, by omega⟩

theorem loose_mono {B : Bk} {i j : Nat} (h : Loose B i) (hl : i ≤ j) : Loose B j := ⟨h.1, fun q hq => ⟨(h.2.1 q hq).1, by have := (h.2.1 q hq).2.1; omega, (h.2.1 q hq).2.2⟩, h.2.2.1, by have := h.2.2.2.1; omega, h.2.2.2.2⟩

/-- What l4book answers: a book, and the cursor (block p). -/
def RetLB (e : Ending) (w w' : World) (ad : Option Addr) (n c : Nat) (V : Nat → UInt8) : Prop :=
  ∃ v B K, e = .returned (.tuple #[v, .pointer (some ⟨w.heap.size + 1, 0, none⟩)]) ∧ OwnBook w' (w.heap.size + 2) v B K ∧ Loose B 1 ∧ CurTo w' (w.heap.size + 1) ad n c V 0 20000 ∧ Below w.heap.size w w'

/-- While a book is drawn: the cursor and the answer's variable. -/
structure LB (w W : World) (ad : Option Addr) (n c : Nat) (V : Nat → UInt8) (d : Nat) : Prop where
  cur : CurTo W (w.heap.size + 1) ad n c V 0 d
  res : W.heap[w.heap.size]? = some (.cells #[.int .i64 0, .slice none 0 0, .slice none 0 0, .slice none 0 0] 37 (0, 0))
  bel : Below w.heap.size w W
  z : w.heap.size + 2 ≤ W.heap.size

theorem LB.step {w W W' : World} {ad : Option Addr} {n c : Nat} {V : Nat → UInt8} {d d' : Nat} (h : LB w W ad n c V d) (hf : Fr (fun x => x = w.heap.size + 1) W W') (hc : CurTo W' (w.heap.size + 1) ad n c V 0 d') : LB w W' ad n c V d' := by
  have hz := h.z
  exact ⟨hc, (hf.block _ (by omega) (by omega)).trans h.res, h.bel.trans (hf.below (by omega) (fun x e => by omega)), Nat.le_trans hz hf.size⟩
theorem LB.below {w W W' : World} {ad : Option Addr} {n c : Nat} {V : Nat → UInt8} {d : Nat} (h : LB w W ad n c V d) (hb : Below W.heap.size W W') : LB w W' ad n c V d := by
  have hz := h.z
  exact ⟨h.cur.below' hb, (hb.block _ (by omega)).trans h.res, h.bel.trans (hb.mono (by omega)), Nat.le_trans hz hb.size⟩
theorem LB.turn {w W W' : World} {ad : Option Addr} {n c : Nat} {V : Nat → UInt8} {d : Nat} (h : LB w W ad n c V d) (hG : ∀ b o, 0 < n → ad = some ⟨b, o, none⟩ → b < w.heap.size) {S : Nat → Prop} (hf : Fr S W W') (hS : ∀ x, S x → w.heap.size + 2 ≤ x) : LB w W' ad n c V d := by
  have hz := h.z
  exact ⟨h.cur.fr' hf (fun e => by have := hS _ e; omega) (fun h0 b o ha e => by have := hG b o h0 ha; have := hS _ e; omega), (hf.block _ (by omega) (fun e => by have := hS _ e; omega)).trans h.res, h.bel.trans (hf.below (by omega) (fun x e => by have := hS _ e; omega)), Nat.le_trans hz hf.size⟩
/-- The answer is stored. -/
theorem LB.done {w W : World} {ad : Option Addr} {n c : Nat} {V : Nat → UInt8} {d : Nat} (h : LB w W ad n c V d) (hG : ∀ b o, 0 < n → ad = some ⟨b, o, none⟩ → b < w.heap.size) {B : Bk} {s : Sl} {K : Blk} (hO : OwnBook W (w.heap.size + 2) (bookV B s) B K) (hL : Loose B 1) (hd : d ≤ 20000) : RetLB (.returned (.tuple #[bookV B s, .pointer (some ⟨w.heap.size + 1, 0, none⟩)])) w (putBook W w.heap.size B s) ad n c V := by
  have hz := h.z
  have pf := putBook_fr W w.heap.size B s
  exact ⟨_, B, K, rfl, hO.fr pf (fun x hx e => by have := hO.blocks_low hx; omega), hL, (h.cur.fr' pf (by omega) (fun h0 b o ha e => by have := hG b o h0 ha; omega)).mono (by omega), h.bel.trans (pf.below (by omega) (fun x e => by omega))⟩

set_option maxRecDepth 20000 in
set_option maxHeartbeats 8000000 in
theorem l4book_any (ad : Option Addr) (n c : Nat) (V : Nat → UInt8) (w : World) (hn : n ≤ 1048576) (G : BytesAt w ad n V) :
    Calls Tryz.prog 35 #[.slice ad n c] w fun e w' => RetLB e w w' ad n c V := by
  have hG : ∀ b o, 0 < n → ad = some ⟨b, o, none⟩ → b < w.heap.size := fun b o h0 ha => by
    obtain ⟨b', o', h1, h2⟩ := G
    have e := (h1 h0).symm.trans ha
    simp only [Option.some.injEq, Addr.mk.injEq] at e
    rw [← e.1]
    exact World.block_lt_of_cell? _ _ (h2 0 h0)
  have HG : Hid (∀ b o, 0 < n → ad = some ⟨b, o, none⟩ → b < w.heap.size) := hG
  have B0 := below1 w (.cells #[.int .i64 0, .slice none 0 0, .slice none 0 0, .slice none 0 0] 37)
  have C1 : Cur ((w.alloc (.cells #[.int .i64 0, .slice none 0 0, .slice none 0 0, .slice none 0 0] 37)).alloc (.cells #[.slice ad n c, .int .i64 0, .int .u64 0] 53)) (w.heap.size + 1) ad n c V 0 := by
    have := drawn_cur (c := c) (G.below B0)
    rw [alloc_size] at this
    exact this
  have L1 : Hid (LB w ((w.alloc (.cells #[.int .i64 0, .slice none 0 0, .slice none 0 0, .slice none 0 0] 37)).alloc (.cells #[.slice ad n c, .int .i64 0, .int .u64 0] 53)) ad n c V 0) := ⟨⟨0, by omega, C1⟩, (two_boxes _ _ _ _ _).1, below2 _ _ _, by simp⟩
  clear hG G B0 C1
  go_enter Tryz.func35, Tryz.ntmps35
  go_wp2_with fail
  obtain ⟨t1, ht1, hc1⟩ := L1.out.cur
  refine (pick_any (w.heap.size + 1) ad n c V t1 40 _ (by omega) hn (by omega) hc1).mono ?_
  clear hc1
  rintro e w2 ⟨⟨r, rfl, -, -⟩, ⟨u2, hu2, hv2⟩, hf2⟩
  have L2 : Hid (LB w w2 ad n c V 2) := L1.out.step hf2 ⟨u2, by omega, hv2⟩
  clear hv2 hf2 hu2 ht1 L1
  by_cases hr : (r : Int) = 0
  · have tr : ((r : Int) == 0) = true := by simpa using hr
    clear hr
    go_wp2_with fail
    obtain ⟨t3, ht3, hc3⟩ := L2.out.cur
    refine (full_any (w.heap.size + 1) ad n c V t3 _ (by omega) hn hc3).mono ?_
    clear hc3
    rintro e w3 ⟨v3, B, K, rfl, hO, hL, ⟨u3, hu3, hv3⟩, hf3⟩
    obtain ⟨ao, co, al, cl, ac, cc, rfl, -⟩ := hO.shape
    have L3 : Hid (LB w w3 ad n c V 22 ∧ OwnBook w3 (w.heap.size + 2) (bookV B ⟨ao, co, al, cl, ac, cc⟩) B K ∧ Loose B 1) := ⟨L2.out.step hf3 ⟨u3, by omega, hv3⟩, hO.mono L2.out.z, hL.up⟩
    clear hO hL hv3 hf3 hu3 ht3 L2
    obtain ⟨e0, e1, e2, e3⟩ := box_cells L3.out.1.res
    have f0 : w3.frozen? ⟨w.heap.size, 0, none⟩ = false := frozen_of_box L3.out.1.res
    have f1 : w3.frozen? ⟨w.heap.size, 1, none⟩ = false := frozen_of_box L3.out.1.res
    have f2 : w3.frozen? ⟨w.heap.size, 2, none⟩ = false := frozen_of_box L3.out.1.res
    have f3 : w3.frozen? ⟨w.heap.size, 3, none⟩ = false := frozen_of_box L3.out.1.res
    have zr : w.heap.size < w3.heap.size := by have := L3.out.1.z; omega
    go_wp2
    refine bodyPost_ret (v := .tuple #[.agg #[.int .i64 B.n, .slice ao B.orders.length co, .slice al B.locked.length cl, .slice ac B.occ.length cc], .pointer (some ⟨w.heap.size + 1, 0, none⟩)]) (by simp [results, Tryz.results35, go_sem, e0, e1, e2, e3]) rfl ?_
    exact LB.done (s := ⟨ao, co, al, cl, ac, cc⟩) (L3.out.1) HG.out (L3.out.2.1) (L3.out.2.2) (by omega)
  · have tr : ((r : Int) == 0) = false := by simpa using hr
    clear hr
    go_wp2_with fail
    obtain ⟨t3, ht3, hc3⟩ := L2.out.cur
    refine (show Calls Tryz.prog 20 #[.pointer (some ⟨w.heap.size + 1, 0, none⟩), .int .i64 30] w2 _ from l4run_any (w.heap.size + 1) ad n c V t3 30 _ (by omega) hn (by omega) hc3).mono ?_
    clear hc3
    rintro e w3 ⟨m, u, v, k, X, sa, sc, B, K, rfl, hm1, hm9, hk, hrow, -, hO, hdr, ⟨u3, hu3, hv3⟩, hf3⟩
    obtain ⟨adU, cU, rfl, -⟩ := hrow.done
    obtain ⟨ao, co, al, cl, ac, cc, rfl, -⟩ := hO.shape
    have L3 : Hid (LB w w3 ad n c V 14000 ∧ OwnBook w3 (w.heap.size + 2) (bookV B ⟨ao, co, al, cl, ac, cc⟩) B K ∧ Loose B 0) := ⟨L2.out.step hf3 ⟨u3, by omega, hv3⟩, hO.mono L2.out.z, hdr.loose⟩
    clear hO hdr hrow hv3 hf3 hu3 ht3 L2
    go_wp2_with fail
    have b4 := below1 w3 (.cells #[.int .i64 B.n, .slice ao B.orders.length co, .slice al B.locked.length cl, .slice ac B.occ.length cc] 37)
    have L4' : Hid (LB w (w3.alloc (.cells #[.int .i64 B.n, .slice ao B.orders.length co, .slice al B.locked.length cl, .slice ac B.occ.length cc] 37)) ad n c V 14000 ∧ OwnBook (w3.alloc (.cells #[.int .i64 B.n, .slice ao B.orders.length co, .slice al B.locked.length cl, .slice ac B.occ.length cc] 37)) (w.heap.size + 2) (bookV B ⟨ao, co, al, cl, ac, cc⟩) B K ∧ (w3.alloc (.cells #[.int .i64 B.n, .slice ao B.orders.length co, .slice al B.locked.length cl, .slice ac B.occ.length cc] 37)).heap[w3.heap.size]? = some (.cells #[.int .i64 B.n, .slice ao B.orders.length co, .slice al B.locked.length cl, .slice ac B.occ.length cc] 37 (0, 0)) ∧ (∀ x, bookBlocks B K x → x ≠ w3.heap.size)) := ⟨L3.out.1.below b4, L3.out.2.1.below b4, Deep.blk_alloc_new _ _, fun x hx => by have := L3.out.2.1.blocks_lt hx; omega⟩
    have HL : Hid (Loose B 0) := L3.out.2.2
    have z3 : w.heap.size + 2 ≤ w3.heap.size := L3.out.1.z
    obtain ⟨W4, hW4⟩ : ∃ W4, W4 = w3.alloc (.cells #[.int .i64 B.n, .slice ao B.orders.length co, .slice al B.locked.length cl, .slice ac B.occ.length cc] 37) := ⟨_, rfl⟩
    rw [← hW4] at L4' ⊢
    clear hW4 b4 L3
    obtain ⟨t4, ht4, hc4⟩ := L4'.out.1.cur
    refine (pick_any (w.heap.size + 1) ad n c V t4 10 _ (by omega) hn (by omega) hc4).mono ?_
    clear hc4
    rintro e w5 ⟨⟨r5, rfl, -, -⟩, ⟨u5, hu5, hv5⟩, hf5⟩
    have z4 : w3.heap.size < W4.heap.size := (Array.getElem?_eq_some_iff.1 L4'.out.2.2.1).1
    have L5 : Hid (LB w w5 ad n c V 14002 ∧ OwnBook w5 (w.heap.size + 2) (bookV B ⟨ao, co, al, cl, ac, cc⟩) B K ∧ w5.heap[w3.heap.size]? = some (.cells #[.int .i64 B.n, .slice ao B.orders.length co, .slice al B.locked.length cl, .slice ac B.occ.length cc] 37 (0, 0))) := ⟨L4'.out.1.step hf5 ⟨u5, by omega, hv5⟩, L4'.out.2.1.fr hf5 (fun x hx e => by have := L4'.out.2.1.blocks_low hx; omega), (hf5.block _ z4 (by omega)).trans L4'.out.2.2.1⟩
    clear hv5 hf5 hu5 ht4 L4' z4
    by_cases hr5 : (r5 : Int) = 0
    · have tr5 : ((r5 : Int) == 0) = true := by simpa using hr5
      clear hr5
      obtain ⟨p0, p1, p2, p3⟩ := box_cells L5.out.2.2
      have zp : w3.heap.size < w5.heap.size := (Array.getElem?_eq_some_iff.1 L5.out.2.2).1
      go_wp2_with fail
      obtain ⟨t6, ht6, hc6⟩ := L5.out.1.cur
      refine (bend_any (w.heap.size + 1) ad n c V t6 (w.heap.size + 2) _ B K 0 _ (by omega) hn hc6 L5.out.2.1 HL.out (by omega)).mono ?_
      clear hc6
      rintro e w6 ⟨v6, B6, K6, rfl, hO6, hL6, ⟨u6, hu6, hv6⟩, hf6⟩
      obtain ⟨ao6, co6, al6, cl6, ac6, cc6, rfl, -⟩ := hO6.shape
      have x6 := (hf6.block _ zp (by omega)).trans L5.out.2.2
      obtain ⟨o0, o1, o2, o3⟩ := box_cells x6
      have g0 : w6.frozen? ⟨w3.heap.size, 0, none⟩ = false := frozen_of_box x6
      have g1 : w6.frozen? ⟨w3.heap.size, 1, none⟩ = false := frozen_of_box x6
      have g2 : w6.frozen? ⟨w3.heap.size, 2, none⟩ = false := frozen_of_box x6
      have g3 : w6.frozen? ⟨w3.heap.size, 3, none⟩ = false := frozen_of_box x6
      have z6 : w3.heap.size < w6.heap.size := (Array.getElem?_eq_some_iff.1 x6).1
      have pf := putBook_fr w6 w3.heap.size B6 ⟨ao6, co6, al6, cl6, ac6, cc6⟩
      have L7 : Hid (LB w (putBook w6 w3.heap.size B6 ⟨ao6, co6, al6, cl6, ac6, cc6⟩) ad n c V 14022 ∧ OwnBook (putBook w6 w3.heap.size B6 ⟨ao6, co6, al6, cl6, ac6, cc6⟩) (w.heap.size + 2) (bookV B6 ⟨ao6, co6, al6, cl6, ac6, cc6⟩) B6 K6 ∧ (putBook w6 w3.heap.size B6 ⟨ao6, co6, al6, cl6, ac6, cc6⟩).heap[w3.heap.size]? = some (.cells #[.int .i64 B6.n, .slice ao6 B6.orders.length co6, .slice al6 B6.locked.length cl6, .slice ac6 B6.occ.length cc6] 37 (0, 0)) ∧ Loose B6 1) := by
        have hO6' : OwnBook w6 w5.heap.size (bookV B6 ⟨ao6, co6, al6, cl6, ac6, cc6⟩) B6 K6 := hO6
        exact ⟨(L5.out.1.step hf6 (d' := 14022) ⟨u6, by omega, hv6⟩).turn HG.out pf (fun x e => by omega), (hO6'.fr pf (fun x hx e => by have := hO6'.blocks_low hx; omega)).mono L5.out.1.z, putBook_box x6, hL6⟩
      clear hO6 hL6 hv6 hf6 hu6 ht6 x6 pf L5 p0 p1 p2 p3
      go_upto_region 7 with (fail)
      have hCh : ((((w6.setCell ⟨w3.heap.size, 0, none⟩ (.int .i64 B6.n)).setCell ⟨w3.heap.size, 1, none⟩ (.slice ao6 B6.orders.length co6)).setCell ⟨w3.heap.size, 2, none⟩ (.slice al6 B6.locked.length cl6)).setCell ⟨w3.heap.size, 3, none⟩ (.slice ac6 B6.occ.length cc6)) = putBook w6 w3.heap.size B6 ⟨ao6, co6, al6, cl6, ac6, cc6⟩ := rfl
      rw [hCh]
      clear hCh o0 o1 o2 o3 g0 g1 g2 g3
      obtain ⟨Y, hY⟩ : ∃ Y, Y = putBook w6 w3.heap.size B6 ⟨ao6, co6, al6, cl6, ac6, cc6⟩ := ⟨_, rfl⟩
      rw [← hY] at L7 ⊢
      clear hY z6
      obtain ⟨p0, p1, p2, p3⟩ := box_cells L7.out.2.2.1
      have zp : w3.heap.size < Y.heap.size := (Array.getElem?_eq_some_iff.1 L7.out.2.2.1).1
      obtain ⟨e0, e1, e2, e3⟩ := box_cells L7.out.1.res
      have f0 : Y.frozen? ⟨w.heap.size, 0, none⟩ = false := frozen_of_box L7.out.1.res
      have f1 : Y.frozen? ⟨w.heap.size, 1, none⟩ = false := frozen_of_box L7.out.1.res
      have f2 : Y.frozen? ⟨w.heap.size, 2, none⟩ = false := frozen_of_box L7.out.1.res
      have f3 : Y.frozen? ⟨w.heap.size, 3, none⟩ = false := frozen_of_box L7.out.1.res
      have zr : w.heap.size < Y.heap.size := by have := L7.out.1.z; omega
      go_wp2
      refine bodyPost_ret (v := .tuple #[.agg #[.int .i64 B6.n, .slice ao6 B6.orders.length co6, .slice al6 B6.locked.length cl6, .slice ac6 B6.occ.length cc6], .pointer (some ⟨w.heap.size + 1, 0, none⟩)]) (by simp [results, Tryz.results35, go_sem, e0, e1, e2, e3]) rfl ?_
      exact LB.done (s := ⟨ao6, co6, al6, cl6, ac6, cc6⟩) (L7.out.1) HG.out (L7.out.2.1) (L7.out.2.2.2) (by omega)
    · have tr5 : ((r5 : Int) == 0) = false := by simpa using hr5
      clear hr5
      obtain ⟨p0, p1, p2, p3⟩ := box_cells L5.out.2.2
      have zp : w3.heap.size < w5.heap.size := (Array.getElem?_eq_some_iff.1 L5.out.2.2).1
      obtain ⟨e0, e1, e2, e3⟩ := box_cells L5.out.1.res
      have f0 : w5.frozen? ⟨w.heap.size, 0, none⟩ = false := frozen_of_box L5.out.1.res
      have f1 : w5.frozen? ⟨w.heap.size, 1, none⟩ = false := frozen_of_box L5.out.1.res
      have f2 : w5.frozen? ⟨w.heap.size, 2, none⟩ = false := frozen_of_box L5.out.1.res
      have f3 : w5.frozen? ⟨w.heap.size, 3, none⟩ = false := frozen_of_box L5.out.1.res
      have zr : w.heap.size < w5.heap.size := by have := L5.out.1.z; omega
      go_wp2
      refine bodyPost_ret (v := .tuple #[.agg #[.int .i64 B.n, .slice ao B.orders.length co, .slice al B.locked.length cl, .slice ac B.occ.length cc], .pointer (some ⟨w.heap.size + 1, 0, none⟩)]) (by simp [results, Tryz.results35, go_sem, e0, e1, e2, e3]) rfl ?_
      exact LB.done (s := ⟨ao, co, al, cl, ac, cc⟩) (L5.out.1) HG.out (L5.out.2.1) (HL.out.up) (by omega)

/-- What DrawBookOk answers. -/
def RetSp (e : Ending) (w w' : World) : Prop := ∃ v B K, e = .returned v ∧ OwnBook w' w.heap.size v B K ∧ Loose B 5 ∧ Below w.heap.size w w'

/-- While a drawn book is bent. -/
structure DB (w wr : World) (p P : Nat) (ad : Option Addr) (n c : Nat) (V : Nat → UInt8) (d : Nat) (B : Bk) (s : Sl) (K : Blk) : Prop where
  cur : CurTo wr p ad n c V 0 d
  res : wr.heap[w.heap.size]? = some (.cells #[.int .i64 0, .slice none 0 0, .slice none 0 0, .slice none 0 0] 37 (0, 0))
  box : wr.heap[P]? = some (.cells #[.int .i64 B.n, .slice s.ao B.orders.length s.co, .slice s.al B.locked.length s.cl, .slice s.ac B.occ.length s.cc] 37 (0, 0))
  own : OwnBook wr (p + 1) (bookV B s) B K
  bel : Below w.heap.size w wr
  wp : w.heap.size < p
  pP : p < P

theorem DB.zP {w wr : World} {p P : Nat} {ad : Option Addr} {n c : Nat} {V : Nat → UInt8} {d : Nat} {B : Bk} {s : Sl} {K : Blk} (h : DB w wr p P ad n c V d B s K) : P < wr.heap.size := (Array.getElem?_eq_some_iff.1 h.box).1

/-- A bent book is stored. -/
theorem DB.put {w wr : World} {p P : Nat} {ad : Option Addr} {n c : Nat} {V : Nat → UInt8} {d : Nat} {B : Bk} {s : Sl} {K : Blk} (h : DB w wr p P ad n c V d B s K) (hG : ∀ b o, 0 < n → ad = some ⟨b, o, none⟩ → b < w.heap.size) {w4 : World} (hf : Fr (fun x => x = p) wr w4) {d' : Nat} (hc : CurTo w4 p ad n c V 0 d') {B' : Bk} {s' : Sl} {K' : Blk} (hO : OwnBook w4 wr.heap.size (bookV B' s') B' K') : DB w (putBook w4 P B' s') p P ad n c V d' B' s' K' := by
  have h1 := h.wp
  have h2 := h.pP
  have h3 := h.zP
  have h4 := hf.size
  have pf := putBook_fr w4 P B' s'
  exact ⟨hc.fr' pf (by omega) (fun h0 b o ha e => by have := hG b o h0 ha; omega), (pf.block _ (by omega) (by omega)).trans ((hf.block _ (by omega) (by omega)).trans h.res), putBook_box ((hf.block _ h3 (by omega)).trans h.box), (hO.fr pf (fun x hx e => by have := hO.blocks_low hx; omega)).mono (by omega), (h.bel.trans (hf.below (by omega) (fun x e => by omega))).trans (pf.below (by omega) (fun x e => by omega)), h1, h2⟩

set_option maxRecDepth 20000 in
set_option maxHeartbeats 8000000 in
theorem drawBook_any (ad : Option Addr) (n c : Nat) (V : Nat → UInt8) (w : World) (hn : n ≤ 1048576) (G : BytesAt w ad n V) :
    Calls Tryz.prog 15 #[.slice ad n c] w fun e w' => RetSp e w w' := by
  have HG : Hid (∀ b o, 0 < n → ad = some ⟨b, o, none⟩ → b < w.heap.size) := fun b o h0 ha => by
    obtain ⟨b', o', h1, h2⟩ := G
    have e := (h1 h0).symm.trans ha
    simp only [Option.some.injEq, Addr.mk.injEq] at e
    rw [← e.1]
    exact World.block_lt_of_cell? _ _ (h2 0 h0)
  have B0 := below1 w (.cells #[.int .i64 0, .slice none 0 0, .slice none 0 0, .slice none 0 0] 37)
  have s0 : (w.alloc (.cells #[.int .i64 0, .slice none 0 0, .slice none 0 0, .slice none 0 0] 37)).heap.size = w.heap.size + 1 := alloc_size _ _
  go_enter Tryz.func15, Tryz.ntmps15
  go_wp2_with fail
  refine (l4book_any ad n c V _ hn (G.below B0)).mono ?_
  rintro e w1 ⟨v, B, K, rfl, hO, hL, hcur, hb⟩
  obtain ⟨ao, co, al, cl, ac, cc, rfl, -⟩ := hO.shape
  have xr := (hb.block w.heap.size (by omega)).trans (Deep.blk_alloc_new _ _)
  have bw : Below w.heap.size w w1 := B0.trans (hb.mono (by omega))
  obtain ⟨p, hp⟩ : ∃ p, p = (w.alloc (.cells #[.int .i64 0, .slice none 0 0, .slice none 0 0, .slice none 0 0] 37)).heap.size + 1 := ⟨_, rfl⟩
  have hO' : OwnBook w1 (p + 1) (bookV B ⟨ao, co, al, cl, ac, cc⟩) B K := by rw [hp]; exact hO
  rw [← hp] at hcur ⊢
  have hpw : w.heap.size < p := by omega
  obtain ⟨t1, ht1, hc1⟩ := hcur
  have hp1 := hc1.lt
  have H1 : Hid (OwnBook w1 (p + 1) (bookV B ⟨ao, co, al, cl, ac, cc⟩) B K ∧ Loose B 1 ∧ Cur w1 p ad n c V t1 ∧ w1.heap[w.heap.size]? = some (.cells #[.int .i64 0, .slice none 0 0, .slice none 0 0, .slice none 0 0] 37 (0, 0)) ∧ Below w.heap.size w w1) := ⟨hO', hL, hc1, xr, bw⟩
  clear hO hO' hL hc1 xr bw hb hp s0 B0 G
  go_wp2_with fail
  have b2 := below1 w1 (.cells #[.int .i64 B.n, .slice ao B.orders.length co, .slice al B.locked.length cl, .slice ac B.occ.length cc] 37)
  refine (pick_any p ad n c V t1 3 _ (by omega) hn (by omega) (H1.out.2.2.1.below b2)).mono ?_
  rintro e w2 ⟨⟨q0, rfl, -, hr⟩, ⟨u2, hu2, hv2⟩, hf2⟩
  have hq2 : q0 ≤ 2 := by have := hr (by omega); omega
  have D0 : Hid (DB w w2 p w1.heap.size ad n c V 20002 B ⟨ao, co, al, cl, ac, cc⟩ K ∧ Loose B 1) := by
    have hbs := H1.out.2.2.2.2.size
    exact ⟨⟨⟨u2, by omega, hv2⟩, (hf2.block _ (by simp; omega) (by omega)).trans ((b2.block _ (by omega)).trans H1.out.2.2.2.1), (hf2.block _ (by simp) (by omega)).trans (Deep.blk_alloc_new _ _), (H1.out.1.below b2).fr hf2 (fun x hx e => by have := H1.out.1.blocks_low hx; omega), (H1.out.2.2.2.2.trans (b2.mono hbs)).trans (hf2.below (by simp; omega) (fun x e => by omega)), hpw, hp1⟩, H1.out.2.1⟩
  clear hr hv2 hf2 hu2 H1 b2
  go_wp2
  go_loopw [5] (fun i wr => ∃ (q : Nat) (B : Bk) (s : Sl) (K : Blk), q ≤ q0 ∧ i = .int .i64 (q : Int) ∧ DB w wr p w1.heap.size ad n c V (20002 + 40 * (2 - q)) B s K ∧ Loose B (3 - q)) (fun i _ => (intOf i).toNat)
  case atStart => exact ⟨q0, _, _, _, Nat.le_refl _, rfl, ⟨D0.out.1.cur.mono (by omega), D0.out.1.res, D0.out.1.box, D0.out.1.own, D0.out.1.bel, D0.out.1.wp, D0.out.1.pP⟩, loose_mono D0.out.2 (by omega)⟩
  case round =>
    obtain ⟨q, B3, s3, K3, hq, rfl, hdb, hlo⟩ := hrel
    clear D0
    obtain ⟨ao3, co3, al3, cl3, ac3, cc3⟩ := s3
    obtain ⟨p0, p1, p2, p3⟩ := box_cells hdb.box
    dsimp only at p1 p2 p3
    have zP := hdb.zP
    have HD : Hid (DB w wr p w1.heap.size ad n c V (20002 + 40 * (2 - q)) B3 ⟨ao3, co3, al3, cl3, ac3, cc3⟩ K3 ∧ Loose B3 (3 - q)) := ⟨hdb, hlo⟩
    by_cases hq0 : 0 < q
    · obtain ⟨q', rfl⟩ : ∃ q', q = q' + 1 := ⟨q - 1, by omega⟩
      clear hdb hlo
      go_wp2_with fail
      obtain ⟨t6, ht6, hc6⟩ := HD.out.1.cur
      refine (bend_any p ad n c V t6 (p + 1) _ B3 K3 (3 - (q' + 1)) _ (by omega) hn hc6 HD.out.1.own HD.out.2 (by omega)).mono ?_
      clear hc6
      rintro e w6 ⟨v6, B6, K6, rfl, hO6, hL6, ⟨u6, hu6, hv6⟩, hf6⟩
      obtain ⟨ao6, co6, al6, cl6, ac6, cc6, rfl, -⟩ := hO6.shape
      have x6 := (hf6.block _ zP (by have := HD.out.1.pP; omega)).trans HD.out.1.box
      obtain ⟨o0, o1, o2, o3⟩ := box_cells x6
      have g0 : w6.frozen? ⟨w1.heap.size, 0, none⟩ = false := frozen_of_box x6
      have g1 : w6.frozen? ⟨w1.heap.size, 1, none⟩ = false := frozen_of_box x6
      have g2 : w6.frozen? ⟨w1.heap.size, 2, none⟩ = false := frozen_of_box x6
      have g3 : w6.frozen? ⟨w1.heap.size, 3, none⟩ = false := frozen_of_box x6
      have z6 : w1.heap.size < w6.heap.size := (Array.getElem?_eq_some_iff.1 x6).1
      have D6 : Hid (DB w (putBook w6 w1.heap.size B6 ⟨ao6, co6, al6, cl6, ac6, cc6⟩) p w1.heap.size ad n c V (20002 + 40 * (2 - q')) B6 ⟨ao6, co6, al6, cl6, ac6, cc6⟩ K6 ∧ Loose B6 (3 - q')) := ⟨HD.out.1.put HG.out hf6 ⟨u6, by omega, hv6⟩ hO6, loose_mono hL6 (by omega)⟩
      clear hO6 hL6 hv6 hf6 hu6 ht6 x6 HD p0 p1 p2 p3
      go_wp2
      go_roundw
      case rel => exact ⟨q', _, _, _, by omega, by go_num, D6.out.1, D6.out.2⟩
      case measure => simp [intOf]
    · obtain rfl : q = 0 := by omega
      obtain ⟨e0, e1, e2, e3⟩ := box_cells hdb.res
      have f0 : wr.frozen? ⟨w.heap.size, 0, none⟩ = false := frozen_of_box hdb.res
      have f1 : wr.frozen? ⟨w.heap.size, 1, none⟩ = false := frozen_of_box hdb.res
      have f2 : wr.frozen? ⟨w.heap.size, 2, none⟩ = false := frozen_of_box hdb.res
      have f3 : wr.frozen? ⟨w.heap.size, 3, none⟩ = false := frozen_of_box hdb.res
      have zr : w.heap.size < wr.heap.size := (Array.getElem?_eq_some_iff.1 hdb.res).1
      clear hdb hlo
      go_wp2
      refine bodyPost_ret (v := .agg #[.int .i64 B3.n, .slice ao3 B3.orders.length co3, .slice al3 B3.locked.length cl3, .slice ac3 B3.occ.length cc3]) (by simp [results, Tryz.results15, go_sem, e0, e1, e2, e3]) rfl ?_
      have pf := putBook_fr wr w.heap.size B3 ⟨ao3, co3, al3, cl3, ac3, cc3⟩
      have hw := HD.out.1.wp
      exact ⟨_, B3, K3, rfl, (HD.out.1.own.fr pf (fun x hx e => by have := HD.out.1.own.blocks_low hx; omega)).mono (by omega), loose_mono HD.out.2 (by omega), HD.out.1.bel.trans (pf.below (by omega) (fun x e => by omega))⟩

end Go.Proofs.YteifekoiognhmaaGreatDoor

/-
  The law FnSpoilt: the walk. Mine, by template (wip/gen.py).
-/
namespace Go.Proofs.YteifekoiognhmaaGreatDoor
open Go.RowKit

theorem Tryz.field_code0 (a b c d e : Value) (w : World) : (Instr.field 39 (.agg #[a, b, c, d, e]) 0).run Tryz.prog w = .ok a w := by kernel_rfl

def spE : Ev := ⟨8, 0, ⟨#[]⟩, 0, [], ⟨#[]⟩⟩
theorem spE_ok {B : Bk} (h : Right B) : EvOk B spE := by
  refine ⟨h, Or.inr (Or.inr (Or.inr (Or.inr ⟨⟨by decide, by decide⟩, ⟨by show (0 : Int) ≤ 0; decide, ?_⟩, rfl, rfl, rfl, rfl⟩)))⟩
  have := h.1.1.1
  show (0 : Int) ≤ B.n - 1
  omega
theorem spE_at (w : World) : EvAt w (.agg #[.int .i64 8, .int .i64 0, .string ⟨#[]⟩, .int .i64 0, .slice none 0 0, .string ⟨#[]⟩]) spE := ⟨none, 0, rfl, 0, 0, fun h => absurd h (by show ¬ 0 < 0; omega), fun i hi => absurd hi (by show ¬ i < 0; omega)⟩

/-- While the book is looked at: its variable, and the event's. -/
def SP (w W : World) (P : Nat) (B : Bk) (s : Sl) : Prop := W.heap[P]? = some (.cells #[.int .i64 B.n, .slice s.ao B.orders.length s.co, .slice s.al B.locked.length s.cl, .slice s.ac B.occ.length s.cc] 37 (0, 0)) ∧ BookAt W (bookV B s) B ∧ Below w.heap.size w W
theorem SP.below {w W W' : World} {P : Nat} {B : Bk} {s : Sl} (h : SP w W P B s) (hb : Below W.heap.size W W') : SP w W' P B s := ⟨(hb.block _ (Array.getElem?_eq_some_iff.1 h.1).1).trans h.1, h.2.1.below hb, below_trans h.2.2 h.2.2.size hb⟩

set_option maxRecDepth 20000 in
set_option maxHeartbeats 8000000 in
theorem fnSpoilt_walk (A : Nat → Addr) (ad : Option Addr) (c n : Nat) (V : Nat → UInt8) (w : World) (hE : Errs w A) (hT : Lib.TabIs Tryz.prog w "internal/strconv.uint64pow10" .u64 Lib.pow10Tab) (G : BytesAt w ad n V) :
    Calls Tryz.prog 5 #[.slice ad n c] w fun e w' => e = .returned (.bool true) ∧ Below w.heap.size w w' := by
  have HG : Hid (BytesAt w ad n V ∧ Errs w A ∧ Lib.TabIs Tryz.prog w "internal/strconv.uint64pow10" .u64 Lib.pow10Tab) := ⟨G, hE, hT⟩
  clear G hE hT
  have fc := Tryz.field_code0
  go_enter Tryz.func5, Tryz.ntmps5
  by_cases hbig : 1048576 < n
  · have t : (1048576 : Int) < (n : Int) := by omega
    go_wp2
    go_ret
    exact ⟨rfl, Below.refl _ _⟩
  have hn : n ≤ 1048576 := by omega
  have tb : ¬ (1048576 : Int) < (n : Int) := by omega
  clear hbig
  go_wp2_with fail
  refine (drawBook_any ad n c V w hn HG.out.1).mono ?_
  rintro e w1 ⟨v, B, K, rfl, hO, hL, hb1⟩
  obtain ⟨ao, co, al, cl, ac, cc, rfl, -⟩ := hO.shape
  have HS : Hid ((B.orders.length ≤ 1048576 ∧ ∀ i, i < B.orders.length → (bX B i).secs.length ≤ 1048576 ∧ (bX B i).holder.size ≤ 1048576) ∧ (-9223372036854775808 ≤ B.n ∧ B.n ≤ 9223372036854775807)) := ⟨⟨by have := hL.1; omega, fun i hi => ⟨by have := (hL.2.1 i hi).2.1; omega, by have := (hL.2.1 i hi).2.2; omega⟩⟩, by have := hL.2.2.2.2.2.1; omega, by have := hL.2.2.2.2.2.2; omega⟩
  have B2 := below1 w1 (.cells #[.int .i64 B.n, .slice ao B.orders.length co, .slice al B.locked.length cl, .slice ac B.occ.length cc] 37)
  have S2 : Hid (SP w (w1.alloc (.cells #[.int .i64 B.n, .slice ao B.orders.length co, .slice al B.locked.length cl, .slice ac B.occ.length cc] 37)) w1.heap.size B ⟨ao, co, al, cl, ac, cc⟩) := ⟨Deep.blk_alloc_new _ _, (hO.below B2).bookAt, below_trans hb1 hb1.size B2⟩
  clear hO hL hb1 B2
  go_wp2_with fail
  refine (implBookOk_any _ B _ HS.out.1.1 HS.out.1.2 S2.out.2.1).mono ?_
  rintro e w3 ⟨⟨k, rfl, hk⟩, hb3⟩
  have S3 : Hid (SP w w3 w1.heap.size B ⟨ao, co, al, cl, ac, cc⟩) := S2.out.below hb3
  obtain ⟨p0, p1, p2, p3⟩ := box_cells S3.out.1
  dsimp only at p1 p2 p3
  have HK : Hid (BCode B k) := hk
  clear hb3 S2 hk
  go_wp2_with fail
  refine (specBookOk_any _ B _ HS.out.1.1 HS.out.1.2 HS.out.2 S3.out.2.1).mono ?_
  rintro e w4 ⟨⟨k', rfl, hk'⟩, hb4⟩
  obtain rfl : k = k' := HK.out.det hk'
  have B4 := below1 w4 (.cells #[.int .i64 8, .int .i64 0, .string ⟨#[]⟩, .int .i64 0, .slice none 0 0, .string ⟨#[]⟩] 32)
  have S4 : Hid (SP w (w4.alloc (.cells #[.int .i64 8, .int .i64 0, .string ⟨#[]⟩, .int .i64 0, .slice none 0 0, .string ⟨#[]⟩] 32)) w1.heap.size B ⟨ao, co, al, cl, ac, cc⟩) := (S3.out.below hb4).below B4
  have xe : (w4.alloc (.cells #[.int .i64 8, .int .i64 0, .string ⟨#[]⟩, .int .i64 0, .slice none 0 0, .string ⟨#[]⟩] 32)).heap[w4.heap.size]? = some (.cells #[.int .i64 8, .int .i64 0, .string ⟨#[]⟩, .int .i64 0, .slice none 0 0, .string ⟨#[]⟩] 32 (0, 0)) := Deep.blk_alloc_new _ _
  have ER := HK.out.right
  clear hk' hb4 S3 p0 p1 p2 p3 B4
  go_upto_region 8 with (fail)
  obtain ⟨W5, hW5⟩ : ∃ W5, W5 = w4.alloc (.cells #[.int .i64 8, .int .i64 0, .string ⟨#[]⟩, .int .i64 0, .slice none 0 0, .string ⟨#[]⟩] 32) := ⟨_, rfl⟩
  rw [← hW5] at S4 xe ⊢
  clear hW5
  obtain ⟨p0, p1, p2, p3⟩ := box_cells S4.out.1
  dsimp only at p1 p2 p3
  obtain ⟨e0, e1, e2, e3, e4, e5⟩ := ev_cells xe
  have zP : w1.heap.size < W5.heap.size := (Array.getElem?_eq_some_iff.1 S4.out.1).1
  have ze : w4.heap.size < W5.heap.size := (Array.getElem?_eq_some_iff.1 xe).1
  have XE : Hid (W5.heap[w4.heap.size]? = some (.cells #[.int .i64 8, .int .i64 0, .string ⟨#[]⟩, .int .i64 0, .slice none 0 0, .string ⟨#[]⟩] 32 (0, 0))) := xe
  clear xe
  by_cases hk0 : k = 0
  · have hR : Hid (Right B) := ER.1 hk0
    have tk : (k == 0) = true := by rw [hk0]; rfl
    clear hk0 ER
    go_wp2_with fail
    refine (implEventOk_any _ _ B spE _ HS.out.1.1 HS.out.1.2 (Nat.zero_le _) (Nat.zero_le _) (Nat.zero_le _) S4.out.2.1 (spE_at _)).mono ?_
    rintro e w6 ⟨he, hb6⟩
    rcases he.cases with ⟨rfl, -⟩ | ⟨-, hno⟩
    · have S6 : Hid (SP w w6 w1.heap.size B ⟨ao, co, al, cl, ac, cc⟩) := S4.out.below hb6
      clear hb6 he
      go_wp2
      go_ret
      exact ⟨rfl, S6.out.2.2⟩
    · exact absurd (spE_ok hR.out) hno
  · have hR : Hid (¬ Right B) := fun h => hk0 (ER.2 h)
    have tk : (k == 0) = false := by simpa using hk0
    clear hk0 ER
    go_wp2_with fail
    refine (implEventOk_any _ _ B spE _ HS.out.1.1 HS.out.1.2 (Nat.zero_le _) (Nat.zero_le _) (Nat.zero_le _) S4.out.2.1 (spE_at _)).mono ?_
    rintro e w6 ⟨he, hb6⟩
    rcases he.cases with ⟨-, hyes⟩ | ⟨rfl, -⟩
    · exact absurd hyes.1 hR.out
    have S6 : Hid (SP w w6 w1.heap.size B ⟨ao, co, al, cl, ac, cc⟩ ∧ w6.heap[w4.heap.size]? = some (.cells #[.int .i64 8, .int .i64 0, .string ⟨#[]⟩, .int .i64 0, .slice none 0 0, .string ⟨#[]⟩] 32 (0, 0))) := ⟨S4.out.below hb6, (hb6.block _ ze).trans XE.out⟩
    clear hb6 he S4 XE p0 p1 p2 p3 e0 e1 e2 e3 e4 e5 zP ze
    obtain ⟨p0, p1, p2, p3⟩ := box_cells S6.out.1.1
    dsimp only at p1 p2 p3
    obtain ⟨e0, e1, e2, e3, e4, e5⟩ := ev_cells S6.out.2
    go_wp2_with fail
    refine (implDo_any A _ _ B spE _ (HG.out.2.1.below S6.out.1.2.2) (tab_below HG.out.2.2 S6.out.1.2.2) HS.out.1 (Nat.zero_le _) (Nat.zero_le _) (Nat.zero_le _) S6.out.1.2.1 (spE_at _)).mono ?_
    rintro e w7 ⟨a7, b7, c7, d7, K7, rfl, -, hb7⟩
    rw [show (doP B spE).1 = 1 by rw [doP_none (fun h => hR.out h.1)]]
    have S7 : Hid (SP w w7 w1.heap.size B ⟨ao, co, al, cl, ac, cc⟩) := S6.out.1.below hb7
    clear hb7 S6 p0 p1 p2 p3 e0 e1 e2 e3 e4 e5
    obtain ⟨p0, p1, p2, p3⟩ := box_cells S7.out.1
    dsimp only at p1 p2 p3
    go_wp2_with fail
    refine (implWho_any _ B 0 _ HS.out.1.1 HS.out.1.2 (by decide) S7.out.2.1).mono ?_
    rintro e w8 ⟨⟨r8, rfl, hr8⟩, hb8⟩
    obtain rfl : r8 = -1 := by
      rcases hr8 with ⟨_, h⟩ | ⟨h, _⟩ | ⟨h, _⟩
      · exact h
      · exact absurd h hR.out
      · exact absurd h hR.out
    have S8 : Hid (SP w w8 w1.heap.size B ⟨ao, co, al, cl, ac, cc⟩) := S7.out.below hb8
    clear hb8 S7 hr8 p0 p1 p2 p3
    obtain ⟨p0, p1, p2, p3⟩ := box_cells S8.out.1
    dsimp only at p1 p2 p3
    go_wp2_with fail
    refine (implOpen_any _ B _ HS.out.1.1 HS.out.1.2 S8.out.2.1).mono ?_
    rintro e w9 ⟨⟨v9, l9, g9, rfl, hop, ⟨ad9, cap9, rfl, -⟩⟩, hb9⟩
    obtain rfl : l9 = [] := by
      rcases hop with ⟨_, h⟩ | ⟨h, _⟩
      · exact h
      · exact absurd h hR.out
    have S9 : Hid (SP w w9 w1.heap.size B ⟨ao, co, al, cl, ac, cc⟩) := S8.out.below hb9
    clear hb9 S8 hop p0 p1 p2 p3
    obtain ⟨p0, p1, p2, p3⟩ := box_cells S9.out.1
    dsimp only at p1 p2 p3
    go_wp2_with fail
    refine (implOrderText_any _ B 0 _ HS.out.1.1 HS.out.1.2 (tab_below HG.out.2.2 S9.out.2.2) S9.out.2.1).mono ?_
    rintro e w10 ⟨⟨y, rfl, hy⟩, hb10⟩
    obtain rfl : y = ⟨#[]⟩ := by
      rcases hy with ⟨_, h⟩ | ⟨h, _⟩
      · exact bl_inj (h.trans rfl)
      · exact absurd h hR.out
    have S10 : Hid (SP w w10 w1.heap.size B ⟨ao, co, al, cl, ac, cc⟩) := S9.out.below hb10
    clear hb10 S9 hy p0 p1 p2 p3
    go_wp2
    go_ret
    exact ⟨rfl, S10.out.2.2⟩

end Go.Proofs.YteifekoiognhmaaGreatDoor
