/-
  A book bent: (*spec.l4Cur).bend. Mine, by program (wip/bend.py), by template (wip/gen.py).
-/
import Derived.Test.YteifekoiognhmaaGreatDoorBendZ
import Derived.Test.YteifekoiognhmaaGreatDoorCurZ
import Derived.Test.YteifekoiognhmaaGreatDoorRunZ
namespace Go.Proofs.YteifekoiognhmaaGreatDoor
open Go.RowKit

theorem CurTo.fr' {w w' : World} {p : Nat} {ad : Option Addr} {n c : Nat} {V : Nat → UInt8} {t d : Nat} (h : CurTo w p ad n c V t d) {S : Nat → Prop} (hf : Fr S w w') (hp : ¬ S p) (hb : 0 < n → ∀ b o, ad = some ⟨b, o, none⟩ → ¬ S b) : CurTo w' p ad n c V t d := by
  obtain ⟨t', h1, h2⟩ := h
  exact ⟨t', h1, h2.fr hf hp hb⟩
theorem CurTo.below' {w w' : World} {p : Nat} {ad : Option Addr} {n c : Nat} {V : Nat → UInt8} {t d : Nat} (h : CurTo w p ad n c V t d) (hb : Below w.heap.size w w') : CurTo w' p ad n c V t d := by
  obtain ⟨t', h1, h2⟩ := h
  exact ⟨t', h1, h2.below hb⟩
theorem two_boxes (wo : World) (c1 c2 : Array Value) (t1 t2 : TypeId) : ((wo.alloc (.cells c1 t1)).alloc (.cells c2 t2)).heap[wo.heap.size]? = some (.cells c1 t1 (0, 0)) ∧ ((wo.alloc (.cells c1 t1)).alloc (.cells c2 t2)).heap[wo.heap.size + 1]? = some (.cells c2 t2 (0, 0)) := by
  refine ⟨(Deep.blk_alloc_lt _ _ _ (by simp)).trans (Deep.blk_alloc_new _ _), ?_⟩
  have := Deep.blk_alloc_new (wo.alloc (.cells c1 t1)) (.cells c2 t2)
  simpa using this

/-- A drawn book, bent j times at most. -/
def Loose (B : Bk) (j : Nat) : Prop := B.orders.length ≤ 201 ∧ (∀ i, i < B.orders.length → 0 < (bX B i).secs.length ∧ (bX B i).secs.length ≤ 20 + j ∧ (bX B i).holder.size ≤ 20) ∧ 0 < B.locked.length ∧ B.locked.length ≤ 60 + j ∧ B.occ.length ≤ 60 ∧ 0 ≤ B.n ∧ B.n ≤ 61
def RetBk (e : Ending) (w w' : World) (p : Nat) (ad : Option Addr) (n c : Nat) (V : Nat → UInt8) (t d j : Nat) : Prop := ∃ v B K, e = .returned v ∧ OwnBook w' w.heap.size v B K ∧ Loose B j ∧ CurTo w' p ad n c V t d ∧ Fr (fun x => x = p) w w'

theorem Loose.up {B : Bk} {j : Nat} (h : Loose B j) : Loose B (j + 1) := ⟨h.1, fun i hi => ⟨(h.2.1 i hi).1, by have := (h.2.1 i hi).2.1; omega, (h.2.1 i hi).2.2⟩, h.2.2.1, by have := h.2.2.2.1; omega, h.2.2.2.2⟩
theorem Loose.setN {B : Bk} {j : Nat} (h : Loose B j) {x : Int} (hx : 0 ≤ x ∧ x ≤ 61) : Loose (setN B x) (j + 1) := ⟨h.1, h.up.2.1, h.2.2.1, h.up.2.2.2.1, h.2.2.2.2.1, hx.1, hx.2⟩
theorem Loose.addLock {B : Bk} {j : Nat} (h : Loose B j) (r : Bool) : Loose (addLock B r) (j + 1) := ⟨h.1, h.up.2.1, by show 0 < (B.locked ++ [r]).length; simp, by show (B.locked ++ [r]).length ≤ _; have := h.2.2.2.1; simp; omega, h.2.2.2.2⟩
theorem Loose.setLock {B : Bk} {j : Nat} (h : Loose B j) (i : Nat) (r : Bool) : Loose (setLock B i r) (j + 1) := ⟨h.1, h.up.2.1, by show 0 < (B.locked.set i r).length; simp; exact h.2.2.1, by show (B.locked.set i r).length ≤ _; simp; exact h.up.2.2.2.1, h.2.2.2.2⟩
theorem Loose.setOrd {B : Bk} {j : Nat} (h : Loose B j) {i : Nat} (hi : i < B.orders.length) (x : Ord) (hx : 0 < x.secs.length ∧ x.secs.length ≤ 21 + j ∧ x.holder.size ≤ 20) : Loose (setOrd B i x) (j + 1) := by
  refine ⟨by rw [setOrd_len]; exact h.1, fun q hq => ?_, h.2.2.1, h.up.2.2.2.1, h.2.2.2.2⟩
  rw [setOrd_len] at hq
  rw [bX_setOrd B i x hi]
  split
  · exact ⟨hx.1, by omega, hx.2.2⟩
  · exact h.up.2.1 q hq

/-- The two variables of bend. -/
structure BN (w W : World) (p : Nat) (ad : Option Addr) (n c : Nat) (V : Nat → UInt8) (t d : Nat) (B : Bk) (s : Sl) (K : Blk) : Prop where
  cur : CurTo W p ad n c V t d
  fr : Fr (fun x => x = p) w W
  res : W.heap[w.heap.size + 1]? = some (.cells #[.int .i64 0, .slice none 0 0, .slice none 0 0, .slice none 0 0] 37 (0, 0))
  box : W.heap[w.heap.size]? = some (.cells #[.int .i64 B.n, .slice s.ao B.orders.length s.co, .slice s.al B.locked.length s.cl, .slice s.ac B.occ.length s.cc] 37 (0, 0))
  own : OwnBook W (w.heap.size + 2) (bookV B s) B K

theorem BN.step {w W : World} {p : Nat} {ad : Option Addr} {n c : Nat} {V : Nat → UInt8} {t d : Nat} {B : Bk} {s : Sl} {K : Blk} (h : BN w W p ad n c V t d B s K) (hp : p < w.heap.size) {W' : World} {d' : Nat} (hc : CurTo W' p ad n c V t d') (hf : Fr (fun x => x = p) W W') : BN w W' p ad n c V t d' B s K :=
  ⟨hc, h.fr.trans hf, (hf.block _ (Array.getElem?_eq_some_iff.1 h.res).1 (by omega)).trans h.res, (hf.block _ (Array.getElem?_eq_some_iff.1 h.box).1 (by omega)).trans h.box, h.own.fr hf (fun x hx e => by have := h.own.blocks_low hx; omega)⟩
theorem BN.below {w W : World} {p : Nat} {ad : Option Addr} {n c : Nat} {V : Nat → UInt8} {t d : Nat} {B : Bk} {s : Sl} {K : Blk} (h : BN w W p ad n c V t d B s K) {W' : World} (hb : Below W.heap.size W W') : BN w W' p ad n c V t d B s K :=
  ⟨h.cur.below' hb, h.fr.trans (Fr.of_below hb), (hb.block _ (Array.getElem?_eq_some_iff.1 h.res).1).trans h.res, (hb.block _ (Array.getElem?_eq_some_iff.1 h.box).1).trans h.box, h.own.below hb⟩
/-- Blocks of the function's own turn; the book's variable and the book are given anew. -/
theorem BN.turn {w W : World} {p : Nat} {ad : Option Addr} {n c : Nat} {V : Nat → UInt8} {t d : Nat} {B : Bk} {s : Sl} {K : Blk} (h : BN w W p ad n c V t d B s K) (h0 : Cur w p ad n c V t) {W' : World} {S : Nat → Prop} (hf : Fr S W W') (hS : ∀ x, S x → x = w.heap.size ∨ w.heap.size + 2 ≤ x) {B' : Bk} {s' : Sl} {K' : Blk} (hb : W'.heap[w.heap.size]? = some (.cells #[.int .i64 B'.n, .slice s'.ao B'.orders.length s'.co, .slice s'.al B'.locked.length s'.cl, .slice s'.ac B'.occ.length s'.cc] 37 (0, 0))) (ho : OwnBook W' (w.heap.size + 2) (bookV B' s') B' K') : BN w W' p ad n c V t d B' s' K' := by
  have hp := h0.lt
  refine ⟨h.cur.fr' hf (fun e => by have := hS _ e; omega) (fun hn b o ha e => by have := h0.adlt hn ha; have := hS _ e; omega), ?_, (hf.block _ (Array.getElem?_eq_some_iff.1 h.res).1 (fun e => by have := hS _ e; omega)).trans h.res, hb, ho⟩
  exact ((h.fr.mono (T := fun x => x = p ∨ S x) (fun i e => Or.inl e)).trans (hf.mono (fun i e => Or.inr e))).cut (fun i hi e => by
    rcases e with e | e
    · exact e
    · have := hS _ e; omega)
theorem BN.facts {w W : World} {p : Nat} {ad : Option Addr} {n c : Nat} {V : Nat → UInt8} {t d : Nat} {B : Bk} {s : Sl} {K : Blk} (h : BN w W p ad n c V t d B s K) :
    (w.heap.size < W.heap.size ∧ w.heap.size + 1 < W.heap.size) ∧ (W.cell? ⟨w.heap.size, 0, none⟩ = some (.int .i64 B.n) ∧ W.cell? ⟨w.heap.size, 1, none⟩ = some (.slice s.ao B.orders.length s.co) ∧ W.cell? ⟨w.heap.size, 2, none⟩ = some (.slice s.al B.locked.length s.cl) ∧ W.cell? ⟨w.heap.size, 3, none⟩ = some (.slice s.ac B.occ.length s.cc)) ∧
    (W.cell? ⟨w.heap.size + 1, 0, none⟩ = some (.int .i64 0) ∧ W.cell? ⟨w.heap.size + 1, 1, none⟩ = some (.slice none 0 0) ∧ W.cell? ⟨w.heap.size + 1, 2, none⟩ = some (.slice none 0 0) ∧ W.cell? ⟨w.heap.size + 1, 3, none⟩ = some (.slice none 0 0)) ∧
    (W.frozen? ⟨w.heap.size + 1, 0, none⟩ = false ∧ W.frozen? ⟨w.heap.size + 1, 1, none⟩ = false ∧ W.frozen? ⟨w.heap.size + 1, 2, none⟩ = false ∧ W.frozen? ⟨w.heap.size + 1, 3, none⟩ = false) ∧ W.frozen? ⟨w.heap.size, 0, none⟩ = false ∧ W.frozen? ⟨w.heap.size, 1, none⟩ = false ∧ W.frozen? ⟨w.heap.size, 2, none⟩ = false ∧ W.frozen? ⟨w.heap.size, 3, none⟩ = false :=
  ⟨⟨(Array.getElem?_eq_some_iff.1 h.box).1, (Array.getElem?_eq_some_iff.1 h.res).1⟩, box_cells h.box, box_cells h.res, ⟨frozen_of_box h.res, frozen_of_box h.res, frozen_of_box h.res, frozen_of_box h.res⟩, frozen_of_box h.box, frozen_of_box h.box, frozen_of_box h.box, frozen_of_box h.box⟩
/-- The answer is stored. -/
theorem BN.done {w W : World} {p : Nat} {ad : Option Addr} {n c : Nat} {V : Nat → UInt8} {t d : Nat} {B : Bk} {s : Sl} {K : Blk} {j : Nat} (h : BN w W p ad n c V t d B s K) (h0 : Cur w p ad n c V t) (hL : Loose B j) {D : Nat} (hd : d ≤ D) : RetBk (.returned (.agg #[.int .i64 B.n, .slice s.ao B.orders.length s.co, .slice s.al B.locked.length s.cl, .slice s.ac B.occ.length s.cc])) w (putBook W (w.heap.size + 1) B s) p ad n c V t D j := by
  have hp := h0.lt
  have pf := putBook_fr W (w.heap.size + 1) B s
  refine ⟨_, B, K, rfl, (h.own.fr pf (fun x hx e => by have := h.own.blocks_low hx; omega)).mono (by omega), hL, (h.cur.fr' pf (by omega) (fun hn b o ha e => by have := h0.adlt hn ha; omega)).mono (by omega), ?_⟩
  exact ((h.fr.mono (T := fun x => x = p ∨ x = w.heap.size + 1) (fun i e => Or.inl e)).trans (pf.mono (fun i e => Or.inr e))).cut (fun i hi e => by omega)

theorem cells4b {w : World} {p : Nat} {a b c d : Value} {t : TypeId} (h : w.heap[p]? = some (.cells #[a, b, c, d] t (0, 0))) : w.cell? ⟨p, 0, none⟩ = some a ∧ w.cell? ⟨p, 1, none⟩ = some b ∧ w.cell? ⟨p, 2, none⟩ = some c ∧ w.cell? ⟨p, 3, none⟩ = some d := box_cells h
theorem cells2 {w : World} {p : Nat} {a b : Value} {t : TypeId} (h : w.heap[p]? = some (.cells #[a, b] t (0, 0))) : w.cell? ⟨p, 0, none⟩ = some a ∧ w.cell? ⟨p, 1, none⟩ = some b := by
  simp [World.cell?, h]

set_option maxRecDepth 20000 in
set_option maxHeartbeats 16000000 in
theorem bend_any (p : Nat) (ad : Option Addr) (n c : Nat) (V : Nat → UInt8) (t lo : Nat) (v : Value) (B : Bk) (K0 : Blk) (j : Nat) (w : World) (ht : t ≤ 600000000) (hn : n ≤ 1048576) (hc : Cur w p ad n c V t) (hO : OwnBook w lo v B K0) (hL : Loose B j) (hj : j ≤ 10) :
    Calls Tryz.prog 37 #[.pointer (some ⟨p, 0, none⟩), v] w fun e w' => RetBk e w w' p ad n c V t 20 (j + 1) := by
  have hp := hc.lt
  obtain ⟨ao0, co0, al0, cl0, ac0, cc0, hv, -⟩ := hO.shape
  subst hv
  obtain ⟨i0, hi, hz0, hz1, hz2⟩ := info_parts Tryz.infoInt
  obtain ⟨ib, hib, zb0, zb1, zb2⟩ := info_parts Tryz.infoBool
  have HC : Hid (Cur w p ad n c V t) := hc
  have HL : Hid (Loose B j) := hL
  have ho201 : B.orders.length ≤ 201 := hL.1
  have hl70 : B.locked.length ≤ 70 := by have := hL.2.2.2.1; omega
  have hlp : 0 < B.locked.length := hL.2.2.1
  have B2 := below2 w (.cells #[.int .i64 B.n, .slice ao0 B.orders.length co0, .slice al0 B.locked.length cl0, .slice ac0 B.occ.length cc0] 37) (.cells #[.int .i64 0, .slice none 0 0, .slice none 0 0, .slice none 0 0] 37)
  have HB : Hid (BookAt ((w.alloc (.cells #[.int .i64 B.n, .slice ao0 B.orders.length co0, .slice al0 B.locked.length cl0, .slice ac0 B.occ.length cc0] 37)).alloc (.cells #[.int .i64 0, .slice none 0 0, .slice none 0 0, .slice none 0 0] 37)) (.agg #[.int .i64 B.n, .slice ao0 B.orders.length co0, .slice al0 B.locked.length cl0, .slice ac0 B.occ.length cc0]) B ∧ Cur ((w.alloc (.cells #[.int .i64 B.n, .slice ao0 B.orders.length co0, .slice al0 B.locked.length cl0, .slice ac0 B.occ.length cc0] 37)).alloc (.cells #[.int .i64 0, .slice none 0 0, .slice none 0 0, .slice none 0 0] 37)) p ad n c V t ∧ Below w.heap.size w ((w.alloc (.cells #[.int .i64 B.n, .slice ao0 B.orders.length co0, .slice al0 B.locked.length cl0, .slice ac0 B.occ.length cc0] 37)).alloc (.cells #[.int .i64 0, .slice none 0 0, .slice none 0 0, .slice none 0 0] 37))) := ⟨(hO.below B2).bookAt, hc.below B2, B2⟩
  have xb := two_boxes w #[.int .i64 B.n, .slice ao0 B.orders.length co0, .slice al0 B.locked.length cl0, .slice ac0 B.occ.length cc0] #[.int .i64 0, .slice none 0 0, .slice none 0 0, .slice none 0 0] 37 37
  have s2 : ((w.alloc (.cells #[.int .i64 B.n, .slice ao0 B.orders.length co0, .slice al0 B.locked.length cl0, .slice ac0 B.occ.length cc0] 37)).alloc (.cells #[.int .i64 0, .slice none 0 0, .slice none 0 0, .slice none 0 0] 37)).heap.size = w.heap.size + 2 := by simp
  clear hc hO hL B2
  go_enter Tryz.func37, Tryz.ntmps37
  go_wp2_with fail
  refine (l2copyT_any _ B _ (by omega) (fun i hi => by have := (HL.out.2.1 i hi).2.1; omega) (by omega) (by have := HL.out.2.2.2.2.1; omega) HB.out.1).mono ?_
  rintro e w1 ⟨ao, al, ac, co, cl, cc, K, rfl, hrow, htg, hb1⟩
  have y1 := (hb1.block _ (by omega)).trans xb.1
  have y2 := (hb1.block _ (by omega)).trans xb.2
  have z1 : w.heap.size + 2 ≤ w1.heap.size := by have := hb1.size; omega
  obtain ⟨p0, p1, p2, p3⟩ := box_cells y1
  have h0 : w1.frozen? ⟨w.heap.size, 0, none⟩ = false := frozen_of_box y1
  have h1 : w1.frozen? ⟨w.heap.size, 1, none⟩ = false := frozen_of_box y1
  have h2 : w1.frozen? ⟨w.heap.size, 2, none⟩ = false := frozen_of_box y1
  have h3 : w1.frozen? ⟨w.heap.size, 3, none⟩ = false := frozen_of_box y1
  have hown : OwnBook w1 (w.heap.size + 2) (bookV B ⟨ao, co, al, cl, ac, cc⟩) B K := by rw [← s2]; exact hrow.own
  have pb := putBook_fr w1 w.heap.size B ⟨ao, co, al, cl, ac, cc⟩
  have H2 : Hid (BN w (putBook w1 w.heap.size B ⟨ao, co, al, cl, ac, cc⟩) p ad n c V t 0 B ⟨ao, co, al, cl, ac, cc⟩ K) := by
    have f1 : Fr (fun x => x = p ∨ x = w.heap.size) w (putBook w1 w.heap.size B ⟨ao, co, al, cl, ac, cc⟩) := ((Fr.of_below HB.out.2.2).trans (Fr.of_below hb1)).trans (pb.mono (fun i e => Or.inr e))
    refine ⟨⟨t, by omega, (HB.out.2.1.below hb1).fr pb (by omega) (fun hn b o ha e => by have := HC.out.adlt hn ha; omega)⟩, f1.cut (fun i hi e => by omega), (pb.block _ (by omega) (by omega)).trans y2, putBook_box y1, hown.fr pb (fun x hx e => by have := hown.blocks_low hx; omega)⟩
  have T2 : Hid (TightB (putBook w1 w.heap.size B ⟨ao, co, al, cl, ac, cc⟩) B K cl) := ⟨fun q => ((((htg.lock q).setCell _ _ _).setCell _ _ _).setCell _ _ _).setCell _ _ _, fun i hi q => ((((htg.sec i hi q).setCell _ _ _).setCell _ _ _).setCell _ _ _).setCell _ _ _⟩
  have z2 : w.heap.size < w1.heap.size := by omega
  clear HB xb s2 hrow htg hb1 y1 y2 hown pb
  go_upto_region 2 with (fail)
  have hCh : ((((w1.setCell ⟨w.heap.size, 0, none⟩ (.int .i64 B.n)).setCell ⟨w.heap.size, 1, none⟩ (.slice ao B.orders.length co)).setCell ⟨w.heap.size, 2, none⟩ (.slice al B.locked.length cl)).setCell ⟨w.heap.size, 3, none⟩ (.slice ac B.occ.length cc)) = putBook w1 w.heap.size B ⟨ao, co, al, cl, ac, cc⟩ := rfl
  rw [hCh]
  clear hCh p0 p1 p2 p3 h0 h1 h2 h3 z1 z2
  obtain ⟨W2, hW2⟩ : ∃ W2, W2 = putBook w1 w.heap.size B ⟨ao, co, al, cl, ac, cc⟩ := ⟨_, rfl⟩
  rw [← hW2] at H2 T2 ⊢
  clear hW2
  go_wp2_with fail
  obtain ⟨t11, ht11, hc11⟩ := H2.out.cur
  refine (pick_any p ad n c V t11 7 _ (by omega) hn (by omega) hc11).mono ?_
  clear hc11
  rintro e w11 ⟨⟨r11, rfl, hq11, hr11⟩, ⟨u11, hu11, hv11⟩, hf11⟩
  have D11 : Hid (BN w w11 p ad n c V t 2 B ⟨ao, co, al, cl, ac, cc⟩ K) := H2.out.step hp ⟨u11, by omega, hv11⟩ hf11
  have T11 : Hid (TightB w11 B K cl) := ⟨fun q => (T2.out.lock q).of_block (hf11.block _ (T2.out.lock q).lt (fun e => by have : K.L = p := e; have := H2.out.own.blocks_low (Or.inr (Or.inl ⟨q, rfl⟩)); omega)), fun i hi q => (T2.out.sec i hi q).of_block (hf11.block _ (T2.out.sec i hi q).lt (fun e => by have : K.gs i = p := e; have := H2.out.own.blocks_low (Or.inl (Or.inr ⟨i, hi, q, rfl⟩)); omega))⟩
  clear hv11 hf11 ht11 hu11 H2 T2
  obtain ⟨⟨zb, zr⟩, ⟨p0, p1, p2, p3⟩, ⟨e0, e1, e2, e3⟩, ⟨f0, f1, f2, f3⟩, h0, h1, h2, h3⟩ := D11.out.facts
  dsimp only at p1 p2 p3
  have b7 : r11 < 7 := by have := hr11 (by omega); omega
  clear hq11 hr11
  rcases (show r11 = 0 ∨ r11 = 1 ∨ r11 = 2 ∨ (3 ≤ r11 ∧ r11 ≤ 6) by omega) with rfl | rfl | rfl | hr36
  · skip
    clear T11
    go_wp2_with fail
    have bq := below1 w11 (.cells #[.int .i64 0, .int .i64 1, .int .i64 60, .int .i64 61] 3)
    have DA : Hid (BN w (w11.alloc (.cells #[.int .i64 0, .int .i64 1, .int .i64 60, .int .i64 61] 3)) p ad n c V t 2 B ⟨ao, co, al, cl, ac, cc⟩ K) := D11.out.below bq
    have xa : (w11.alloc (.cells #[.int .i64 0, .int .i64 1, .int .i64 60, .int .i64 61] 3)).heap[w11.heap.size]? = some (.cells #[.int .i64 0, .int .i64 1, .int .i64 60, .int .i64 61] 3 (0, 0)) := Deep.blk_alloc_new _ _
    have za : w11.heap.size < (w11.alloc (.cells #[.int .i64 0, .int .i64 1, .int .i64 60, .int .i64 61] 3)).heap.size := by simp
    have zw : w.heap.size + 1 < w11.heap.size := zr
    obtain ⟨WA, hWA⟩ : ∃ x, x = w11.alloc (.cells #[.int .i64 0, .int .i64 1, .int .i64 60, .int .i64 61] 3) := ⟨_, rfl⟩
    rw [← hWA] at DA xa za ⊢
    clear hWA bq D11
    obtain ⟨t12, ht12, hc12⟩ := DA.out.cur
    refine (pick_any p ad n c V t12 4 _ (by omega) hn (by omega) hc12).mono ?_
    clear hc12
    rintro e w12 ⟨⟨r12, rfl, hq12, hr12⟩, ⟨u12, hu12, hv12⟩, hf12⟩
    have b12 : r12 < 4 := by have := hr12 (by omega); omega
    have D12 : Hid (BN w w12 p ad n c V t 4 B ⟨ao, co, al, cl, ac, cc⟩ K) := DA.out.step hp ⟨u12, by omega, hv12⟩ hf12
    have x12 := (hf12.block _ za (by omega)).trans xa
    obtain ⟨y0, y1, y2, y3⟩ := cells4b x12
    clear hv12 hf12 ht12 hu12 DA x12 xa za hq12 hr12
    clear zb zr p0 p1 p2 p3 e0 e1 e2 e3 f0 f1 f2 f3 h0 h1 h2 h3
    obtain ⟨⟨zb, zr⟩, ⟨p0, p1, p2, p3⟩, ⟨e0, e1, e2, e3⟩, ⟨f0, f1, f2, f3⟩, h0, h1, h2, h3⟩ := D12.out.facts
    dsimp only at p1 p2 p3
    rcases (show r12 = 0 ∨ r12 = 1 ∨ r12 = 2 ∨ r12 = 3 by omega) with rfl | rfl | rfl | rfl
    · skip
      go_upto_region 21 with (fail)
      have DY : Hid (BN w (w12.setCell ⟨w.heap.size, 0, none⟩ (.int .i64 0)) p ad n c V t 4 (setN B 0) ⟨ao, co, al, cl, ac, cc⟩ K) := D12.out.turn HC.out (fr1 (Fr.refl _ _)) (fun x e => Or.inl e) ((box_set D12.out.box _).trans rfl) ((D12.out.own.setN 0).setOther (fun x hx e => by have := D12.out.own.blocks_low (K := K) (B := B) hx; have e2 : x = w.heap.size := e; omega) _)
      obtain ⟨Y, hY⟩ : ∃ Y, Y = (w12.setCell ⟨w.heap.size, 0, none⟩ (.int .i64 0)) := ⟨_, rfl⟩
      rw [← hY] at DY ⊢
      clear hY D12 
      clear zb zr p0 p1 p2 p3 e0 e1 e2 e3 f0 f1 f2 f3 h0 h1 h2 h3
      obtain ⟨⟨zb, zr⟩, ⟨p0, p1, p2, p3⟩, ⟨e0, e1, e2, e3⟩, ⟨f0, f1, f2, f3⟩, h0, h1, h2, h3⟩ := DY.out.facts
      dsimp only at p1 p2 p3
      go_wp2
      refine bodyPost_ret (v := .agg #[.int .i64 ((setN B 0)).n, .slice (⟨ao, co, al, cl, ac, cc⟩ : Sl).ao ((setN B 0)).orders.length (⟨ao, co, al, cl, ac, cc⟩ : Sl).co, .slice (⟨ao, co, al, cl, ac, cc⟩ : Sl).al ((setN B 0)).locked.length (⟨ao, co, al, cl, ac, cc⟩ : Sl).cl, .slice (⟨ao, co, al, cl, ac, cc⟩ : Sl).ac ((setN B 0)).occ.length (⟨ao, co, al, cl, ac, cc⟩ : Sl).cc]) (by simp [results, Tryz.results37, go_sem, e0, e1, e2, e3]) rfl ?_
      exact DY.out.done HC.out (HL.out.setN ⟨by decide, by decide⟩) (by omega)
    · skip
      go_upto_region 21 with (fail)
      have DY : Hid (BN w (w12.setCell ⟨w.heap.size, 0, none⟩ (.int .i64 1)) p ad n c V t 4 (setN B 1) ⟨ao, co, al, cl, ac, cc⟩ K) := D12.out.turn HC.out (fr1 (Fr.refl _ _)) (fun x e => Or.inl e) ((box_set D12.out.box _).trans rfl) ((D12.out.own.setN 1).setOther (fun x hx e => by have := D12.out.own.blocks_low (K := K) (B := B) hx; have e2 : x = w.heap.size := e; omega) _)
      obtain ⟨Y, hY⟩ : ∃ Y, Y = (w12.setCell ⟨w.heap.size, 0, none⟩ (.int .i64 1)) := ⟨_, rfl⟩
      rw [← hY] at DY ⊢
      clear hY D12 
      clear zb zr p0 p1 p2 p3 e0 e1 e2 e3 f0 f1 f2 f3 h0 h1 h2 h3
      obtain ⟨⟨zb, zr⟩, ⟨p0, p1, p2, p3⟩, ⟨e0, e1, e2, e3⟩, ⟨f0, f1, f2, f3⟩, h0, h1, h2, h3⟩ := DY.out.facts
      dsimp only at p1 p2 p3
      go_wp2
      refine bodyPost_ret (v := .agg #[.int .i64 ((setN B 1)).n, .slice (⟨ao, co, al, cl, ac, cc⟩ : Sl).ao ((setN B 1)).orders.length (⟨ao, co, al, cl, ac, cc⟩ : Sl).co, .slice (⟨ao, co, al, cl, ac, cc⟩ : Sl).al ((setN B 1)).locked.length (⟨ao, co, al, cl, ac, cc⟩ : Sl).cl, .slice (⟨ao, co, al, cl, ac, cc⟩ : Sl).ac ((setN B 1)).occ.length (⟨ao, co, al, cl, ac, cc⟩ : Sl).cc]) (by simp [results, Tryz.results37, go_sem, e0, e1, e2, e3]) rfl ?_
      exact DY.out.done HC.out (HL.out.setN ⟨by decide, by decide⟩) (by omega)
    · skip
      go_upto_region 21 with (fail)
      have DY : Hid (BN w (w12.setCell ⟨w.heap.size, 0, none⟩ (.int .i64 60)) p ad n c V t 4 (setN B 60) ⟨ao, co, al, cl, ac, cc⟩ K) := D12.out.turn HC.out (fr1 (Fr.refl _ _)) (fun x e => Or.inl e) ((box_set D12.out.box _).trans rfl) ((D12.out.own.setN 60).setOther (fun x hx e => by have := D12.out.own.blocks_low (K := K) (B := B) hx; have e2 : x = w.heap.size := e; omega) _)
      obtain ⟨Y, hY⟩ : ∃ Y, Y = (w12.setCell ⟨w.heap.size, 0, none⟩ (.int .i64 60)) := ⟨_, rfl⟩
      rw [← hY] at DY ⊢
      clear hY D12 
      clear zb zr p0 p1 p2 p3 e0 e1 e2 e3 f0 f1 f2 f3 h0 h1 h2 h3
      obtain ⟨⟨zb, zr⟩, ⟨p0, p1, p2, p3⟩, ⟨e0, e1, e2, e3⟩, ⟨f0, f1, f2, f3⟩, h0, h1, h2, h3⟩ := DY.out.facts
      dsimp only at p1 p2 p3
      go_wp2
      refine bodyPost_ret (v := .agg #[.int .i64 ((setN B 60)).n, .slice (⟨ao, co, al, cl, ac, cc⟩ : Sl).ao ((setN B 60)).orders.length (⟨ao, co, al, cl, ac, cc⟩ : Sl).co, .slice (⟨ao, co, al, cl, ac, cc⟩ : Sl).al ((setN B 60)).locked.length (⟨ao, co, al, cl, ac, cc⟩ : Sl).cl, .slice (⟨ao, co, al, cl, ac, cc⟩ : Sl).ac ((setN B 60)).occ.length (⟨ao, co, al, cl, ac, cc⟩ : Sl).cc]) (by simp [results, Tryz.results37, go_sem, e0, e1, e2, e3]) rfl ?_
      exact DY.out.done HC.out (HL.out.setN ⟨by decide, by decide⟩) (by omega)
    · skip
      go_upto_region 21 with (fail)
      have DY : Hid (BN w (w12.setCell ⟨w.heap.size, 0, none⟩ (.int .i64 61)) p ad n c V t 4 (setN B 61) ⟨ao, co, al, cl, ac, cc⟩ K) := D12.out.turn HC.out (fr1 (Fr.refl _ _)) (fun x e => Or.inl e) ((box_set D12.out.box _).trans rfl) ((D12.out.own.setN 61).setOther (fun x hx e => by have := D12.out.own.blocks_low (K := K) (B := B) hx; have e2 : x = w.heap.size := e; omega) _)
      obtain ⟨Y, hY⟩ : ∃ Y, Y = (w12.setCell ⟨w.heap.size, 0, none⟩ (.int .i64 61)) := ⟨_, rfl⟩
      rw [← hY] at DY ⊢
      clear hY D12 
      clear zb zr p0 p1 p2 p3 e0 e1 e2 e3 f0 f1 f2 f3 h0 h1 h2 h3
      obtain ⟨⟨zb, zr⟩, ⟨p0, p1, p2, p3⟩, ⟨e0, e1, e2, e3⟩, ⟨f0, f1, f2, f3⟩, h0, h1, h2, h3⟩ := DY.out.facts
      dsimp only at p1 p2 p3
      go_wp2
      refine bodyPost_ret (v := .agg #[.int .i64 ((setN B 61)).n, .slice (⟨ao, co, al, cl, ac, cc⟩ : Sl).ao ((setN B 61)).orders.length (⟨ao, co, al, cl, ac, cc⟩ : Sl).co, .slice (⟨ao, co, al, cl, ac, cc⟩ : Sl).al ((setN B 61)).locked.length (⟨ao, co, al, cl, ac, cc⟩ : Sl).cl, .slice (⟨ao, co, al, cl, ac, cc⟩ : Sl).ac ((setN B 61)).occ.length (⟨ao, co, al, cl, ac, cc⟩ : Sl).cc]) (by simp [results, Tryz.results37, go_sem, e0, e1, e2, e3]) rfl ?_
      exact DY.out.done HC.out (HL.out.setN ⟨by decide, by decide⟩) (by omega)
  · skip
    have hal : al = some ⟨K.L, 0, none⟩ := by
      obtain ⟨a1, a2, a3, a4, a5, a6, ee, -, hOl, -⟩ := D11.out.own.shape
      unfold bookV at ee
      simp only [Value.agg.injEq, Array.mk.injEq, List.cons.injEq, Value.slice.injEq, and_true, true_and] at ee
      rw [ee.2.1.1]
      exact hOl.head hlp
    subst hal
    go_wp2_with (at_builtin; refine stand ?_)
    refine Stand.go ?_
    have bq := below1 w11 (.cells #[.bool true] 4)
    have DA : Hid (BN w (w11.alloc (.cells #[.bool true] 4)) p ad n c V t 2 B ⟨ao, co, some ⟨K.L, 0, none⟩, cl, ac, cc⟩ K) := D11.out.below bq
    have n4 : ∀ j u', [Value.bool true][j]? = some u' → (w11.alloc (.cells #[.bool true] 4)).cell? ((⟨w11.heap.size, 0, none⟩ : Addr).add j) = some u' := by
      intro j u' hu
      rw [add0]
      refine cell_of_box (Deep.blk_alloc_new _ _) ?_
      rw [← Array.getElem?_toList]
      exact hu
    have hLl := D11.out.own.blocks_low (Or.inr (Or.inl ⟨hlp, rfl⟩))
    have rw0 : (w11.alloc (.cells #[.bool true] 4)).ownsRow (w.heap.size + 2) 4 1 (.slice (some ⟨K.L, 0, none⟩) B.locked.length cl) B.locked.length ((List.range B.locked.length).map (fun i => Value.bool (B.locked.getD i false))) := by
      obtain ⟨a1, a2, a3, a4, a5, a6, ee, -, hOl, -⟩ := DA.out.own.shape
      exact owns_of_tight ((T11.out.lock hlp).of_block (bq.block _ (T11.out.lock hlp).lt)) (hOl.row hlp) hLl
    have sA : (w11.alloc (.cells #[.bool true] 4)).heap.size = w11.heap.size + 1 := alloc_size _ _
    have zw : w.heap.size + 1 < w11.heap.size := zr
    refine wpList_append_own_at _ rfl _ _ 35 rfl (w.heap.size + 2) 4 ib (.bool false) 1 1 Tryz.underlying35 hib zb0 zb1 zb2 rfl (by decide) (.slice (some ⟨K.L, 0, none⟩) B.locked.length cl) B.locked.length ((List.range B.locked.length).map (fun i => Value.bool (B.locked.getD i false))) rfl rw0 ⟨w11.heap.size, 0, none⟩ 1 1 [.bool true] rfl rfl n4 ?_ (by unfold maxLen; omega) (by omega) (by rw [sA]; omega) ?_
    · intro x hx
      simp only [List.mem_singleton] at hx
      subst hx
      rfl
    intro vU wU hownU hgU _ hbU
    obtain ⟨aU, cU, g, rfl, hOU, hgk⟩ := DA.out.own.pushLock hlp hownU hgU hbU
    have fU : Fr (fun x => x = K.L) (w11.alloc (.cells #[.bool true] 4)) wU := ⟨hgU.os, hgU.tape, hgU.output, hgU.size, fun j hj hn' => hgU.block j hj (fun e => hn' (Option.some.inj e))⟩
    have xU := (fU.block w.heap.size (by omega) (fun e => by have e2 : w.heap.size = K.L := e; omega)).trans DA.out.box
    obtain ⟨o0, o1, o2, o3⟩ := box_cells xU
    have u2 : wU.frozen? ⟨w.heap.size, 2, none⟩ = false := frozen_of_box xU
    have zU : w.heap.size < wU.heap.size := (Array.getElem?_eq_some_iff.1 xU).1
    have XU : Hid (wU.heap[w.heap.size]? = some (.cells #[.int .i64 B.n, .slice (⟨ao, co, some ⟨K.L, 0, none⟩, cl, ac, cc⟩ : Sl).ao B.orders.length (⟨ao, co, some ⟨K.L, 0, none⟩, cl, ac, cc⟩ : Sl).co, .slice (⟨ao, co, some ⟨K.L, 0, none⟩, cl, ac, cc⟩ : Sl).al B.locked.length (⟨ao, co, some ⟨K.L, 0, none⟩, cl, ac, cc⟩ : Sl).cl, .slice (⟨ao, co, some ⟨K.L, 0, none⟩, cl, ac, cc⟩ : Sl).ac B.occ.length (⟨ao, co, some ⟨K.L, 0, none⟩, cl, ac, cc⟩ : Sl).cc] 37 (0, 0)) ∧ Fr (fun x => x = K.L) (w11.alloc (.cells #[.bool true] 4)) wU ∧ OwnBook wU (w.heap.size + 2) (bookV (addLock B true) ⟨ao, co, aU, cU, ac, cc⟩) (addLock B true) ⟨K.G, K.gs, K.sa, K.sc, g, K.C⟩ ∧ w.heap.size + 2 ≤ K.L) := ⟨xU, fU, hOU, hLl⟩
    clear hownU hgU hbU n4 rw0 hOU hgk fU xU bq D11 T11 zb zr p0 p1 p2 p3 e0 e1 e2 e3 f0 f1 f2 f3 h0 h1 h2 h3 hLl
    go_upto_region 21 with (fail)
    have DY : Hid (BN w (wU.setCell ⟨w.heap.size, 2, none⟩ (.slice aU (B.locked.length + 1) cU)) p ad n c V t 2 (addLock B true) ⟨ao, co, aU, cU, ac, cc⟩ ⟨K.G, K.gs, K.sa, K.sc, g, K.C⟩) := DA.out.turn HC.out (XU.out.2.1.mono (T := fun x => x = K.L ∨ x = w.heap.size) (fun i e => Or.inl e) |>.trans (fr1 (P := w.heap.size) (Fr.refl _ _) |>.mono (fun i e => Or.inr e))) (fun x e => by have := XU.out.2.2.2; omega) ((box_set XU.out.1 _).trans (by simp [addLock])) (XU.out.2.2.1.setOther (fun x hx e => by have := XU.out.2.2.1.blocks_low hx; have e2 : x = w.heap.size := e; omega) _)
    obtain ⟨Y, hY⟩ : ∃ Y, Y = (wU.setCell ⟨w.heap.size, 2, none⟩ (.slice aU (B.locked.length + 1) cU)) := ⟨_, rfl⟩
    rw [← hY] at DY ⊢
    clear hY DA o0 o1 o2 o3 u2 zU sA zw
    obtain ⟨⟨zb, zr⟩, ⟨p0, p1, p2, p3⟩, ⟨e0, e1, e2, e3⟩, ⟨f0, f1, f2, f3⟩, h0, h1, h2, h3⟩ := DY.out.facts
    dsimp only at p1 p2 p3
    go_wp2
    refine bodyPost_ret (v := .agg #[.int .i64 ((addLock B true)).n, .slice (⟨ao, co, aU, cU, ac, cc⟩ : Sl).ao ((addLock B true)).orders.length (⟨ao, co, aU, cU, ac, cc⟩ : Sl).co, .slice (⟨ao, co, aU, cU, ac, cc⟩ : Sl).al ((addLock B true)).locked.length (⟨ao, co, aU, cU, ac, cc⟩ : Sl).cl, .slice (⟨ao, co, aU, cU, ac, cc⟩ : Sl).ac ((addLock B true)).occ.length (⟨ao, co, aU, cU, ac, cc⟩ : Sl).cc]) (by simp [results, Tryz.results37, go_sem, e0, e1, e2, e3]) rfl ?_
    exact DY.out.done HC.out (HL.out.addLock true) (by omega)
  · skip
    have hal : al = some ⟨K.L, 0, none⟩ := by
      obtain ⟨a1, a2, a3, a4, a5, a6, ee, -, hOl, -⟩ := D11.out.own.shape
      unfold bookV at ee
      simp only [Value.agg.injEq, Array.mk.injEq, List.cons.injEq, Value.slice.injEq, and_true, true_and] at ee
      rw [ee.2.1.1]
      exact hOl.head hlp
    subst hal
    have lp : (0 : Int) < (B.locked.length : Int) := by omega
    clear T11
    go_upto_region 20 with (fail)
    refine wp_region_held_drew (S := (fun w' => w'.cell? ⟨w.heap.size, 2, none⟩ = some (.slice (some ⟨K.L, 0, none⟩) B.locked.length cl))) (by kernel_rfl) (by simp [go_sem, p2]) (fun hS0 => ?_)
    refine wpAnyH_take (i := 0) (v := ?_) rfl (by kernel_rfl) (by kernel_rfl) (by kernel_rfl) (fun _ _ _ h => h) (Or.inl ⟨by kernel_rfl, ?_⟩) (by assumption) ?_
    rotate_left 1
    · (intro w hSw; (try dsimp only at hSw); go_simp; try (with_reducible rfl))
    refine wpAnyH_take (i := 1) (v := ?_) rfl (by kernel_rfl) (by kernel_rfl) (by kernel_rfl) (fun _ _ _ h => h) (Or.inl ⟨by kernel_rfl, ?_⟩) (by assumption) ?_
    rotate_left 1
    · (intro w hSw; (try dsimp only at hSw); go_simp; try (with_reducible rfl))
    refine wpAnyH_take (i := 2) (v := ?_) rfl (by kernel_rfl) (by kernel_rfl) (by kernel_rfl) (fun _ _ _ h => h) (Or.inl ⟨by kernel_rfl, ?_⟩) (by assumption) ?_
    rotate_left 1
    · (intro w hSw; (try dsimp only at hSw); go_simp; try (with_reducible rfl))
    refine wpAnyH_take (i := 3) (v := ?_) rfl (by kernel_rfl) (by kernel_rfl) (by kernel_rfl) (fun _ _ _ h => h) (Or.inl ⟨by kernel_rfl, ?_⟩) (by assumption) ?_
    rotate_left 1
    · (intro w hSw; (try dsimp only at hSw); go_simp; try (with_reducible rfl))
    refine wpAnyH_take (i := 4) (v := ?_) rfl (by kernel_rfl) (by kernel_rfl) (by kernel_rfl) (fun _ _ _ h => h) (Or.inl ⟨by kernel_rfl, ?_⟩) (by assumption) ?_
    rotate_left 1
    · (intro w hSw; (try dsimp only at hSw); go_simp; try (with_reducible rfl))
    refine wpAnyH_take (i := 5) (v := ?_) rfl (by kernel_rfl) (by kernel_rfl) (by kernel_rfl) (fun _ _ _ h => h) (Or.inl ⟨by kernel_rfl, ?_⟩) (by assumption) ?_
    rotate_left 1
    · (intro w hSw; (try dsimp only at hSw); go_simp; try (with_reducible rfl))
    refine wpAnyH_ready (rs := [6]) (by kernel_rfl) (by simp) ?_
    refine AllReadyH.cons rfl (fun Kx hK => ?_) (AllReadyH.nil)
    go_simp
    have DQ : Hid (BN w w11.drew p ad n c V t 2 B ⟨ao, co, some ⟨K.L, 0, none⟩, cl, ac, cc⟩ K) := D11.out.below (Below.refl _ _).drew
    clear D11
    obtain ⟨t13, ht13, hc13⟩ := DQ.out.cur
    refine (pick_any p ad n c V t13 (B.locked.length : Int) _ (by omega) hn (by omega) hc13).mono ?_
    clear hc13
    rintro e w13 ⟨⟨r13, rfl, hq13, hr13⟩, ⟨u13, hu13, hv13⟩, hf13⟩
    have D13 : Hid (BN w w13 p ad n c V t 4 B ⟨ao, co, some ⟨K.L, 0, none⟩, cl, ac, cc⟩ K) := DQ.out.step hp ⟨u13, by omega, hv13⟩ hf13
    clear hv13 hf13 ht13 hu13 DQ
    clear zb zr p0 p1 p2 p3 e0 e1 e2 e3 f0 f1 f2 f3 h0 h1 h2 h3
    obtain ⟨⟨zb, zr⟩, ⟨p0, p1, p2, p3⟩, ⟨e0, e1, e2, e3⟩, ⟨f0, f1, f2, f3⟩, h0, h1, h2, h3⟩ := D13.out.facts
    dsimp only at p1 p2 p3
    have hr : r13 < B.locked.length := by
      by_cases h1 : (B.locked.length : Int) ≤ 1
      · have := hq13 h1; omega
      · have := hr13 (by omega); omega
    clear hq13 hr13
    refine hK.out _ _ p2 (fun hS1 => ?_)
    clear hK Kx hS0
    have i0' : (0 : Int) ≤ (r13 : Int) := by omega
    have i1' : (r13 : Int) < (B.locked.length : Int) := by omega
    have hLl := D13.out.own.blocks_low (Or.inr (Or.inl ⟨hlp, rfl⟩))
    have hLt := D13.out.own.blocks_lt (Or.inr (Or.inl ⟨hlp, rfl⟩))
    have cr : w13.cell? ⟨K.L, r13, none⟩ = some (.bool (B.locked.getD r13 false)) := by
      obtain ⟨a1, a2, a3, a4, a5, a6, ee, -, hOl, -⟩ := D13.out.own.shape
      exact (hOl.row hlp).cell hr
    have fr9 : w13.frozen? ⟨K.L, r13, none⟩ = false := by
      obtain ⟨a1, a2, a3, a4, a5, a6, ee, -, hOl, -⟩ := D13.out.own.shape
      exact (hOl.row hlp).frozen _
    refine wpAnyH_take (i := 7) (v := ?_) rfl (by kernel_rfl) (by kernel_rfl) (by kernel_rfl) (fun _ _ _ h => h) (Or.inl ⟨by kernel_rfl, ?_⟩) (by assumption) ?_
    rotate_left 1
    · (intro w hSw; (try dsimp only at hSw); go_simp; try (with_reducible rfl))
    refine wpAnyH_ready (rs := [8]) (by kernel_rfl) (by simp) ?_
    refine AllReadyH.cons rfl (fun Kx hK => ?_) (AllReadyH.nil)
    go_simp
    refine hK.out _ _ ((cell_other (by omega)).trans p2) (fun hS9 => ?_)
    clear hK Kx hS9 hS1
    refine wpAnyH_done (by kernel_rfl) ?_ _
    go_simp
    go_upto_region 21 with (fail)
    have DY : Hid (BN w (w13.setCell ⟨K.L, r13, none⟩ (.bool true)) p ad n c V t 4 (setLock B r13 true) ⟨ao, co, some ⟨K.L, 0, none⟩, cl, ac, cc⟩ K) := D13.out.turn HC.out (fr1 (Fr.refl _ _)) (fun x e => Or.inr (by omega)) ((Deep.blk_setCell_other _ _ _ _ (by show w.heap.size ≠ K.L; omega)).trans (D13.out.box.trans (by simp [setLock]))) (by
      have q := D13.out.own.setLock hr true
      have e : bookV (setLock B r13 true) ⟨ao, co, some ⟨K.L, 0, none⟩, cl, ac, cc⟩ = bookV B ⟨ao, co, some ⟨K.L, 0, none⟩, cl, ac, cc⟩ := by simp [bookV, setLock]
      rw [e]
      exact q)
    obtain ⟨Y, hY⟩ : ∃ Y, Y = (w13.setCell ⟨K.L, r13, none⟩ (.bool true)) := ⟨_, rfl⟩
    rw [← hY] at DY ⊢
    clear hY D13 cr fr9
    clear zb zr p0 p1 p2 p3 e0 e1 e2 e3 f0 f1 f2 f3 h0 h1 h2 h3
    obtain ⟨⟨zb, zr⟩, ⟨p0, p1, p2, p3⟩, ⟨e0, e1, e2, e3⟩, ⟨f0, f1, f2, f3⟩, h0, h1, h2, h3⟩ := DY.out.facts
    dsimp only at p1 p2 p3
    go_wp2
    refine bodyPost_ret (v := .agg #[.int .i64 ((setLock B r13 true)).n, .slice (⟨ao, co, some ⟨K.L, 0, none⟩, cl, ac, cc⟩ : Sl).ao ((setLock B r13 true)).orders.length (⟨ao, co, some ⟨K.L, 0, none⟩, cl, ac, cc⟩ : Sl).co, .slice (⟨ao, co, some ⟨K.L, 0, none⟩, cl, ac, cc⟩ : Sl).al ((setLock B r13 true)).locked.length (⟨ao, co, some ⟨K.L, 0, none⟩, cl, ac, cc⟩ : Sl).cl, .slice (⟨ao, co, some ⟨K.L, 0, none⟩, cl, ac, cc⟩ : Sl).ac ((setLock B r13 true)).occ.length (⟨ao, co, some ⟨K.L, 0, none⟩, cl, ac, cc⟩ : Sl).cc]) (by simp [results, Tryz.results37, go_sem, e0, e1, e2, e3]) rfl ?_
    exact DY.out.done HC.out (HL.out.setLock _ _) (by omega)
  · have q0 : ((r11 : Int) == 0) = false := beq_eq_false_iff_ne.2 (by omega)
    have q1 : ((r11 : Int) == 1) = false := beq_eq_false_iff_ne.2 (by omega)
    have q2 : ((r11 : Int) == 2) = false := beq_eq_false_iff_ne.2 (by omega)
    by_cases hz : B.orders.length = 0
    · skip
      have tz : ((B.orders.length : Int) == 0) = true := len0_t' hz
      clear hz
      go_wp2
      refine bodyPost_ret (v := .agg #[.int .i64 B.n, .slice (⟨ao, co, al, cl, ac, cc⟩ : Sl).ao B.orders.length (⟨ao, co, al, cl, ac, cc⟩ : Sl).co, .slice (⟨ao, co, al, cl, ac, cc⟩ : Sl).al B.locked.length (⟨ao, co, al, cl, ac, cc⟩ : Sl).cl, .slice (⟨ao, co, al, cl, ac, cc⟩ : Sl).ac B.occ.length (⟨ao, co, al, cl, ac, cc⟩ : Sl).cc]) (by simp [results, Tryz.results37, go_sem, e0, e1, e2, e3]) rfl ?_
      exact D11.out.done HC.out (HL.out.up) (by omega)
    · skip
      have hao : ao = some ⟨K.G, 0, none⟩ := by
        obtain ⟨a1, a2, a3, a4, a5, a6, ee, hOo, -, -⟩ := D11.out.own.shape
        unfold bookV at ee
        simp only [Value.agg.injEq, Array.mk.injEq, List.cons.injEq, Value.slice.injEq, and_true, true_and] at ee
        rw [ee.1.1]
        exact hOo.head (by omega)
      subst hao
      have hpos : 0 < B.orders.length := by omega
      have tz : ((B.orders.length : Int) == 0) = false := len0_f' hz
      clear hz
      go_upto_region 5 with (fail)
      refine wp_region_held_drew (S := (fun w' => w'.cell? ⟨w.heap.size, 1, none⟩ = some (.slice (some ⟨K.G, 0, none⟩) B.orders.length co))) (by kernel_rfl) (by simp [go_sem, p1]) (fun hS0 => ?_)
      refine wpAnyH_take (i := 0) (v := ?_) rfl (by kernel_rfl) (by kernel_rfl) (by kernel_rfl) (fun _ _ _ h => h) (Or.inl ⟨by kernel_rfl, ?_⟩) (by assumption) ?_
      rotate_left 1
      · (intro w hSw; (try dsimp only at hSw); go_simp; try (with_reducible rfl))
      refine wpAnyH_take (i := 1) (v := ?_) rfl (by kernel_rfl) (by kernel_rfl) (by kernel_rfl) (fun _ _ _ h => h) (Or.inl ⟨by kernel_rfl, ?_⟩) (by assumption) ?_
      rotate_left 1
      · (intro w hSw; (try dsimp only at hSw); go_simp; try (with_reducible rfl))
      refine wpAnyH_take (i := 2) (v := ?_) rfl (by kernel_rfl) (by kernel_rfl) (by kernel_rfl) (fun _ _ _ h => h) (Or.inl ⟨by kernel_rfl, ?_⟩) (by assumption) ?_
      rotate_left 1
      · (intro w hSw; (try dsimp only at hSw); go_simp; try (with_reducible rfl))
      refine wpAnyH_take (i := 3) (v := ?_) rfl (by kernel_rfl) (by kernel_rfl) (by kernel_rfl) (fun _ _ _ h => h) (Or.inl ⟨by kernel_rfl, ?_⟩) (by assumption) ?_
      rotate_left 1
      · (intro w hSw; (try dsimp only at hSw); go_simp; try (with_reducible rfl))
      refine wpAnyH_take (i := 4) (v := ?_) rfl (by kernel_rfl) (by kernel_rfl) (by kernel_rfl) (fun _ _ _ h => h) (Or.inl ⟨by kernel_rfl, ?_⟩) (by assumption) ?_
      rotate_left 1
      · (intro w hSw; (try dsimp only at hSw); go_simp; try (with_reducible rfl))
      refine wpAnyH_take (i := 5) (v := ?_) rfl (by kernel_rfl) (by kernel_rfl) (by kernel_rfl) (fun _ _ _ h => h) (Or.inl ⟨by kernel_rfl, ?_⟩) (by assumption) ?_
      rotate_left 1
      · (intro w hSw; (try dsimp only at hSw); go_simp; try (with_reducible rfl))
      refine wpAnyH_ready (rs := [6]) (by kernel_rfl) (by simp) ?_
      refine AllReadyH.cons rfl (fun Kx hK => ?_) (AllReadyH.nil)
      go_simp
      have DQ : Hid (BN w w11.drew p ad n c V t 2 B ⟨some ⟨K.G, 0, none⟩, co, al, cl, ac, cc⟩ K) := D11.out.below (Below.refl _ _).drew
      have TQ : Hid (TightB w11.drew B K cl) := ⟨fun q => T11.out.lock q, fun i hi q => T11.out.sec i hi q⟩
      clear D11 T11
      obtain ⟨t14, ht14, hc14⟩ := DQ.out.cur
      refine (pick_any p ad n c V t14 (B.orders.length : Int) _ (by omega) hn (by omega) hc14).mono ?_
      clear hc14
      rintro e w14 ⟨⟨r14, rfl, hq14, hr14⟩, ⟨u14, hu14, hv14⟩, hf14⟩
      have D14 : Hid (BN w w14 p ad n c V t 4 B ⟨some ⟨K.G, 0, none⟩, co, al, cl, ac, cc⟩ K) := DQ.out.step hp ⟨u14, by omega, hv14⟩ hf14
      have T14 : Hid (TightB w14 B K cl) := ⟨fun q => (TQ.out.lock q).of_block (hf14.block _ (TQ.out.lock q).lt (fun e => by have : K.L = p := e; have := DQ.out.own.blocks_low (Or.inr (Or.inl ⟨q, rfl⟩)); omega)), fun i hi q => (TQ.out.sec i hi q).of_block (hf14.block _ (TQ.out.sec i hi q).lt (fun e => by have : K.gs i = p := e; have := DQ.out.own.blocks_low (Or.inl (Or.inr ⟨i, hi, q, rfl⟩)); omega))⟩
      clear hv14 hf14 ht14 hu14 DQ TQ
      clear zb zr p0 p1 p2 p3 e0 e1 e2 e3 f0 f1 f2 f3 h0 h1 h2 h3
      obtain ⟨⟨zb, zr⟩, ⟨p0, p1, p2, p3⟩, ⟨e0, e1, e2, e3⟩, ⟨f0, f1, f2, f3⟩, h0, h1, h2, h3⟩ := D14.out.facts
      dsimp only at p1 p2 p3
      have hr : r14 < B.orders.length := by
        by_cases h1 : (B.orders.length : Int) ≤ 1
        · have := hq14 h1; omega
        · have := hr14 (by omega); omega
      clear hq14 hr14
      refine hK.out _ _ p1 (fun hS1 => ?_)
      clear hK Kx hS0
      have i0' : (0 : Int) ≤ (r14 : Int) := by omega
      have i1' : (r14 : Int) < (B.orders.length : Int) := by omega
      refine wpAnyH_take (i := 7) (v := ?_) rfl (by kernel_rfl) (by kernel_rfl) (by kernel_rfl) (fun _ _ _ h => h) (Or.inl ⟨by kernel_rfl, ?_⟩) (by assumption) ?_
      rotate_left 1
      · (intro w hSw; (try dsimp only at hSw); go_simp; try (with_reducible rfl))
      refine wpAnyH_take (i := 8) (v := ?_) rfl (by kernel_rfl) (by kernel_rfl) (by kernel_rfl) (fun _ _ _ h => h) (Or.inl ⟨by kernel_rfl, ?_⟩) (by assumption) ?_
      rotate_left 1
      · (intro w hSw; (try dsimp only at hSw); go_simp; try (with_reducible rfl))
      refine wpAnyH_done (by kernel_rfl) ?_ _
      go_simp
      clear hS1
      obtain ⟨rI, hrI⟩ : ∃ x, x = r14 := ⟨_, rfl⟩
      rw [← hrI] at hr i0' i1' ⊢
      clear hrI
      go_wp2_with fail
      obtain ⟨t15, ht15, hc15⟩ := D14.out.cur
      refine (pick_any p ad n c V t15 4 _ (by omega) hn (by omega) hc15).mono ?_
      clear hc15
      rintro e w15 ⟨⟨r15, rfl, hq15, hr15⟩, ⟨u15, hu15, hv15⟩, hf15⟩
      have D15 : Hid (BN w w15 p ad n c V t 6 B ⟨some ⟨K.G, 0, none⟩, co, al, cl, ac, cc⟩ K) := D14.out.step hp ⟨u15, by omega, hv15⟩ hf15
      have T15 : Hid (TightB w15 B K cl) := ⟨fun q => (T14.out.lock q).of_block (hf15.block _ (T14.out.lock q).lt (fun e => by have : K.L = p := e; have := D14.out.own.blocks_low (Or.inr (Or.inl ⟨q, rfl⟩)); omega)), fun i hi q => (T14.out.sec i hi q).of_block (hf15.block _ (T14.out.sec i hi q).lt (fun e => by have : K.gs i = p := e; have := D14.out.own.blocks_low (Or.inl (Or.inr ⟨i, hi, q, rfl⟩)); omega))⟩
      clear hv15 hf15 ht15 hu15 D14 T14
      clear zb zr p0 p1 p2 p3 e0 e1 e2 e3 f0 f1 f2 f3 h0 h1 h2 h3
      obtain ⟨⟨zb, zr⟩, ⟨p0, p1, p2, p3⟩, ⟨e0, e1, e2, e3⟩, ⟨f0, f1, f2, f3⟩, h0, h1, h2, h3⟩ := D15.out.facts
      dsimp only at p1 p2 p3
      have b4 : r15 < 4 := by have := hr15 (by omega); omega
      clear hq15 hr15
      have hGl := D15.out.own.blocks_low (Or.inl (Or.inl ⟨by omega, rfl⟩))
      rcases (show r15 = 0 ∨ r15 = 1 ∨ r15 = 2 ∨ r15 = 3 by omega) with rfl | rfl | rfl | rfl
      · skip
        clear T15
        go_wp2_with fail
        obtain ⟨t16, ht16, hc16⟩ := D15.out.cur
        refine (pick_any p ad n c V t16 7 _ (by omega) hn (by omega) hc16).mono ?_
        clear hc16
        rintro e w16 ⟨⟨r16, rfl, hq16, hr16⟩, ⟨u16, hu16, hv16⟩, hf16⟩
        have D16 : Hid (BN w w16 p ad n c V t 8 B ⟨some ⟨K.G, 0, none⟩, co, al, cl, ac, cc⟩ K) := D15.out.step hp ⟨u16, by omega, hv16⟩ hf16
        clear hv16 hf16 ht16 hu16 D15
        clear zb zr p0 p1 p2 p3 e0 e1 e2 e3 f0 f1 f2 f3 h0 h1 h2 h3
        obtain ⟨⟨zb, zr⟩, ⟨p0, p1, p2, p3⟩, ⟨e0, e1, e2, e3⟩, ⟨f0, f1, f2, f3⟩, h0, h1, h2, h3⟩ := D16.out.facts
        dsimp only at p1 p2 p3
        clear hq16 hr16
        obtain ⟨⟨g0, g1, g2, g3, -⟩, gf, -⟩ := ord_facts D16.out.own hr
        have gf0 := gf (rI * 4)
        have gf1 := gf (rI * 4 + 1)
        have gf2 := gf (rI * 4 + 2)
        have gf3 := gf (rI * 4 + 3)
        clear gf
        have gl : K.G < w16.heap.size := World.block_lt_of_cell? _ _ g0
        go_upto_region 21 with (fail)
        have DY : Hid (BN w (w16.setCell ⟨K.G, rI * 4 + 3, none⟩ (.int .i64 (r16 : Int))) p ad n c V t 8 (setOrd B rI ⟨(bX B rI).holder, (bX B rI).kind, (bX B rI).secs, (r16 : Int)⟩) ⟨some ⟨K.G, 0, none⟩, co, al, cl, ac, cc⟩ K) := D16.out.turn HC.out (fr1 (Fr.refl _ _)) (fun x e => Or.inr (by omega)) ((Deep.blk_setCell_other _ _ _ _ (by show w.heap.size ≠ K.G; omega)).trans (D16.out.box.trans (by simp [setOrd]))) (by
          have q := D16.out.own.putOrd hr (j := 3) (by omega) (.int .i64 (r16 : Int)) ⟨(bX B rI).holder, (bX B rI).kind, (bX B rI).secs, (r16 : Int)⟩ rfl (fun r hr4 => by
            rcases (show r = 0 ∨ r = 1 ∨ r = 2 ∨ r = 3 by omega) with rfl | rfl | rfl | rfl <;> rfl)
          have e : bookV (setOrd B rI ⟨(bX B rI).holder, (bX B rI).kind, (bX B rI).secs, (r16 : Int)⟩) ⟨some ⟨K.G, 0, none⟩, co, al, cl, ac, cc⟩ = bookV B ⟨some ⟨K.G, 0, none⟩, co, al, cl, ac, cc⟩ := by simp [bookV, setOrd]
          rw [e]
          exact q)
        obtain ⟨Y, hY⟩ : ∃ Y, Y = (w16.setCell ⟨K.G, rI * 4 + 3, none⟩ (.int .i64 (r16 : Int))) := ⟨_, rfl⟩
        rw [← hY] at DY ⊢
        clear hY D16 g0 g1 g2 g3 gf0 gf1 gf2 gf3 gl
        clear zb zr p0 p1 p2 p3 e0 e1 e2 e3 f0 f1 f2 f3 h0 h1 h2 h3
        obtain ⟨⟨zb, zr⟩, ⟨p0, p1, p2, p3⟩, ⟨e0, e1, e2, e3⟩, ⟨f0, f1, f2, f3⟩, h0, h1, h2, h3⟩ := DY.out.facts
        dsimp only at p1 p2 p3
        go_wp2
        refine bodyPost_ret (v := .agg #[.int .i64 ((setOrd B rI ⟨(bX B rI).holder, (bX B rI).kind, (bX B rI).secs, (r16 : Int)⟩)).n, .slice (⟨some ⟨K.G, 0, none⟩, co, al, cl, ac, cc⟩ : Sl).ao ((setOrd B rI ⟨(bX B rI).holder, (bX B rI).kind, (bX B rI).secs, (r16 : Int)⟩)).orders.length (⟨some ⟨K.G, 0, none⟩, co, al, cl, ac, cc⟩ : Sl).co, .slice (⟨some ⟨K.G, 0, none⟩, co, al, cl, ac, cc⟩ : Sl).al ((setOrd B rI ⟨(bX B rI).holder, (bX B rI).kind, (bX B rI).secs, (r16 : Int)⟩)).locked.length (⟨some ⟨K.G, 0, none⟩, co, al, cl, ac, cc⟩ : Sl).cl, .slice (⟨some ⟨K.G, 0, none⟩, co, al, cl, ac, cc⟩ : Sl).ac ((setOrd B rI ⟨(bX B rI).holder, (bX B rI).kind, (bX B rI).secs, (r16 : Int)⟩)).occ.length (⟨some ⟨K.G, 0, none⟩, co, al, cl, ac, cc⟩ : Sl).cc]) (by simp [results, Tryz.results37, go_sem, e0, e1, e2, e3]) rfl ?_
        exact DY.out.done HC.out (HL.out.setOrd hr _ ⟨(HL.out.2.1 rI hr).1, by have := (HL.out.2.1 rI hr).2.1; show (bX B rI).secs.length ≤ _; omega, (HL.out.2.1 rI hr).2.2⟩) (by omega)
      · skip
        clear T15
        go_wp2_with fail
        have bq := below1 w15 (.cells #[.string ⟨#[]⟩, .string ⟨#[90]⟩] 9)
        have DA : Hid (BN w (w15.alloc (.cells #[.string ⟨#[]⟩, .string ⟨#[90]⟩] 9)) p ad n c V t 6 B ⟨some ⟨K.G, 0, none⟩, co, al, cl, ac, cc⟩ K) := D15.out.below bq
        have xa : (w15.alloc (.cells #[.string ⟨#[]⟩, .string ⟨#[90]⟩] 9)).heap[w15.heap.size]? = some (.cells #[.string ⟨#[]⟩, .string ⟨#[90]⟩] 9 (0, 0)) := Deep.blk_alloc_new _ _
        have za : w15.heap.size < (w15.alloc (.cells #[.string ⟨#[]⟩, .string ⟨#[90]⟩] 9)).heap.size := by simp
        have zw : w.heap.size + 1 < w15.heap.size := zr
        obtain ⟨WA, hWA⟩ : ∃ x, x = w15.alloc (.cells #[.string ⟨#[]⟩, .string ⟨#[90]⟩] 9) := ⟨_, rfl⟩
        rw [← hWA] at DA xa za ⊢
        clear hWA bq D15
        obtain ⟨t17, ht17, hc17⟩ := DA.out.cur
        refine (pick_any p ad n c V t17 2 _ (by omega) hn (by omega) hc17).mono ?_
        clear hc17
        rintro e w17 ⟨⟨r17, rfl, hq17, hr17⟩, ⟨u17, hu17, hv17⟩, hf17⟩
        have b17 : r17 < 2 := by have := hr17 (by omega); omega
        have D17 : Hid (BN w w17 p ad n c V t 8 B ⟨some ⟨K.G, 0, none⟩, co, al, cl, ac, cc⟩ K) := DA.out.step hp ⟨u17, by omega, hv17⟩ hf17
        have x17 := (hf17.block _ za (by omega)).trans xa
        obtain ⟨y0, y1⟩ := cells2 x17
        clear hv17 hf17 ht17 hu17 DA x17 xa za hq17 hr17
        clear zb zr p0 p1 p2 p3 e0 e1 e2 e3 f0 f1 f2 f3 h0 h1 h2 h3
        obtain ⟨⟨zb, zr⟩, ⟨p0, p1, p2, p3⟩, ⟨e0, e1, e2, e3⟩, ⟨f0, f1, f2, f3⟩, h0, h1, h2, h3⟩ := D17.out.facts
        dsimp only at p1 p2 p3
        obtain ⟨⟨g0, g1, g2, g3, -⟩, gf, -⟩ := ord_facts D17.out.own hr
        have gf0 := gf (rI * 4)
        have gf1 := gf (rI * 4 + 1)
        have gf2 := gf (rI * 4 + 2)
        have gf3 := gf (rI * 4 + 3)
        clear gf
        have gl : K.G < w17.heap.size := World.block_lt_of_cell? _ _ g0
        rcases (show r17 = 0 ∨ r17 = 1 by omega) with rfl | rfl
        · skip
          go_upto_region 21 with (fail)
          have DY : Hid (BN w (w17.setCell ⟨K.G, rI * 4, none⟩ (.string ⟨#[]⟩)) p ad n c V t 8 (setOrd B rI ⟨⟨#[]⟩, (bX B rI).kind, (bX B rI).secs, (bX B rI).state⟩) ⟨some ⟨K.G, 0, none⟩, co, al, cl, ac, cc⟩ K) := D17.out.turn HC.out (fr1 (Fr.refl _ _)) (fun x e => Or.inr (by omega)) ((Deep.blk_setCell_other _ _ _ _ (by show w.heap.size ≠ K.G; omega)).trans (D17.out.box.trans (by simp [setOrd]))) (by
            have q := D17.out.own.putOrd hr (j := 0) (by omega) (.string ⟨#[]⟩) ⟨⟨#[]⟩, (bX B rI).kind, (bX B rI).secs, (bX B rI).state⟩ rfl (fun r hr4 => by
              rcases (show r = 0 ∨ r = 1 ∨ r = 2 ∨ r = 3 by omega) with rfl | rfl | rfl | rfl <;> rfl)
            have e : bookV (setOrd B rI ⟨⟨#[]⟩, (bX B rI).kind, (bX B rI).secs, (bX B rI).state⟩) ⟨some ⟨K.G, 0, none⟩, co, al, cl, ac, cc⟩ = bookV B ⟨some ⟨K.G, 0, none⟩, co, al, cl, ac, cc⟩ := by simp [bookV, setOrd]
            rw [e]
            exact q)
          obtain ⟨Y, hY⟩ : ∃ Y, Y = (w17.setCell ⟨K.G, rI * 4, none⟩ (.string ⟨#[]⟩)) := ⟨_, rfl⟩
          rw [← hY] at DY ⊢
          clear hY D17 g0 g1 g2 g3 gf0 gf1 gf2 gf3 gl
          clear zb zr p0 p1 p2 p3 e0 e1 e2 e3 f0 f1 f2 f3 h0 h1 h2 h3
          obtain ⟨⟨zb, zr⟩, ⟨p0, p1, p2, p3⟩, ⟨e0, e1, e2, e3⟩, ⟨f0, f1, f2, f3⟩, h0, h1, h2, h3⟩ := DY.out.facts
          dsimp only at p1 p2 p3
          go_wp2
          refine bodyPost_ret (v := .agg #[.int .i64 ((setOrd B rI ⟨⟨#[]⟩, (bX B rI).kind, (bX B rI).secs, (bX B rI).state⟩)).n, .slice (⟨some ⟨K.G, 0, none⟩, co, al, cl, ac, cc⟩ : Sl).ao ((setOrd B rI ⟨⟨#[]⟩, (bX B rI).kind, (bX B rI).secs, (bX B rI).state⟩)).orders.length (⟨some ⟨K.G, 0, none⟩, co, al, cl, ac, cc⟩ : Sl).co, .slice (⟨some ⟨K.G, 0, none⟩, co, al, cl, ac, cc⟩ : Sl).al ((setOrd B rI ⟨⟨#[]⟩, (bX B rI).kind, (bX B rI).secs, (bX B rI).state⟩)).locked.length (⟨some ⟨K.G, 0, none⟩, co, al, cl, ac, cc⟩ : Sl).cl, .slice (⟨some ⟨K.G, 0, none⟩, co, al, cl, ac, cc⟩ : Sl).ac ((setOrd B rI ⟨⟨#[]⟩, (bX B rI).kind, (bX B rI).secs, (bX B rI).state⟩)).occ.length (⟨some ⟨K.G, 0, none⟩, co, al, cl, ac, cc⟩ : Sl).cc]) (by simp [results, Tryz.results37, go_sem, e0, e1, e2, e3]) rfl ?_
          exact DY.out.done HC.out (HL.out.setOrd hr _ ⟨(HL.out.2.1 rI hr).1, by have := (HL.out.2.1 rI hr).2.1; show (bX B rI).secs.length ≤ _; omega, (by show (ByteArray.mk _).size ≤ 20; decide)⟩) (by omega)
        · skip
          go_upto_region 21 with (fail)
          have DY : Hid (BN w (w17.setCell ⟨K.G, rI * 4, none⟩ (.string ⟨#[90]⟩)) p ad n c V t 8 (setOrd B rI ⟨⟨#[90]⟩, (bX B rI).kind, (bX B rI).secs, (bX B rI).state⟩) ⟨some ⟨K.G, 0, none⟩, co, al, cl, ac, cc⟩ K) := D17.out.turn HC.out (fr1 (Fr.refl _ _)) (fun x e => Or.inr (by omega)) ((Deep.blk_setCell_other _ _ _ _ (by show w.heap.size ≠ K.G; omega)).trans (D17.out.box.trans (by simp [setOrd]))) (by
            have q := D17.out.own.putOrd hr (j := 0) (by omega) (.string ⟨#[90]⟩) ⟨⟨#[90]⟩, (bX B rI).kind, (bX B rI).secs, (bX B rI).state⟩ rfl (fun r hr4 => by
              rcases (show r = 0 ∨ r = 1 ∨ r = 2 ∨ r = 3 by omega) with rfl | rfl | rfl | rfl <;> rfl)
            have e : bookV (setOrd B rI ⟨⟨#[90]⟩, (bX B rI).kind, (bX B rI).secs, (bX B rI).state⟩) ⟨some ⟨K.G, 0, none⟩, co, al, cl, ac, cc⟩ = bookV B ⟨some ⟨K.G, 0, none⟩, co, al, cl, ac, cc⟩ := by simp [bookV, setOrd]
            rw [e]
            exact q)
          obtain ⟨Y, hY⟩ : ∃ Y, Y = (w17.setCell ⟨K.G, rI * 4, none⟩ (.string ⟨#[90]⟩)) := ⟨_, rfl⟩
          rw [← hY] at DY ⊢
          clear hY D17 g0 g1 g2 g3 gf0 gf1 gf2 gf3 gl
          clear zb zr p0 p1 p2 p3 e0 e1 e2 e3 f0 f1 f2 f3 h0 h1 h2 h3
          obtain ⟨⟨zb, zr⟩, ⟨p0, p1, p2, p3⟩, ⟨e0, e1, e2, e3⟩, ⟨f0, f1, f2, f3⟩, h0, h1, h2, h3⟩ := DY.out.facts
          dsimp only at p1 p2 p3
          go_wp2
          refine bodyPost_ret (v := .agg #[.int .i64 ((setOrd B rI ⟨⟨#[90]⟩, (bX B rI).kind, (bX B rI).secs, (bX B rI).state⟩)).n, .slice (⟨some ⟨K.G, 0, none⟩, co, al, cl, ac, cc⟩ : Sl).ao ((setOrd B rI ⟨⟨#[90]⟩, (bX B rI).kind, (bX B rI).secs, (bX B rI).state⟩)).orders.length (⟨some ⟨K.G, 0, none⟩, co, al, cl, ac, cc⟩ : Sl).co, .slice (⟨some ⟨K.G, 0, none⟩, co, al, cl, ac, cc⟩ : Sl).al ((setOrd B rI ⟨⟨#[90]⟩, (bX B rI).kind, (bX B rI).secs, (bX B rI).state⟩)).locked.length (⟨some ⟨K.G, 0, none⟩, co, al, cl, ac, cc⟩ : Sl).cl, .slice (⟨some ⟨K.G, 0, none⟩, co, al, cl, ac, cc⟩ : Sl).ac ((setOrd B rI ⟨⟨#[90]⟩, (bX B rI).kind, (bX B rI).secs, (bX B rI).state⟩)).occ.length (⟨some ⟨K.G, 0, none⟩, co, al, cl, ac, cc⟩ : Sl).cc]) (by simp [results, Tryz.results37, go_sem, e0, e1, e2, e3]) rfl ?_
          exact DY.out.done HC.out (HL.out.setOrd hr _ ⟨(HL.out.2.1 rI hr).1, by have := (HL.out.2.1 rI hr).2.1; show (bX B rI).secs.length ≤ _; omega, (by show (ByteArray.mk _).size ≤ 20; decide)⟩) (by omega)
      · skip
        clear T15
        go_wp2_with fail
        obtain ⟨t18, ht18, hc18⟩ := D15.out.cur
        refine (pick_any p ad n c V t18 4 _ (by omega) hn (by omega) hc18).mono ?_
        clear hc18
        rintro e w18 ⟨⟨r18, rfl, hq18, hr18⟩, ⟨u18, hu18, hv18⟩, hf18⟩
        have D18 : Hid (BN w w18 p ad n c V t 8 B ⟨some ⟨K.G, 0, none⟩, co, al, cl, ac, cc⟩ K) := D15.out.step hp ⟨u18, by omega, hv18⟩ hf18
        clear hv18 hf18 ht18 hu18 D15
        clear zb zr p0 p1 p2 p3 e0 e1 e2 e3 f0 f1 f2 f3 h0 h1 h2 h3
        obtain ⟨⟨zb, zr⟩, ⟨p0, p1, p2, p3⟩, ⟨e0, e1, e2, e3⟩, ⟨f0, f1, f2, f3⟩, h0, h1, h2, h3⟩ := D18.out.facts
        dsimp only at p1 p2 p3
        clear hq18 hr18
        obtain ⟨⟨g0, g1, g2, g3, -⟩, gf, -⟩ := ord_facts D18.out.own hr
        have gf0 := gf (rI * 4)
        have gf1 := gf (rI * 4 + 1)
        have gf2 := gf (rI * 4 + 2)
        have gf3 := gf (rI * 4 + 3)
        clear gf
        have gl : K.G < w18.heap.size := World.block_lt_of_cell? _ _ g0
        go_upto_region 21 with (fail)
        have DY : Hid (BN w (w18.setCell ⟨K.G, rI * 4 + 1, none⟩ (.int .i64 (r18 : Int))) p ad n c V t 8 (setOrd B rI ⟨(bX B rI).holder, (r18 : Int), (bX B rI).secs, (bX B rI).state⟩) ⟨some ⟨K.G, 0, none⟩, co, al, cl, ac, cc⟩ K) := D18.out.turn HC.out (fr1 (Fr.refl _ _)) (fun x e => Or.inr (by omega)) ((Deep.blk_setCell_other _ _ _ _ (by show w.heap.size ≠ K.G; omega)).trans (D18.out.box.trans (by simp [setOrd]))) (by
          have q := D18.out.own.putOrd hr (j := 1) (by omega) (.int .i64 (r18 : Int)) ⟨(bX B rI).holder, (r18 : Int), (bX B rI).secs, (bX B rI).state⟩ rfl (fun r hr4 => by
            rcases (show r = 0 ∨ r = 1 ∨ r = 2 ∨ r = 3 by omega) with rfl | rfl | rfl | rfl <;> rfl)
          have e : bookV (setOrd B rI ⟨(bX B rI).holder, (r18 : Int), (bX B rI).secs, (bX B rI).state⟩) ⟨some ⟨K.G, 0, none⟩, co, al, cl, ac, cc⟩ = bookV B ⟨some ⟨K.G, 0, none⟩, co, al, cl, ac, cc⟩ := by simp [bookV, setOrd]
          rw [e]
          exact q)
        obtain ⟨Y, hY⟩ : ∃ Y, Y = (w18.setCell ⟨K.G, rI * 4 + 1, none⟩ (.int .i64 (r18 : Int))) := ⟨_, rfl⟩
        rw [← hY] at DY ⊢
        clear hY D18 g0 g1 g2 g3 gf0 gf1 gf2 gf3 gl
        clear zb zr p0 p1 p2 p3 e0 e1 e2 e3 f0 f1 f2 f3 h0 h1 h2 h3
        obtain ⟨⟨zb, zr⟩, ⟨p0, p1, p2, p3⟩, ⟨e0, e1, e2, e3⟩, ⟨f0, f1, f2, f3⟩, h0, h1, h2, h3⟩ := DY.out.facts
        dsimp only at p1 p2 p3
        go_wp2
        refine bodyPost_ret (v := .agg #[.int .i64 ((setOrd B rI ⟨(bX B rI).holder, (r18 : Int), (bX B rI).secs, (bX B rI).state⟩)).n, .slice (⟨some ⟨K.G, 0, none⟩, co, al, cl, ac, cc⟩ : Sl).ao ((setOrd B rI ⟨(bX B rI).holder, (r18 : Int), (bX B rI).secs, (bX B rI).state⟩)).orders.length (⟨some ⟨K.G, 0, none⟩, co, al, cl, ac, cc⟩ : Sl).co, .slice (⟨some ⟨K.G, 0, none⟩, co, al, cl, ac, cc⟩ : Sl).al ((setOrd B rI ⟨(bX B rI).holder, (r18 : Int), (bX B rI).secs, (bX B rI).state⟩)).locked.length (⟨some ⟨K.G, 0, none⟩, co, al, cl, ac, cc⟩ : Sl).cl, .slice (⟨some ⟨K.G, 0, none⟩, co, al, cl, ac, cc⟩ : Sl).ac ((setOrd B rI ⟨(bX B rI).holder, (r18 : Int), (bX B rI).secs, (bX B rI).state⟩)).occ.length (⟨some ⟨K.G, 0, none⟩, co, al, cl, ac, cc⟩ : Sl).cc]) (by simp [results, Tryz.results37, go_sem, e0, e1, e2, e3]) rfl ?_
        exact DY.out.done HC.out (HL.out.setOrd hr _ ⟨(HL.out.2.1 rI hr).1, by have := (HL.out.2.1 rI hr).2.1; show (bX B rI).secs.length ≤ _; omega, (HL.out.2.1 rI hr).2.2⟩) (by omega)
      · skip
        have hsp := (HL.out.2.1 rI hr).1
        have hs31 : (bX B rI).secs.length ≤ 31 := by have := (HL.out.2.1 rI hr).2.1; omega
        go_upto_region 7 with (fail)
        refine wp_region_held_drew (S := (fun _ => True)) (by kernel_rfl) trivial (fun hS0 => ?_)
        refine wpAnyH_take (i := 0) (v := ?_) rfl (by kernel_rfl) (by kernel_rfl) (by kernel_rfl) (fun _ _ _ h => h) (Or.inl ⟨by kernel_rfl, ?_⟩) (by assumption) ?_
        rotate_left 1
        · (intro w hSw; (try dsimp only at hSw); go_simp; try (with_reducible rfl))
        refine wpAnyH_take (i := 1) (v := ?_) rfl (by kernel_rfl) (by kernel_rfl) (by kernel_rfl) (fun _ _ _ h => h) (Or.inl ⟨by kernel_rfl, ?_⟩) (by assumption) ?_
        rotate_left 1
        · (intro w hSw; (try dsimp only at hSw); go_simp; try (with_reducible rfl))
        refine wpAnyH_take (i := 2) (v := ?_) rfl (by kernel_rfl) (by kernel_rfl) (by kernel_rfl) (fun _ _ _ h => h) (Or.inl ⟨by kernel_rfl, ?_⟩) (by assumption) ?_
        rotate_left 1
        · (intro w hSw; (try dsimp only at hSw); go_simp; try (with_reducible rfl))
        refine wpAnyH_take (i := 3) (v := ?_) rfl (by kernel_rfl) (by kernel_rfl) (by kernel_rfl) (fun _ _ _ h => h) (Or.inl ⟨by kernel_rfl, ?_⟩) (by assumption) ?_
        rotate_left 1
        · (intro w hSw; (try dsimp only at hSw); go_simp; try (with_reducible rfl))
        refine wpAnyH_take (i := 5) (v := ?_) rfl (by kernel_rfl) (by kernel_rfl) (by kernel_rfl) (fun _ _ _ h => h) (Or.inl ⟨by kernel_rfl, ?_⟩) (by assumption) ?_
        rotate_left 1
        · (intro w hSw; (try dsimp only at hSw); go_simp; try (with_reducible rfl))
        have DQ : Hid (BN w w15.drew p ad n c V t 6 B ⟨some ⟨K.G, 0, none⟩, co, al, cl, ac, cc⟩ K) := D15.out.below (Below.refl _ _).drew
        have TQ : Hid (TightB w15.drew B K cl) := ⟨fun q => T15.out.lock q, fun i hi q => T15.out.sec i hi q⟩
        clear D15 T15
        refine wpAnyH_ready (rs := [4, 6]) (by kernel_rfl) (by simp) ?_
        refine AllReadyH.cons rfl (fun Kx hK => ?_) (AllReadyH.cons rfl (fun Kx hK => ?_) (AllReadyH.nil))
        · skip
          have hsa : K.sa rI = some ⟨K.gs rI, 0, none⟩ := by
            obtain ⟨a1, a2, a3, a4, a5, a6, ee, hOo, -, -⟩ := DQ.out.own.shape
            exact (hOo.sec rI hr hsp).1
          obtain ⟨⟨g0, g1, g2, g3, -⟩, -, -⟩ := ord_facts DQ.out.own hr
          rw [hsa] at g2
          clear hsa g0 g1 g3
          have gl : K.G < w15.drew.heap.size := World.block_lt_of_cell? _ _ g2
          go_simp
          refine hK.out _ _ trivial (fun hSx => ?_)
          clear hK Kx hSx
          clear g2 gl
          refine wpAnyH_ready (rs := [6]) (by kernel_rfl) (by simp) ?_
          refine AllReadyH.cons rfl (fun Kx hK => ?_) (AllReadyH.nil)
          go_simp
          obtain ⟨t19, ht19, hc19⟩ := DQ.out.cur
          refine (pick_any p ad n c V t19 12 _ (by omega) hn (by omega) hc19).mono ?_
          clear hc19
          rintro e w19 ⟨⟨r19, rfl, hq19, hr19⟩, ⟨u19, hu19, hv19⟩, hf19⟩
          have D19 : Hid (BN w w19 p ad n c V t 8 B ⟨some ⟨K.G, 0, none⟩, co, al, cl, ac, cc⟩ K) := DQ.out.step hp ⟨u19, by omega, hv19⟩ hf19
          have T19 : Hid (TightB w19 B K cl) := ⟨fun q => (TQ.out.lock q).of_block (hf19.block _ (TQ.out.lock q).lt (fun e => by have : K.L = p := e; have := DQ.out.own.blocks_low (Or.inr (Or.inl ⟨q, rfl⟩)); omega)), fun i hi q => (TQ.out.sec i hi q).of_block (hf19.block _ (TQ.out.sec i hi q).lt (fun e => by have : K.gs i = p := e; have := DQ.out.own.blocks_low (Or.inl (Or.inr ⟨i, hi, q, rfl⟩)); omega))⟩
          clear hv19 hf19 ht19 hu19 DQ TQ
          clear zb zr p0 p1 p2 p3 e0 e1 e2 e3 f0 f1 f2 f3 h0 h1 h2 h3
          obtain ⟨⟨zb, zr⟩, ⟨p0, p1, p2, p3⟩, ⟨e0, e1, e2, e3⟩, ⟨f0, f1, f2, f3⟩, h0, h1, h2, h3⟩ := D19.out.facts
          dsimp only at p1 p2 p3
          clear hq19 hr19
          refine hK.out _ _ trivial (fun hSx => ?_)
          clear hK Kx hSx
          have hsa : K.sa rI = some ⟨K.gs rI, 0, none⟩ := by
            obtain ⟨a1, a2, a3, a4, a5, a6, ee, hOo, -, -⟩ := D19.out.own.shape
            exact (hOo.sec rI hr hsp).1
          obtain ⟨⟨g0, g1, g2, g3, -⟩, -, -⟩ := ord_facts D19.out.own hr
          rw [hsa] at g2
          clear hsa g0 g1 g3
          have gl : K.G < w19.heap.size := World.block_lt_of_cell? _ _ g2
          refine wpAnyH_ready (rs := [7]) (by kernel_rfl) (by simp) ?_
          refine AllReadyH.cons rfl (fun Kx hK => ?_) (AllReadyH.nil)
          go_simp
          have bq := below1 w19 (.cells #[.int .i64 (r19 : Int)] 3)
          have DA : Hid (BN w (w19.alloc (.cells #[.int .i64 (r19 : Int)] 3)) p ad n c V t 8 B ⟨some ⟨K.G, 0, none⟩, co, al, cl, ac, cc⟩ K) := D19.out.below bq
          have TA0 : Hid (TightB (w19.alloc (.cells #[.int .i64 (r19 : Int)] 3)) B K cl) := ⟨fun q => (T19.out.lock q).of_block (bq.block _ (T19.out.lock q).lt), fun i hi q => (T19.out.sec i hi q).of_block (bq.block _ (T19.out.sec i hi q).lt)⟩
          have xa : (w19.alloc (.cells #[.int .i64 (r19 : Int)] 3)).heap[w19.heap.size]? = some (.cells #[.int .i64 (r19 : Int)] 3 (0, 0)) := Deep.blk_alloc_new _ _
          have za : (w19.alloc (.cells #[.int .i64 (r19 : Int)] 3)).heap.size = w19.heap.size + 1 := alloc_size _ _
          have zw : w.heap.size + 1 < w19.heap.size := zr
          obtain ⟨WA, hWA⟩ : ∃ x, x = (w19.alloc (.cells #[.int .i64 (r19 : Int)] 3)) := ⟨_, rfl⟩
          rw [← hWA] at DA TA0 xa za ⊢
          clear hWA bq D19 T19
          clear zb zr p0 p1 p2 p3 e0 e1 e2 e3 f0 f1 f2 f3 h0 h1 h2 h3
          obtain ⟨⟨zb, zr⟩, ⟨p0, p1, p2, p3⟩, ⟨e0, e1, e2, e3⟩, ⟨f0, f1, f2, f3⟩, h0, h1, h2, h3⟩ := DA.out.facts
          dsimp only at p1 p2 p3
          refine hK.out _ _ trivial (fun hSx => ?_)
          clear hK Kx hSx
          have e9 : (List.range (bX B rI).secs.length).map (iV (bX B rI).secs) = (bX B rI).secs.map (Value.int .i64) := by
            refine List.ext_getElem? (fun i => ?_)
            by_cases hi : i < (bX B rI).secs.length
            · simp [iV, hi]
            · simp [hi]
          have rw0 : WA.ownsRow (w.heap.size + 2) 3 1 (.slice (some ⟨K.gs rI, 0, none⟩) (bX B rI).secs.length (K.sc rI)) (bX B rI).secs.length ((bX B rI).secs.map (Value.int .i64)) := by
            obtain ⟨a1, a2, a3, a4, a5, a6, ee, hOo, -, -⟩ := DA.out.own.shape
            rw [← e9]
            exact owns_of_tight (TA0.out.sec rI hr hsp) (hOo.sec rI hr hsp).2 (hOo.slow rI hr hsp).1
          have n4 : ∀ j u', [Value.int .i64 (r19 : Int)][j]? = some u' → WA.cell? ((⟨w19.heap.size, 0, none⟩ : Addr).add j) = some u' := by
            intro j u' hu
            rw [add0]
            refine cell_of_box xa ?_
            rw [← Array.getElem?_toList]
            exact hu
          refine wpAnyH_ready (rs := [8]) (by kernel_rfl) (by simp) ?_
          refine AllReadyH.cons rfl (fun Kx hK => ?_) (AllReadyH.nil)
          refine wp_append_row _ _ 30 rfl (w.heap.size + 2) 3 i0 _ 1 8 Tryz.underlying30 hi hz0 hz1 hz2 rfl (by decide) (.slice (some ⟨K.gs rI, 0, none⟩) (bX B rI).secs.length (K.sc rI)) (bX B rI).secs.length ((bX B rI).secs.map (Value.int .i64)) rfl rw0 ⟨w19.heap.size, 0, none⟩ 1 1 [.int .i64 (r19 : Int)] rfl rfl n4 ?_ (by unfold maxLen; omega) (by omega) (by omega) ?_
          · intro x hx
            simp only [List.mem_singleton] at hx
            subst hx
            rfl
          intro vU wU hownU hgU _ hbU
          have hownL : wU.ownsRow (w.heap.size + 2) 3 1 vU ((bX B rI).secs ++ [(r19 : Int)]).length (((bX B rI).secs ++ [(r19 : Int)]).map (Value.int .i64)) := by simpa using hownU
          obtain ⟨gU, aU, cU, rfl, -⟩ := ownL_of hownL
          obtain ⟨K', hOU, -⟩ := DA.out.own.pushSec hr hsp hownL hgU hbU
          obtain ⟨L, hL, HL32⟩ : ∃ L : List Int, L = (bX B rI).secs ++ [(r19 : Int)] ∧ Hid (L.length = (bX B rI).secs.length + 1) := ⟨_, rfl, (show _ = _ by simp)⟩
          rw [← hL] at hOU ⊢
          have fU : Fr (fun x => x = K.gs rI) WA wU := ⟨hgU.os, hgU.tape, hgU.output, hgU.size, fun j hj hn' => hgU.block j hj (fun e => hn' (Option.some.inj e))⟩
          have hsl : w.heap.size + 2 ≤ K.gs rI ∧ K.gs rI ≠ K.G := by
            obtain ⟨a1, a2, a3, a4, a5, a6, ee, hOo, -, -⟩ := DA.out.own.shape
            exact hOo.slow rI hr hsp
          have prG : ∃ f, Pre wU K.G 41 (B.orders.length * 4) f := by
            obtain ⟨a1, a2, a3, a4, a5, a6, ee, hOo, -, -⟩ := DA.out.own.shape
            exact ⟨_, fU.row (hOo.row hpos) (fun e => hsl.2 e.symm)⟩
          obtain ⟨fG, prG⟩ := prG
          have o2 := prG.cell (i := rI * 4 + 2) (by omega)
          have u2 := prG.frozen (rI * 4 + 2)
          have zG : K.G < wU.heap.size := prG.lt
          have xU := (fU.block w.heap.size (by omega) (fun e => by have e2 : w.heap.size = K.gs rI := e; omega)).trans DA.out.box
          have XU : Hid (wU.heap[w.heap.size]? = some (.cells #[.int .i64 B.n, .slice (⟨some ⟨K.G, 0, none⟩, co, al, cl, ac, cc⟩ : Sl).ao B.orders.length (⟨some ⟨K.G, 0, none⟩, co, al, cl, ac, cc⟩ : Sl).co, .slice (⟨some ⟨K.G, 0, none⟩, co, al, cl, ac, cc⟩ : Sl).al B.locked.length (⟨some ⟨K.G, 0, none⟩, co, al, cl, ac, cc⟩ : Sl).cl, .slice (⟨some ⟨K.G, 0, none⟩, co, al, cl, ac, cc⟩ : Sl).ac B.occ.length (⟨some ⟨K.G, 0, none⟩, co, al, cl, ac, cc⟩ : Sl).cc] 37 (0, 0)) ∧ Fr (fun x => x = K.gs rI) WA wU ∧ OwnBook (wU.setCell ⟨K.G, rI * 4 + 2, none⟩ (.slice aU L.length cU)) (w.heap.size + 2) (bookV B ⟨some ⟨K.G, 0, none⟩, co, al, cl, ac, cc⟩) (setOrd B rI ⟨(bX B rI).holder, (bX B rI).kind, L, (bX B rI).state⟩) K' ∧ w.heap.size + 2 ≤ K.gs rI) := ⟨xU, fU, hOU, hsl.1⟩
          clear hownU hownL hgU hbU n4 rw0 hOU fU xU xa za e9 prG hsl hL g2 gl TA0 zb zr p0 p1 p2 p3 e0 e1 e2 e3 f0 f1 f2 f3 h0 h1 h2 h3
          refine hK.out _ _ trivial (fun hSx => ?_)
          clear hK Kx hSx
          refine wpAnyH_take (i := 9) (v := ?_) rfl (by kernel_rfl) (by kernel_rfl) (by kernel_rfl) (fun _ _ _ h => h) (Or.inl ⟨by kernel_rfl, ?_⟩) (by assumption) ?_
          rotate_left 1
          · (intro w hSw; (try dsimp only at hSw); go_simp; try (with_reducible rfl))
          refine wpAnyH_take (i := 10) (v := ?_) rfl (by kernel_rfl) (by kernel_rfl) (by kernel_rfl) (fun _ _ _ h => h) (Or.inl ⟨by kernel_rfl, ?_⟩) (by assumption) ?_
          rotate_left 1
          · (intro w hSw; (try dsimp only at hSw); go_simp; try (with_reducible rfl))
          refine wpAnyH_ready (rs := [11]) (by kernel_rfl) (by simp) ?_
          refine AllReadyH.cons rfl (fun Kx hK => ?_) (AllReadyH.nil)
          go_simp
          refine hK.out _ _ trivial (fun hSx => ?_)
          clear hK Kx hSx
          refine wpAnyH_done (by kernel_rfl) ?_ _
          go_simp
          go_upto_region 21 with (fail)
          have DY : Hid (BN w (wU.setCell ⟨K.G, rI * 4 + 2, none⟩ (.slice aU L.length cU)) p ad n c V t 8 (setOrd B rI ⟨(bX B rI).holder, (bX B rI).kind, L, (bX B rI).state⟩) ⟨some ⟨K.G, 0, none⟩, co, al, cl, ac, cc⟩ K') := DA.out.turn HC.out (XU.out.2.1.mono (T := fun x => x = K.gs rI ∨ x = K.G) (fun i e => Or.inl e) |>.trans (fr1 (P := K.G) (Fr.refl _ _) |>.mono (fun i e => Or.inr e))) (fun x e => by have := XU.out.2.2.2; omega) ((Deep.blk_setCell_other _ _ _ _ (by show w.heap.size ≠ K.G; omega)).trans (XU.out.1.trans (by simp [setOrd]))) (by
            have e : bookV (setOrd B rI ⟨(bX B rI).holder, (bX B rI).kind, L, (bX B rI).state⟩) ⟨some ⟨K.G, 0, none⟩, co, al, cl, ac, cc⟩ = bookV B ⟨some ⟨K.G, 0, none⟩, co, al, cl, ac, cc⟩ := by simp [bookV, setOrd]
            rw [e]
            exact XU.out.2.2.1)
          obtain ⟨Y, hY⟩ : ∃ Y, Y = (wU.setCell ⟨K.G, rI * 4 + 2, none⟩ (.slice aU L.length cU)) := ⟨_, rfl⟩
          rw [← hY] at DY ⊢
          clear hY DA o2 u2 zG zw
          obtain ⟨⟨zb, zr⟩, ⟨p0, p1, p2, p3⟩, ⟨e0, e1, e2, e3⟩, ⟨f0, f1, f2, f3⟩, h0, h1, h2, h3⟩ := DY.out.facts
          dsimp only at p1 p2 p3
          go_wp2
          refine bodyPost_ret (v := .agg #[.int .i64 ((setOrd B rI ⟨(bX B rI).holder, (bX B rI).kind, L, (bX B rI).state⟩)).n, .slice (⟨some ⟨K.G, 0, none⟩, co, al, cl, ac, cc⟩ : Sl).ao ((setOrd B rI ⟨(bX B rI).holder, (bX B rI).kind, L, (bX B rI).state⟩)).orders.length (⟨some ⟨K.G, 0, none⟩, co, al, cl, ac, cc⟩ : Sl).co, .slice (⟨some ⟨K.G, 0, none⟩, co, al, cl, ac, cc⟩ : Sl).al ((setOrd B rI ⟨(bX B rI).holder, (bX B rI).kind, L, (bX B rI).state⟩)).locked.length (⟨some ⟨K.G, 0, none⟩, co, al, cl, ac, cc⟩ : Sl).cl, .slice (⟨some ⟨K.G, 0, none⟩, co, al, cl, ac, cc⟩ : Sl).ac ((setOrd B rI ⟨(bX B rI).holder, (bX B rI).kind, L, (bX B rI).state⟩)).occ.length (⟨some ⟨K.G, 0, none⟩, co, al, cl, ac, cc⟩ : Sl).cc]) (by simp [results, Tryz.results37, go_sem, e0, e1, e2, e3]) rfl ?_
          exact DY.out.done HC.out (HL.out.setOrd hr _ ⟨by have := HL32.out; show 0 < L.length; omega, by have := HL32.out; have := (HL.out.2.1 rI hr).2.1; show L.length ≤ _; omega, (HL.out.2.1 rI hr).2.2⟩) (by omega)
        · skip
          go_simp
          obtain ⟨t20, ht20, hc20⟩ := DQ.out.cur
          refine (pick_any p ad n c V t20 12 _ (by omega) hn (by omega) hc20).mono ?_
          clear hc20
          rintro e w20 ⟨⟨r20, rfl, hq20, hr20⟩, ⟨u20, hu20, hv20⟩, hf20⟩
          have D20 : Hid (BN w w20 p ad n c V t 8 B ⟨some ⟨K.G, 0, none⟩, co, al, cl, ac, cc⟩ K) := DQ.out.step hp ⟨u20, by omega, hv20⟩ hf20
          have T20 : Hid (TightB w20 B K cl) := ⟨fun q => (TQ.out.lock q).of_block (hf20.block _ (TQ.out.lock q).lt (fun e => by have : K.L = p := e; have := DQ.out.own.blocks_low (Or.inr (Or.inl ⟨q, rfl⟩)); omega)), fun i hi q => (TQ.out.sec i hi q).of_block (hf20.block _ (TQ.out.sec i hi q).lt (fun e => by have : K.gs i = p := e; have := DQ.out.own.blocks_low (Or.inl (Or.inr ⟨i, hi, q, rfl⟩)); omega))⟩
          clear hv20 hf20 ht20 hu20 DQ TQ
          clear zb zr p0 p1 p2 p3 e0 e1 e2 e3 f0 f1 f2 f3 h0 h1 h2 h3
          obtain ⟨⟨zb, zr⟩, ⟨p0, p1, p2, p3⟩, ⟨e0, e1, e2, e3⟩, ⟨f0, f1, f2, f3⟩, h0, h1, h2, h3⟩ := D20.out.facts
          dsimp only at p1 p2 p3
          clear hq20 hr20
          refine hK.out _ _ trivial (fun hSx => ?_)
          clear hK Kx hSx
          have hsa : K.sa rI = some ⟨K.gs rI, 0, none⟩ := by
            obtain ⟨a1, a2, a3, a4, a5, a6, ee, hOo, -, -⟩ := D20.out.own.shape
            exact (hOo.sec rI hr hsp).1
          obtain ⟨⟨g0, g1, g2, g3, -⟩, -, -⟩ := ord_facts D20.out.own hr
          rw [hsa] at g2
          clear hsa g0 g1 g3
          have gl : K.G < w20.heap.size := World.block_lt_of_cell? _ _ g2
          refine wpAnyH_ready (rs := [4, 7]) (by kernel_rfl) (by simp) ?_
          refine AllReadyH.cons rfl (fun Kx hK => ?_) (AllReadyH.cons rfl (fun Kx hK => ?_) (AllReadyH.nil))
          · skip
            go_simp
            refine hK.out _ _ trivial (fun hSx => ?_)
            clear hK Kx hSx
            refine wpAnyH_ready (rs := [7]) (by kernel_rfl) (by simp) ?_
            refine AllReadyH.cons rfl (fun Kx hK => ?_) (AllReadyH.nil)
            go_simp
            have bq := below1 w20 (.cells #[.int .i64 (r20 : Int)] 3)
            have DA : Hid (BN w (w20.alloc (.cells #[.int .i64 (r20 : Int)] 3)) p ad n c V t 8 B ⟨some ⟨K.G, 0, none⟩, co, al, cl, ac, cc⟩ K) := D20.out.below bq
            have TA0 : Hid (TightB (w20.alloc (.cells #[.int .i64 (r20 : Int)] 3)) B K cl) := ⟨fun q => (T20.out.lock q).of_block (bq.block _ (T20.out.lock q).lt), fun i hi q => (T20.out.sec i hi q).of_block (bq.block _ (T20.out.sec i hi q).lt)⟩
            have xa : (w20.alloc (.cells #[.int .i64 (r20 : Int)] 3)).heap[w20.heap.size]? = some (.cells #[.int .i64 (r20 : Int)] 3 (0, 0)) := Deep.blk_alloc_new _ _
            have za : (w20.alloc (.cells #[.int .i64 (r20 : Int)] 3)).heap.size = w20.heap.size + 1 := alloc_size _ _
            have zw : w.heap.size + 1 < w20.heap.size := zr
            obtain ⟨WA, hWA⟩ : ∃ x, x = (w20.alloc (.cells #[.int .i64 (r20 : Int)] 3)) := ⟨_, rfl⟩
            rw [← hWA] at DA TA0 xa za ⊢
            clear hWA bq D20 T20
            clear zb zr p0 p1 p2 p3 e0 e1 e2 e3 f0 f1 f2 f3 h0 h1 h2 h3
            obtain ⟨⟨zb, zr⟩, ⟨p0, p1, p2, p3⟩, ⟨e0, e1, e2, e3⟩, ⟨f0, f1, f2, f3⟩, h0, h1, h2, h3⟩ := DA.out.facts
            dsimp only at p1 p2 p3
            refine hK.out _ _ trivial (fun hSx => ?_)
            clear hK Kx hSx
            have e9 : (List.range (bX B rI).secs.length).map (iV (bX B rI).secs) = (bX B rI).secs.map (Value.int .i64) := by
              refine List.ext_getElem? (fun i => ?_)
              by_cases hi : i < (bX B rI).secs.length
              · simp [iV, hi]
              · simp [hi]
            have rw0 : WA.ownsRow (w.heap.size + 2) 3 1 (.slice (some ⟨K.gs rI, 0, none⟩) (bX B rI).secs.length (K.sc rI)) (bX B rI).secs.length ((bX B rI).secs.map (Value.int .i64)) := by
              obtain ⟨a1, a2, a3, a4, a5, a6, ee, hOo, -, -⟩ := DA.out.own.shape
              rw [← e9]
              exact owns_of_tight (TA0.out.sec rI hr hsp) (hOo.sec rI hr hsp).2 (hOo.slow rI hr hsp).1
            have n4 : ∀ j u', [Value.int .i64 (r20 : Int)][j]? = some u' → WA.cell? ((⟨w20.heap.size, 0, none⟩ : Addr).add j) = some u' := by
              intro j u' hu
              rw [add0]
              refine cell_of_box xa ?_
              rw [← Array.getElem?_toList]
              exact hu
            refine wpAnyH_ready (rs := [8]) (by kernel_rfl) (by simp) ?_
            refine AllReadyH.cons rfl (fun Kx hK => ?_) (AllReadyH.nil)
            refine wp_append_row _ _ 30 rfl (w.heap.size + 2) 3 i0 _ 1 8 Tryz.underlying30 hi hz0 hz1 hz2 rfl (by decide) (.slice (some ⟨K.gs rI, 0, none⟩) (bX B rI).secs.length (K.sc rI)) (bX B rI).secs.length ((bX B rI).secs.map (Value.int .i64)) rfl rw0 ⟨w20.heap.size, 0, none⟩ 1 1 [.int .i64 (r20 : Int)] rfl rfl n4 ?_ (by unfold maxLen; omega) (by omega) (by omega) ?_
            · intro x hx
              simp only [List.mem_singleton] at hx
              subst hx
              rfl
            intro vU wU hownU hgU _ hbU
            have hownL : wU.ownsRow (w.heap.size + 2) 3 1 vU ((bX B rI).secs ++ [(r20 : Int)]).length (((bX B rI).secs ++ [(r20 : Int)]).map (Value.int .i64)) := by simpa using hownU
            obtain ⟨gU, aU, cU, rfl, -⟩ := ownL_of hownL
            obtain ⟨K', hOU, -⟩ := DA.out.own.pushSec hr hsp hownL hgU hbU
            obtain ⟨L, hL, HL32⟩ : ∃ L : List Int, L = (bX B rI).secs ++ [(r20 : Int)] ∧ Hid (L.length = (bX B rI).secs.length + 1) := ⟨_, rfl, (show _ = _ by simp)⟩
            rw [← hL] at hOU ⊢
            have fU : Fr (fun x => x = K.gs rI) WA wU := ⟨hgU.os, hgU.tape, hgU.output, hgU.size, fun j hj hn' => hgU.block j hj (fun e => hn' (Option.some.inj e))⟩
            have hsl : w.heap.size + 2 ≤ K.gs rI ∧ K.gs rI ≠ K.G := by
              obtain ⟨a1, a2, a3, a4, a5, a6, ee, hOo, -, -⟩ := DA.out.own.shape
              exact hOo.slow rI hr hsp
            have prG : ∃ f, Pre wU K.G 41 (B.orders.length * 4) f := by
              obtain ⟨a1, a2, a3, a4, a5, a6, ee, hOo, -, -⟩ := DA.out.own.shape
              exact ⟨_, fU.row (hOo.row hpos) (fun e => hsl.2 e.symm)⟩
            obtain ⟨fG, prG⟩ := prG
            have o2 := prG.cell (i := rI * 4 + 2) (by omega)
            have u2 := prG.frozen (rI * 4 + 2)
            have zG : K.G < wU.heap.size := prG.lt
            have xU := (fU.block w.heap.size (by omega) (fun e => by have e2 : w.heap.size = K.gs rI := e; omega)).trans DA.out.box
            have XU : Hid (wU.heap[w.heap.size]? = some (.cells #[.int .i64 B.n, .slice (⟨some ⟨K.G, 0, none⟩, co, al, cl, ac, cc⟩ : Sl).ao B.orders.length (⟨some ⟨K.G, 0, none⟩, co, al, cl, ac, cc⟩ : Sl).co, .slice (⟨some ⟨K.G, 0, none⟩, co, al, cl, ac, cc⟩ : Sl).al B.locked.length (⟨some ⟨K.G, 0, none⟩, co, al, cl, ac, cc⟩ : Sl).cl, .slice (⟨some ⟨K.G, 0, none⟩, co, al, cl, ac, cc⟩ : Sl).ac B.occ.length (⟨some ⟨K.G, 0, none⟩, co, al, cl, ac, cc⟩ : Sl).cc] 37 (0, 0)) ∧ Fr (fun x => x = K.gs rI) WA wU ∧ OwnBook (wU.setCell ⟨K.G, rI * 4 + 2, none⟩ (.slice aU L.length cU)) (w.heap.size + 2) (bookV B ⟨some ⟨K.G, 0, none⟩, co, al, cl, ac, cc⟩) (setOrd B rI ⟨(bX B rI).holder, (bX B rI).kind, L, (bX B rI).state⟩) K' ∧ w.heap.size + 2 ≤ K.gs rI) := ⟨xU, fU, hOU, hsl.1⟩
            clear hownU hownL hgU hbU n4 rw0 hOU fU xU xa za e9 prG hsl hL g2 gl TA0 zb zr p0 p1 p2 p3 e0 e1 e2 e3 f0 f1 f2 f3 h0 h1 h2 h3
            refine hK.out _ _ trivial (fun hSx => ?_)
            clear hK Kx hSx
            refine wpAnyH_take (i := 9) (v := ?_) rfl (by kernel_rfl) (by kernel_rfl) (by kernel_rfl) (fun _ _ _ h => h) (Or.inl ⟨by kernel_rfl, ?_⟩) (by assumption) ?_
            rotate_left 1
            · (intro w hSw; (try dsimp only at hSw); go_simp; try (with_reducible rfl))
            refine wpAnyH_take (i := 10) (v := ?_) rfl (by kernel_rfl) (by kernel_rfl) (by kernel_rfl) (fun _ _ _ h => h) (Or.inl ⟨by kernel_rfl, ?_⟩) (by assumption) ?_
            rotate_left 1
            · (intro w hSw; (try dsimp only at hSw); go_simp; try (with_reducible rfl))
            refine wpAnyH_ready (rs := [11]) (by kernel_rfl) (by simp) ?_
            refine AllReadyH.cons rfl (fun Kx hK => ?_) (AllReadyH.nil)
            go_simp
            refine hK.out _ _ trivial (fun hSx => ?_)
            clear hK Kx hSx
            refine wpAnyH_done (by kernel_rfl) ?_ _
            go_simp
            go_upto_region 21 with (fail)
            have DY : Hid (BN w (wU.setCell ⟨K.G, rI * 4 + 2, none⟩ (.slice aU L.length cU)) p ad n c V t 8 (setOrd B rI ⟨(bX B rI).holder, (bX B rI).kind, L, (bX B rI).state⟩) ⟨some ⟨K.G, 0, none⟩, co, al, cl, ac, cc⟩ K') := DA.out.turn HC.out (XU.out.2.1.mono (T := fun x => x = K.gs rI ∨ x = K.G) (fun i e => Or.inl e) |>.trans (fr1 (P := K.G) (Fr.refl _ _) |>.mono (fun i e => Or.inr e))) (fun x e => by have := XU.out.2.2.2; omega) ((Deep.blk_setCell_other _ _ _ _ (by show w.heap.size ≠ K.G; omega)).trans (XU.out.1.trans (by simp [setOrd]))) (by
              have e : bookV (setOrd B rI ⟨(bX B rI).holder, (bX B rI).kind, L, (bX B rI).state⟩) ⟨some ⟨K.G, 0, none⟩, co, al, cl, ac, cc⟩ = bookV B ⟨some ⟨K.G, 0, none⟩, co, al, cl, ac, cc⟩ := by simp [bookV, setOrd]
              rw [e]
              exact XU.out.2.2.1)
            obtain ⟨Y, hY⟩ : ∃ Y, Y = (wU.setCell ⟨K.G, rI * 4 + 2, none⟩ (.slice aU L.length cU)) := ⟨_, rfl⟩
            rw [← hY] at DY ⊢
            clear hY DA o2 u2 zG zw
            obtain ⟨⟨zb, zr⟩, ⟨p0, p1, p2, p3⟩, ⟨e0, e1, e2, e3⟩, ⟨f0, f1, f2, f3⟩, h0, h1, h2, h3⟩ := DY.out.facts
            dsimp only at p1 p2 p3
            go_wp2
            refine bodyPost_ret (v := .agg #[.int .i64 ((setOrd B rI ⟨(bX B rI).holder, (bX B rI).kind, L, (bX B rI).state⟩)).n, .slice (⟨some ⟨K.G, 0, none⟩, co, al, cl, ac, cc⟩ : Sl).ao ((setOrd B rI ⟨(bX B rI).holder, (bX B rI).kind, L, (bX B rI).state⟩)).orders.length (⟨some ⟨K.G, 0, none⟩, co, al, cl, ac, cc⟩ : Sl).co, .slice (⟨some ⟨K.G, 0, none⟩, co, al, cl, ac, cc⟩ : Sl).al ((setOrd B rI ⟨(bX B rI).holder, (bX B rI).kind, L, (bX B rI).state⟩)).locked.length (⟨some ⟨K.G, 0, none⟩, co, al, cl, ac, cc⟩ : Sl).cl, .slice (⟨some ⟨K.G, 0, none⟩, co, al, cl, ac, cc⟩ : Sl).ac ((setOrd B rI ⟨(bX B rI).holder, (bX B rI).kind, L, (bX B rI).state⟩)).occ.length (⟨some ⟨K.G, 0, none⟩, co, al, cl, ac, cc⟩ : Sl).cc]) (by simp [results, Tryz.results37, go_sem, e0, e1, e2, e3]) rfl ?_
            exact DY.out.done HC.out (HL.out.setOrd hr _ ⟨by have := HL32.out; show 0 < L.length; omega, by have := HL32.out; have := (HL.out.2.1 rI hr).2.1; show L.length ≤ _; omega, (HL.out.2.1 rI hr).2.2⟩) (by omega)
          · skip
            clear g2 gl
            go_simp
            have bq := below1 w20 (.cells #[.int .i64 (r20 : Int)] 3)
            have DA : Hid (BN w (w20.alloc (.cells #[.int .i64 (r20 : Int)] 3)) p ad n c V t 8 B ⟨some ⟨K.G, 0, none⟩, co, al, cl, ac, cc⟩ K) := D20.out.below bq
            have TA0 : Hid (TightB (w20.alloc (.cells #[.int .i64 (r20 : Int)] 3)) B K cl) := ⟨fun q => (T20.out.lock q).of_block (bq.block _ (T20.out.lock q).lt), fun i hi q => (T20.out.sec i hi q).of_block (bq.block _ (T20.out.sec i hi q).lt)⟩
            have xa : (w20.alloc (.cells #[.int .i64 (r20 : Int)] 3)).heap[w20.heap.size]? = some (.cells #[.int .i64 (r20 : Int)] 3 (0, 0)) := Deep.blk_alloc_new _ _
            have za : (w20.alloc (.cells #[.int .i64 (r20 : Int)] 3)).heap.size = w20.heap.size + 1 := alloc_size _ _
            have zw : w.heap.size + 1 < w20.heap.size := zr
            obtain ⟨WA, hWA⟩ : ∃ x, x = (w20.alloc (.cells #[.int .i64 (r20 : Int)] 3)) := ⟨_, rfl⟩
            rw [← hWA] at DA TA0 xa za ⊢
            clear hWA bq D20 T20
            clear zb zr p0 p1 p2 p3 e0 e1 e2 e3 f0 f1 f2 f3 h0 h1 h2 h3
            obtain ⟨⟨zb, zr⟩, ⟨p0, p1, p2, p3⟩, ⟨e0, e1, e2, e3⟩, ⟨f0, f1, f2, f3⟩, h0, h1, h2, h3⟩ := DA.out.facts
            dsimp only at p1 p2 p3
            refine hK.out _ _ trivial (fun hSx => ?_)
            clear hK Kx hSx
            refine wpAnyH_ready (rs := [4]) (by kernel_rfl) (by simp) ?_
            refine AllReadyH.cons rfl (fun Kx hK => ?_) (AllReadyH.nil)
            have hsa : K.sa rI = some ⟨K.gs rI, 0, none⟩ := by
              obtain ⟨a1, a2, a3, a4, a5, a6, ee, hOo, -, -⟩ := DA.out.own.shape
              exact (hOo.sec rI hr hsp).1
            obtain ⟨⟨g0, g1, g2, g3, -⟩, -, -⟩ := ord_facts DA.out.own hr
            rw [hsa] at g2
            clear hsa g0 g1 g3
            have gl : K.G < WA.heap.size := World.block_lt_of_cell? _ _ g2
            go_simp
            refine hK.out _ _ trivial (fun hSx => ?_)
            clear hK Kx hSx
            have e9 : (List.range (bX B rI).secs.length).map (iV (bX B rI).secs) = (bX B rI).secs.map (Value.int .i64) := by
              refine List.ext_getElem? (fun i => ?_)
              by_cases hi : i < (bX B rI).secs.length
              · simp [iV, hi]
              · simp [hi]
            have rw0 : WA.ownsRow (w.heap.size + 2) 3 1 (.slice (some ⟨K.gs rI, 0, none⟩) (bX B rI).secs.length (K.sc rI)) (bX B rI).secs.length ((bX B rI).secs.map (Value.int .i64)) := by
              obtain ⟨a1, a2, a3, a4, a5, a6, ee, hOo, -, -⟩ := DA.out.own.shape
              rw [← e9]
              exact owns_of_tight (TA0.out.sec rI hr hsp) (hOo.sec rI hr hsp).2 (hOo.slow rI hr hsp).1
            have n4 : ∀ j u', [Value.int .i64 (r20 : Int)][j]? = some u' → WA.cell? ((⟨w20.heap.size, 0, none⟩ : Addr).add j) = some u' := by
              intro j u' hu
              rw [add0]
              refine cell_of_box xa ?_
              rw [← Array.getElem?_toList]
              exact hu
            refine wpAnyH_ready (rs := [8]) (by kernel_rfl) (by simp) ?_
            refine AllReadyH.cons rfl (fun Kx hK => ?_) (AllReadyH.nil)
            refine wp_append_row _ _ 30 rfl (w.heap.size + 2) 3 i0 _ 1 8 Tryz.underlying30 hi hz0 hz1 hz2 rfl (by decide) (.slice (some ⟨K.gs rI, 0, none⟩) (bX B rI).secs.length (K.sc rI)) (bX B rI).secs.length ((bX B rI).secs.map (Value.int .i64)) rfl rw0 ⟨w20.heap.size, 0, none⟩ 1 1 [.int .i64 (r20 : Int)] rfl rfl n4 ?_ (by unfold maxLen; omega) (by omega) (by omega) ?_
            · intro x hx
              simp only [List.mem_singleton] at hx
              subst hx
              rfl
            intro vU wU hownU hgU _ hbU
            have hownL : wU.ownsRow (w.heap.size + 2) 3 1 vU ((bX B rI).secs ++ [(r20 : Int)]).length (((bX B rI).secs ++ [(r20 : Int)]).map (Value.int .i64)) := by simpa using hownU
            obtain ⟨gU, aU, cU, rfl, -⟩ := ownL_of hownL
            obtain ⟨K', hOU, -⟩ := DA.out.own.pushSec hr hsp hownL hgU hbU
            obtain ⟨L, hL, HL32⟩ : ∃ L : List Int, L = (bX B rI).secs ++ [(r20 : Int)] ∧ Hid (L.length = (bX B rI).secs.length + 1) := ⟨_, rfl, (show _ = _ by simp)⟩
            rw [← hL] at hOU ⊢
            have fU : Fr (fun x => x = K.gs rI) WA wU := ⟨hgU.os, hgU.tape, hgU.output, hgU.size, fun j hj hn' => hgU.block j hj (fun e => hn' (Option.some.inj e))⟩
            have hsl : w.heap.size + 2 ≤ K.gs rI ∧ K.gs rI ≠ K.G := by
              obtain ⟨a1, a2, a3, a4, a5, a6, ee, hOo, -, -⟩ := DA.out.own.shape
              exact hOo.slow rI hr hsp
            have prG : ∃ f, Pre wU K.G 41 (B.orders.length * 4) f := by
              obtain ⟨a1, a2, a3, a4, a5, a6, ee, hOo, -, -⟩ := DA.out.own.shape
              exact ⟨_, fU.row (hOo.row hpos) (fun e => hsl.2 e.symm)⟩
            obtain ⟨fG, prG⟩ := prG
            have o2 := prG.cell (i := rI * 4 + 2) (by omega)
            have u2 := prG.frozen (rI * 4 + 2)
            have zG : K.G < wU.heap.size := prG.lt
            have xU := (fU.block w.heap.size (by omega) (fun e => by have e2 : w.heap.size = K.gs rI := e; omega)).trans DA.out.box
            have XU : Hid (wU.heap[w.heap.size]? = some (.cells #[.int .i64 B.n, .slice (⟨some ⟨K.G, 0, none⟩, co, al, cl, ac, cc⟩ : Sl).ao B.orders.length (⟨some ⟨K.G, 0, none⟩, co, al, cl, ac, cc⟩ : Sl).co, .slice (⟨some ⟨K.G, 0, none⟩, co, al, cl, ac, cc⟩ : Sl).al B.locked.length (⟨some ⟨K.G, 0, none⟩, co, al, cl, ac, cc⟩ : Sl).cl, .slice (⟨some ⟨K.G, 0, none⟩, co, al, cl, ac, cc⟩ : Sl).ac B.occ.length (⟨some ⟨K.G, 0, none⟩, co, al, cl, ac, cc⟩ : Sl).cc] 37 (0, 0)) ∧ Fr (fun x => x = K.gs rI) WA wU ∧ OwnBook (wU.setCell ⟨K.G, rI * 4 + 2, none⟩ (.slice aU L.length cU)) (w.heap.size + 2) (bookV B ⟨some ⟨K.G, 0, none⟩, co, al, cl, ac, cc⟩) (setOrd B rI ⟨(bX B rI).holder, (bX B rI).kind, L, (bX B rI).state⟩) K' ∧ w.heap.size + 2 ≤ K.gs rI) := ⟨xU, fU, hOU, hsl.1⟩
            clear hownU hownL hgU hbU n4 rw0 hOU fU xU xa za e9 prG hsl hL g2 gl TA0 zb zr p0 p1 p2 p3 e0 e1 e2 e3 f0 f1 f2 f3 h0 h1 h2 h3
            refine hK.out _ _ trivial (fun hSx => ?_)
            clear hK Kx hSx
            refine wpAnyH_take (i := 9) (v := ?_) rfl (by kernel_rfl) (by kernel_rfl) (by kernel_rfl) (fun _ _ _ h => h) (Or.inl ⟨by kernel_rfl, ?_⟩) (by assumption) ?_
            rotate_left 1
            · (intro w hSw; (try dsimp only at hSw); go_simp; try (with_reducible rfl))
            refine wpAnyH_take (i := 10) (v := ?_) rfl (by kernel_rfl) (by kernel_rfl) (by kernel_rfl) (fun _ _ _ h => h) (Or.inl ⟨by kernel_rfl, ?_⟩) (by assumption) ?_
            rotate_left 1
            · (intro w hSw; (try dsimp only at hSw); go_simp; try (with_reducible rfl))
            refine wpAnyH_ready (rs := [11]) (by kernel_rfl) (by simp) ?_
            refine AllReadyH.cons rfl (fun Kx hK => ?_) (AllReadyH.nil)
            go_simp
            refine hK.out _ _ trivial (fun hSx => ?_)
            clear hK Kx hSx
            refine wpAnyH_done (by kernel_rfl) ?_ _
            go_simp
            go_upto_region 21 with (fail)
            have DY : Hid (BN w (wU.setCell ⟨K.G, rI * 4 + 2, none⟩ (.slice aU L.length cU)) p ad n c V t 8 (setOrd B rI ⟨(bX B rI).holder, (bX B rI).kind, L, (bX B rI).state⟩) ⟨some ⟨K.G, 0, none⟩, co, al, cl, ac, cc⟩ K') := DA.out.turn HC.out (XU.out.2.1.mono (T := fun x => x = K.gs rI ∨ x = K.G) (fun i e => Or.inl e) |>.trans (fr1 (P := K.G) (Fr.refl _ _) |>.mono (fun i e => Or.inr e))) (fun x e => by have := XU.out.2.2.2; omega) ((Deep.blk_setCell_other _ _ _ _ (by show w.heap.size ≠ K.G; omega)).trans (XU.out.1.trans (by simp [setOrd]))) (by
              have e : bookV (setOrd B rI ⟨(bX B rI).holder, (bX B rI).kind, L, (bX B rI).state⟩) ⟨some ⟨K.G, 0, none⟩, co, al, cl, ac, cc⟩ = bookV B ⟨some ⟨K.G, 0, none⟩, co, al, cl, ac, cc⟩ := by simp [bookV, setOrd]
              rw [e]
              exact XU.out.2.2.1)
            obtain ⟨Y, hY⟩ : ∃ Y, Y = (wU.setCell ⟨K.G, rI * 4 + 2, none⟩ (.slice aU L.length cU)) := ⟨_, rfl⟩
            rw [← hY] at DY ⊢
            clear hY DA o2 u2 zG zw
            obtain ⟨⟨zb, zr⟩, ⟨p0, p1, p2, p3⟩, ⟨e0, e1, e2, e3⟩, ⟨f0, f1, f2, f3⟩, h0, h1, h2, h3⟩ := DY.out.facts
            dsimp only at p1 p2 p3
            go_wp2
            refine bodyPost_ret (v := .agg #[.int .i64 ((setOrd B rI ⟨(bX B rI).holder, (bX B rI).kind, L, (bX B rI).state⟩)).n, .slice (⟨some ⟨K.G, 0, none⟩, co, al, cl, ac, cc⟩ : Sl).ao ((setOrd B rI ⟨(bX B rI).holder, (bX B rI).kind, L, (bX B rI).state⟩)).orders.length (⟨some ⟨K.G, 0, none⟩, co, al, cl, ac, cc⟩ : Sl).co, .slice (⟨some ⟨K.G, 0, none⟩, co, al, cl, ac, cc⟩ : Sl).al ((setOrd B rI ⟨(bX B rI).holder, (bX B rI).kind, L, (bX B rI).state⟩)).locked.length (⟨some ⟨K.G, 0, none⟩, co, al, cl, ac, cc⟩ : Sl).cl, .slice (⟨some ⟨K.G, 0, none⟩, co, al, cl, ac, cc⟩ : Sl).ac ((setOrd B rI ⟨(bX B rI).holder, (bX B rI).kind, L, (bX B rI).state⟩)).occ.length (⟨some ⟨K.G, 0, none⟩, co, al, cl, ac, cc⟩ : Sl).cc]) (by simp [results, Tryz.results37, go_sem, e0, e1, e2, e3]) rfl ?_
            exact DY.out.done HC.out (HL.out.setOrd hr _ ⟨by have := HL32.out; show 0 < L.length; omega, by have := HL32.out; have := (HL.out.2.1 rI hr).2.1; show L.length ≤ _; omega, (HL.out.2.1 rI hr).2.2⟩) (by omega)

end Go.Proofs.YteifekoiognhmaaGreatDoor
