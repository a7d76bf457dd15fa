/-
  A full book: (*spec.l4Cur).full. Mine, by program (wip/full.py), by template (wip/gen.py).
-/
import Derived.Test.YteifekoiognhmaaGreatDoorBend
import Derived.Test.YteifekoiognhmaaGreatDoorMarkZ
namespace Go.Proofs.YteifekoiognhmaaGreatDoor
open Go.RowKit

set_option maxHeartbeats 1000000 in
theorem specBeginN_any (n : Nat) (w : World) (h : 1 ≤ n ∧ n ≤ 60) :
    Calls Tryz.prog 21 #[.int .i64 (n : Int)] w fun e w' => ∃ al ac K, e = .returned (.agg #[.int .i64 (n : Int), .slice none 0 0, .slice al n n, .slice ac n n]) ∧ OwnBook w' w.heap.size (.agg #[.int .i64 (n : Int), .slice none 0 0, .slice al n n, .slice ac n n]) ⟨(n : Int), [], List.replicate n false, List.replicate n false⟩ K ∧ Below w.heap.size w w' := by
  have hmk := run_make_row' (P := Tryz.prog) 35 4 (.bool false) 1 Tryz.underlying35 Tryz.infoBool rfl .i64 .i64 n (by omega) (by omega)
  have h1 : (1 : Int) ≤ (n : Int) := by omega
  have h2 : (n : Int) ≤ 60 := by omega
  have h3 : ¬ (n : Int) < 1 := by omega
  have h4 : ¬ (60 : Int) < (n : Int) := by omega
  clear h
  go_enter Tryz.func21, Tryz.ntmps21
  go_wp2
  go_region
  · go_wp2
    refine bodyPost_ret (v := .agg #[.int .i64 (n : Int), .slice none 0 0, .slice (some ⟨w.heap.size + 1, 0, none⟩) n n, .slice (some ⟨w.heap.size + 1 + 1, 0, none⟩) n n]) (by simp [results, Tryz.results21, go_sem]) rfl ⟨_, _, ⟨0, fun _ => 0, fun _ => none, fun _ => 0, w.heap.size + 1, w.heap.size + 1 + 1⟩, rfl, ?_, ((below3 _ _ _ _).drew)⟩
    exact ownBook_begin (two_rows _ _ _).1 (two_rows _ _ _).2 (by omega) (by omega) (by omega)
  · go_wp2
    refine bodyPost_ret (v := .agg #[.int .i64 (n : Int), .slice none 0 0, .slice (some ⟨w.heap.size + 1 + 1, 0, none⟩) n n, .slice (some ⟨w.heap.size + 1, 0, none⟩) n n]) (by simp [results, Tryz.results21, go_sem]) rfl ⟨_, _, ⟨0, fun _ => 0, fun _ => none, fun _ => 0, w.heap.size + 1 + 1, w.heap.size + 1⟩, rfl, ?_, ((below3 _ _ _ _).drew)⟩
    exact ownBook_begin (two_rows _ _ _).2 (two_rows _ _ _).1 (by omega) (by omega) (by omega)

def fullO (i : Nat) : Ord := ⟨⟨#[97, 110, 110]⟩, 1, [((i : Nat) : Int) % 3], 1⟩
def fullB (k : Nat) : Bk := ⟨3, (List.range k).map fullO, List.replicate 3 false, List.replicate 3 false⟩
theorem fullB_len (k : Nat) : (fullB k).orders.length = k := by simp [fullB]
theorem bX_full {k i : Nat} (h : i < k) : bX (fullB k) i = fullO i := by
  show ((List.range k).map fullO).getD i Ord.zero = fullO i
  simp [List.getD_eq_getElem?_getD, h]
theorem full_loose {k : Nat} (h : k ≤ 200) : Loose (fullB k) 0 := by
  refine ⟨by rw [fullB_len]; omega, fun i hi => ?_, by show 0 < (List.replicate 3 false).length; simp, by show (List.replicate 3 false).length ≤ _; simp, by show (List.replicate 3 false).length ≤ _; simp, by show (0 : Int) ≤ 3; decide, by show (3 : Int) ≤ 61; decide⟩
  rw [fullB_len] at hi
  rw [bX_full hi]
  exact ⟨by show 0 < 1; omega, by show 1 ≤ 20 + 0; omega, by show (ByteArray.mk #[97, 110, 110]).size ≤ 20; decide⟩

theorem rowOrds_congr {w : World} {lo : Nat} {u : Value} {n : Nat} {X Y : Nat → Ord} {gs : Nat → Nat} {sa : Nat → Option Addr} {sc : Nat → Nat} (h : RowOrds w lo u n X gs sa sc) (e : ∀ i, i < n → X i = Y i) : RowOrds w lo u n Y gs sa sc := by
  refine ⟨?_, h.nil, fun i hi hp => ?_, fun i j hi hj hp hp' => ?_⟩
  · have q : flat Y sa sc n = flat X sa sc n := by
      unfold flat
      refine List.map_congr_left (fun j hj => ?_)
      have hj' : j < n * 4 := List.mem_range.1 hj
      unfold ordCells
      rw [e (j / 4) (by omega)]
    rw [q]; exact h.row
  · rw [← e i hi] at hp ⊢
    exact h.sec i hi hp
  · rw [← e i hi] at hp
    rw [← e j hj] at hp'
    exact h.inj i j hi hj hp hp'

/-- The book that is being filled. -/
structure FU (w wr : World) (p P : Nat) (ad : Option Addr) (n c : Nat) (V : Nat → UInt8) (t d : Nat) (u : Value) (q : Nat) (gs : Nat → Nat) (sa : Nat → Option Addr) (sc : Nat → Nat) (al ac : Option Addr) (GL GC : Nat) : Prop where
  fr : Fr (fun x => x = p) w wr
  cur : CurTo wr p ad n c V t d
  res : wr.heap[w.heap.size]? = some (.cells #[.int .i64 0, .slice none 0 0, .slice none 0 0, .slice none 0 0] 37 (0, 0))
  box : wr.heap[P]? = some (.cells #[.int .i64 3, u, .slice al 3 3, .slice ac 3 3] 37 (0, 0))
  row : RowOrds wr (P + 1) u q fullO gs sa sc
  lock : OwnBools wr (w.heap.size + 1) al 3 (fun i => (List.replicate 3 false).getD i false) GL
  occ : OwnBools wr (w.heap.size + 1) ac 3 (fun i => (List.replicate 3 false).getD i false) GC
  ne : GL ≠ GC
  lt : GL < P ∧ GC < P
  wP : w.heap.size + 1 ≤ P

theorem FU.zP {w wr : World} {p P : Nat} {ad : Option Addr} {n c : Nat} {V : Nat → UInt8} {t d : Nat} {u : Value} {q : Nat} {gs : Nat → Nat} {sa : Nat → Option Addr} {sc : Nat → Nat} {al ac : Option Addr} {GL GC : Nat} (h : FU w wr p P ad n c V t d u q gs sa sc al ac GL GC) : P < wr.heap.size := (Array.getElem?_eq_some_iff.1 h.box).1

/-- An order is appended and stored. -/
theorem FU.push {w wr : World} {p P : Nat} {ad : Option Addr} {n c : Nat} {V : Nat → UInt8} {t d : Nat} {u : Value} {q : Nat} {gs : Nat → Nat} {sa : Nat → Option Addr} {sc : Nat → Nat} {al ac : Option Addr} {GL GC : Nat} (h : FU w wr p P ad n c V t d u q gs sa sc al ac GL GC) (h0 : Cur w p ad n c V t) {wU : World} {u2 : Value}
    (h2 : wU.ownsRow (P + 1) 41 4 u2 (q + 1) (flat fullO sa sc q ++ cellsOf (fullO q) (some ⟨wr.heap.size, 0, none⟩) 1)) (hg : ((wr.alloc (.cells #[.int .i64 ((q : Int) % 3)] 3)).alloc (.cells #[.string ⟨#[97, 110, 110]⟩, .int .i64 1, .slice (some ⟨wr.heap.size, 0, none⟩) 1 1, .int .i64 1] 41)).grownBy wU u.ownBlock) (hk : u2.ownBlock = u.ownBlock ∨ u2.ownBlock = some ((wr.alloc (.cells #[.int .i64 ((q : Int) % 3)] 3)).alloc (.cells #[.string ⟨#[97, 110, 110]⟩, .int .i64 1, .slice (some ⟨wr.heap.size, 0, none⟩) 1 1, .int .i64 1] 41)).heap.size) :
    FU w (wU.setCell ⟨P, 1, none⟩ u2) p P ad n c V t d u2 (q + 1) (put1 gs q wr.heap.size) (put1 sa q (some ⟨wr.heap.size, 0, none⟩)) (put1 sc q 1) al ac GL GC := by
  have hp := h0.lt
  have hP := h.wP
  have hz := h.zP
  have hlt := h.lt
  have b2 := below2 wr (.cells #[.int .i64 ((q : Int) % 3)] 3) (.cells #[.string ⟨#[97, 110, 110]⟩, .int .i64 1, .slice (some ⟨wr.heap.size, 0, none⟩) 1 1, .int .i64 1] 41)
  have s2 : ((wr.alloc (.cells #[.int .i64 ((q : Int) % 3)] 3)).alloc (.cells #[.string ⟨#[97, 110, 110]⟩, .int .i64 1, .slice (some ⟨wr.heap.size, 0, none⟩) 1 1, .int .i64 1] 41)).heap.size = wr.heap.size + 2 := by simp
  have xb := two_boxes wr #[.int .i64 ((q : Int) % 3)] #[.string ⟨#[97, 110, 110]⟩, .int .i64 1, .slice (some ⟨wr.heap.size, 0, none⟩) 1 1, .int .i64 1] 3 41
  have R4 := h.row.below b2
  have ub : ∀ g, u.ownBlock = some g → P + 1 ≤ g ∧ g < wr.heap.size := fun g hg => owns_lt h.row.row hg
  have push := RowOrds.push R4 (fullO q) wr.heap.size (some ⟨wr.heap.size, 0, none⟩) 1 (fun _ => ⟨rfl, ⟨_, xb.1, by simp [fullO], fun i hi => by
    have : i = 0 := by simp [fullO] at hi; omega
    subst this
    rfl⟩, by omega, fun e => by have := (ub _ e).2; omega, fun i hi hp' => by have := (h.row.sec i hi hp').2.1.lt; omega⟩) h2 hg hk
  rw [put1_same] at push
  have hgf : Fr (fun x => u.ownBlock = some x) ((wr.alloc (.cells #[.int .i64 ((q : Int) % 3)] 3)).alloc (.cells #[.string ⟨#[97, 110, 110]⟩, .int .i64 1, .slice (some ⟨wr.heap.size, 0, none⟩) 1 1, .int .i64 1] 41)) wU := ⟨hg.os, hg.tape, hg.output, hg.size, fun j hj hn => hg.block j hj (fun e => hn e.symm)⟩
  have f1 : Fr (fun x => x = P ∨ u.ownBlock = some x) wr (wU.setCell ⟨P, 1, none⟩ u2) := ((Fr.of_below b2).trans (hgf.mono (fun i e => Or.inr e))).trans ((fr1 (P := P) (Fr.refl _ _)).mono (fun i e => Or.inl e))
  have hno : ∀ x, x < P → ¬ (x = P ∨ u.ownBlock = some x) := fun x hx e => by
    rcases e with e | e
    · omega
    · have := (ub x e).1; omega
  refine ⟨?_, h.cur.fr' f1 (hno p (by omega)) (fun hn0 b o ha => hno b (by have := h0.adlt hn0 ha; omega)), (f1.block _ (by omega) (hno _ (by omega))).trans h.res, ?_, push.setLow _ _ (by omega) _, h.lock.ofBlock (fun _ => f1.block _ (by omega) (hno _ hlt.1)), h.occ.ofBlock (fun _ => f1.block _ (by omega) (hno _ hlt.2)), h.ne, hlt, hP⟩
  · exact ((h.fr.mono (T := fun x => x = p ∨ w.heap.size + 1 ≤ x) (fun i e => Or.inl e)).trans (f1.mono (fun i e => Or.inr (by
      rcases e with e | e
      · omega
      · have := (ub i e).1; omega)))).cut (fun i hi e => by omega)
  · have x1 : wU.heap[P]? = some (.cells #[.int .i64 3, u, .slice al 3 3, .slice ac 3 3] 37 (0, 0)) := (hgf.block _ (by omega) (fun e => by have := (ub _ e).1; omega)).trans ((b2.block _ hz).trans h.box)
    exact (box_set x1 _).trans rfl

set_option maxRecDepth 20000 in
set_option maxHeartbeats 8000000 in
theorem full_any (p : Nat) (ad : Option Addr) (n c : Nat) (V : Nat → UInt8) (t : Nat) (w : World) (ht : t ≤ 600000000) (hn : n ≤ 1048576) (hc : Cur w p ad n c V t) :
    Calls Tryz.prog 63 #[.pointer (some ⟨p, 0, none⟩)] w fun e w' => RetBk e w w' p ad n c V t 20 0 := by
  have hp := hc.lt
  have HC : Hid (Cur w p ad n c V t) := hc
  obtain ⟨io, hio, zo0, zo1, zo2⟩ := info_parts Tryz.infoOrder
  have B1 := below1 w (.cells #[.int .i64 0, .slice none 0 0, .slice none 0 0, .slice none 0 0] 37)
  have s1 : (w.alloc (.cells #[.int .i64 0, .slice none 0 0, .slice none 0 0, .slice none 0 0] 37)).heap.size = w.heap.size + 1 := alloc_size _ _
  go_enter Tryz.func63, Tryz.ntmps63
  go_wp2_with fail
  refine (show Calls Tryz.prog 21 #[.int .i64 3] (w.alloc (.cells #[.int .i64 0, .slice none 0 0, .slice none 0 0, .slice none 0 0] 37)) _ from specBeginN_any 3 _ ⟨by omega, by omega⟩).mono ?_
  rintro e w1 ⟨al, ac, K, rfl, hO, hb⟩
  obtain ⟨a1, a2, a3, a4, a5, a6, ee, -, hL, hC⟩ := hO.shape
  have hlc := hO.lc (by simp) (by simp)
  simp only [Value.agg.injEq, Array.mk.injEq, List.cons.injEq, Value.slice.injEq, and_true, true_and] at ee
  obtain ⟨-, ⟨e3, -, -⟩, e5, -, -⟩ := ee
  subst e3 e5
  have hlL : K.L < w1.heap.size := (hL.row (by simp)).lt
  have hlC : K.C < w1.heap.size := (hC.row (by simp)).lt
  have z1 : w.heap.size + 1 ≤ w1.heap.size := by have := hb.size; omega
  have H1 : Hid (OwnBools w1 (w.heap.size + 1) al 3 (fun i => (List.replicate 3 false).getD i false) K.L ∧ OwnBools w1 (w.heap.size + 1) ac 3 (fun i => (List.replicate 3 false).getD i false) K.C ∧ K.L ≠ K.C ∧ Fr (fun x => x = p) w w1 ∧ Cur w1 p ad n c V t ∧ w1.heap[w.heap.size]? = some (.cells #[.int .i64 0, .slice none 0 0, .slice none 0 0, .slice none 0 0] 37 (0, 0))) := by
    rw [s1] at hL hC
    exact ⟨hL, hC, hlc, (Fr.of_below B1).trans (Fr.of_below hb), (hc.below B1).below hb, (hb.block _ (by omega)).trans (Deep.blk_alloc_new _ _)⟩
  clear hO hL hC hlc hb hc B1 s1
  go_wp2_with fail
  have B2 := below1 w1 (.cells #[.int .i64 3, .slice none 0 0, .slice al 3 3, .slice ac 3 3] 37)
  refine (pick_any p ad n c V t 2 _ (by omega) hn (by omega) (H1.out.2.2.2.2.1.below B2)).mono ?_
  rintro e w2 ⟨⟨r, rfl, -, hr⟩, ⟨u2, hu2, hv2⟩, hf2⟩
  have hr2 : r < 2 := by have := hr (by omega); omega
  obtain ⟨kn, hkn⟩ : ∃ kn : Nat, (200 : Int) - (r : Int) = (kn : Int) ∧ kn ≤ 200 := ⟨200 - r, by omega, by omega⟩
  have HK : Hid ((200 : Int) - (r : Int) = (kn : Int)) := hkn.1
  have hk200 : kn ≤ 200 := hkn.2
  have F0 : Hid (FU w w2 p w1.heap.size ad n c V t 2 (.slice none 0 0) 0 (fun _ => 0) (fun _ => none) (fun _ => 0) al ac K.L K.C) :=
    ⟨(H1.out.2.2.2.1.trans (Fr.of_below B2)).trans hf2, ⟨u2, hu2, hv2⟩, (hf2.block _ (by simp; omega) (by omega)).trans ((B2.block _ (by omega)).trans H1.out.2.2.2.2.2), (hf2.block _ (by simp) (by omega)).trans (Deep.blk_alloc_new _ _), RowOrds.start _ _ _ _ _ _, (H1.out.1.below B2).ofBlock (fun _ => hf2.block _ (by simp; omega) (fun e => by have := H1.out.1.low (by omega); omega)), (H1.out.2.1.below B2).ofBlock (fun _ => hf2.block _ (by simp; omega) (fun e => by have := H1.out.2.1.low (by omega); omega)), H1.out.2.2.1, ⟨hlL, hlC⟩, z1⟩
  clear hr hv2 hf2 hu2 H1 B2
  go_wp2
  clear hkn
  go_loopw [5] (fun i wr => ∃ (q : Nat) (u : Value) (gs : Nat → Nat) (sa : Nat → Option Addr) (sc : Nat → Nat), q ≤ kn ∧ i = .int .i64 q ∧ FU w wr p w1.heap.size ad n c V t 2 u q gs sa sc al ac K.L K.C) (fun i _ => kn - (intOf i).toNat)
  case atStart => exact ⟨0, _, _, _, _, Nat.zero_le _, rfl, F0.out⟩
  case round =>
    obtain ⟨q, u, gs, sa, sc, hq, rfl, hfu⟩ := hrel
    clear F0
    obtain ⟨o0, o1, o2, o3⟩ := box_cells hfu.box
    have zP := hfu.zP
    by_cases hql : q < kn
    · have HF : Hid (FU w wr p w1.heap.size ad n c V t 2 u q gs sa sc al ac K.L K.C) := hfu
      clear hfu
      go_wp2_with (at_builtin; refine stand ?_)
      refine Stand.go ?_
      have b2 := below2 wr (.cells #[.int .i64 ((q : Int) % 3)] 3) (.cells #[.string ⟨#[97, 110, 110]⟩, .int .i64 1, .slice (some ⟨wr.heap.size, 0, none⟩) 1 1, .int .i64 1] 41)
      have xb := two_boxes wr #[.int .i64 ((q : Int) % 3)] #[.string ⟨#[97, 110, 110]⟩, .int .i64 1, .slice (some ⟨wr.heap.size, 0, none⟩) 1 1, .int .i64 1] 3 41
      have n4 : ∀ j u', (cellsOf (fullO q) (some ⟨wr.heap.size, 0, none⟩) 1)[j]? = some u' → ((wr.alloc (.cells #[.int .i64 ((q : Int) % 3)] 3)).alloc (.cells #[.string ⟨#[97, 110, 110]⟩, .int .i64 1, .slice (some ⟨wr.heap.size, 0, none⟩) 1 1, .int .i64 1] 41)).cell? ((⟨wr.heap.size + 1, 0, none⟩ : Addr).add j) = some u' := by
        intro j u' hu
        rw [add0]
        refine cell_of_box xb.2 ?_
        rw [← Array.getElem?_toList]
        exact hu
      refine wpList_append_own_at _ rfl _ _ 34 rfl (w1.heap.size + 1) 41 io _ 4 56 Tryz.underlying34 hio zo0 zo1 zo2 rfl (by decide) u q (flat fullO sa sc q) rfl (HF.out.row.below b2).row ⟨wr.heap.size + 1, 0, none⟩ 1 1 (cellsOf (fullO q) (some ⟨wr.heap.size, 0, none⟩) 1) rfl rfl n4 ?_ (by unfold maxLen; omega) (by omega) (by simp; omega) ?_
      · intro x hx
        simp only [cellsOf, List.mem_cons, List.not_mem_nil, or_false] at hx
        rcases hx with rfl | rfl | rfl | rfl <;> rfl
      intro vU wU hownU hgU _ hbU
      have HU : Hid (FU w (wU.setCell ⟨w1.heap.size, 1, none⟩ vU) p w1.heap.size ad n c V t 2 vU (q + 1) (put1 gs q wr.heap.size) (put1 sa q (some ⟨wr.heap.size, 0, none⟩)) (put1 sc q 1) al ac K.L K.C) := HF.out.push HC.out hownU hgU hbU
      have xU : wU.heap[w1.heap.size]? = some (.cells #[.int .i64 3, u, .slice al 3 3, .slice ac 3 3] 37 (0, 0)) := (hgU.block _ (by simp; omega) (fun e => by have := (owns_lt HF.out.row.row e.symm).1; omega)).trans ((b2.block _ zP).trans HF.out.box)
      have c1 : wU.cell? ⟨w1.heap.size, 1, none⟩ = some u := cell_of_box xU rfl
      have g1 : wU.frozen? ⟨w1.heap.size, 1, none⟩ = false := frozen_of_box xU
      have zU : w1.heap.size < wU.heap.size := (Array.getElem?_eq_some_iff.1 xU).1
      obtain ⟨adU, cU, GU, rfl, -, -⟩ := HU.out.row.own
      clear hownU hgU hbU n4 b2 xb HF xU o0 o1 o2 o3
      go_wp2
      go_roundw
      case rel => exact ⟨q + 1, _, _, _, _, by omega, by go_num, HU.out⟩
      case measure => simp [intOf]; omega
    · obtain rfl : q = kn := by omega
      obtain ⟨e0, e1, e2, e3⟩ := box_cells hfu.res
      have f0 : wr.frozen? ⟨w.heap.size, 0, none⟩ = false := frozen_of_box hfu.res
      have f1 : wr.frozen? ⟨w.heap.size, 1, none⟩ = false := frozen_of_box hfu.res
      have f2 : wr.frozen? ⟨w.heap.size, 2, none⟩ = false := frozen_of_box hfu.res
      have f3 : wr.frozen? ⟨w.heap.size, 3, none⟩ = false := frozen_of_box hfu.res
      have zr : w.heap.size < wr.heap.size := by omega
      obtain ⟨adU, cU, GU, hu, -, -⟩ := hfu.row.own
      subst hu
      have HF : Hid (FU w wr p w1.heap.size ad n c V t 2 (.slice adU q cU) q gs sa sc al ac K.L K.C) := hfu
      clear hfu
      go_wp2
      refine bodyPost_ret (v := .agg #[.int .i64 3, .slice adU q cU, .slice al 3 3, .slice ac 3 3]) (by simp [results, Tryz.results63, go_sem, e0, e1, e2, e3]) rfl ?_
      have pf : Fr (fun x => x = w.heap.size) wr ((((wr.setCell ⟨w.heap.size, 0, none⟩ (.int .i64 3)).setCell ⟨w.heap.size, 1, none⟩ (.slice adU q cU)).setCell ⟨w.heap.size, 2, none⟩ (.slice al 3 3)).setCell ⟨w.heap.size, 3, none⟩ (.slice ac 3 3)) := fr1 (fr1 (fr1 (fr1 (Fr.refl _ _))))
      obtain ⟨K', hR⟩ : ∃ K', RowBook wr (w.heap.size + 1) (.agg #[.int .i64 (fullB q).n, .slice adU q cU, .slice al (fullB q).locked.length 3, .slice ac (fullB q).occ.length 3]) (fullB q) K' := by
        refine rowBook_mk (H := w1.heap.size + 1) (GL := K.L) (GC := K.C) (gs := gs) (sa := sa) (sc := sc) ?_ (by omega) HF.out.lock HF.out.occ (fun _ => by have := HF.out.lt.1; omega) (fun _ => by have := HF.out.lt.2; omega) (fun _ _ => HF.out.ne)
        rw [fullB_len]
        exact rowOrds_congr HF.out.row (fun i hi => (bX_full hi).symm)
      have hO : OwnBook wr (w.heap.size + 1) (.agg #[.int .i64 3, .slice adU q cU, .slice al 3 3, .slice ac 3 3]) (fullB q) K' := hR.own
      refine ⟨_, fullB q, K', rfl, (hO.fr pf (fun x hx e => by have := hO.blocks_low hx; omega)).mono (by omega), full_loose hk200, (HF.out.cur.fr' pf (by omega) (fun hn b o ha e => by have := HC.out.adlt hn ha; omega)).mono (by omega), ?_⟩
      exact ((HF.out.fr.mono (T := fun x => x = p ∨ x = w.heap.size) (fun i e => Or.inl e)).trans (pf.mono (fun i e => Or.inr e))).cut (fun i hi e => by omega)

end Go.Proofs.YteifekoiognhmaaGreatDoor
