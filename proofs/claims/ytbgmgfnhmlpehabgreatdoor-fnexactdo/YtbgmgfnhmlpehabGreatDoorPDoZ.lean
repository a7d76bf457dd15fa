import Derived.Test.YtbgmgfnhmlpehabGreatDoorSDo2
import Derived.Test.YtbgmgfnhmlpehabGreatDoorDoEq
import Derived.Test.YtbgmgfnhmlpehabGreatDoorSmall
import Derived.Test.YtbgmgfnhmlpehabGreatDoorOpenE
import Derived.Deep.DeepCutAuto
import Derived.Deep.RegionHeld3
import Derived.Test.YtbgmgfnhmlpehabGreatDoorErr
import Derived.Test.YtbgmgfnhmlpehabGreatDoorRows
import Derived.LaidLaws
import Derived.Lib.LaidTab
import Derived.Lib.ItoaNum
import Derived.Stop.LaidErr
import Derived.OpenVars
import Derived.Test.YtbgmgfnhmlpehabGreatDoorCards
import Derived.Test.YtbgmgfnhmlpehabGreatDoorTie
import Derived.ProofKit
import Derived.OpenShut
import Derived.ChangeOld
import Derived.Below
import Derived.Deep.DeepHandedRow
/-
  laws.FnExactDo: what is kept along its walk. Mine, by template (wip/gen.py).
-/
namespace Go.Proofs.YtbgmgfnhmlpehabGreatDoor
open Go.RowKit

structure EvWf (E : Ev) : Prop where
  h : E.holder.size ≤ maxLen
  t : E.text.size ≤ maxLen
  s : E.secs.length ≤ maxLen

theorem kAt_bulk' (xs : List Ord) (k n : Nat) (h : n ≤ xs.length) : kAt (fun i => xs.getD i Ord.zero) k n ≤ k + 3 * n + wOrds (xs.take n) := by
  induction n with
  | zero => simp [kAt]
  | succ n ih =>
    have h1 := ih (by omega)
    have h2 := wOrds_take xs n (by omega)
    simp only [kAt]
    unfold wOrd at h2
    omega

theorem bEnd_small' {B : Bk} (h : wBk B ≤ 1048576) : bEnd B 1 ≤ 2305843009213693952 := by
  have h1 := kAt_bulk' B.orders 1 B.orders.length (Nat.le_refl _)
  rw [List.take_length] at h1
  have h2 : bK B 1 = kAt (fun i => B.orders.getD i Ord.zero) 1 B.orders.length := rfl
  unfold wBk at h
  unfold bEnd
  omega

/-- A variable that holds what Do has answered, its book its own. -/
def DoneBox (w : World) (lo P : Nat) (c : Int) (R : Bk) (K : Blk) : Prop :=
  ∃ a b c' d, w.heap[P]? = some (.cells #[.int .i64 c, a, b, c', d] 35 (0, 0)) ∧ OwnBook w lo (.agg #[a, b, c', d]) R K ∧ lo ≤ P ∧ ∀ x, bookBlocks R K x → x ≠ P

theorem heap_lt {w : World} {P : Nat} {o : Obj} (h : w.heap[P]? = some o) : P < w.heap.size := by
  rcases Nat.lt_or_ge P w.heap.size with h1 | h1
  · exact h1
  · rw [Array.getElem?_eq_none h1] at h; cases h

theorem doneBox_new {W wD : World} {n lo : Nat} {c : Int} {R : Bk} {K : Blk} {a b c' d : Value} (h : OwnBook wD lo (.agg #[a, b, c', d]) R K) (hl : n ≤ lo) (hb : Below n W wD) (hn : n ≤ wD.heap.size) : DoneBox (wD.alloc (.cells #[.int .i64 c, a, b, c', d] 35)) n wD.heap.size c R K ∧ Below n W (wD.alloc (.cells #[.int .i64 c, a, b, c', d] 35)) :=
  ⟨⟨a, b, c', d, Deep.blk_alloc_new _ _, (h.below (below1 _ _)).mono hl, hn, fun x hx => by have := h.blocks_lt hx; omega⟩, hb.alloc hn _⟩

theorem fr_at {a w : World} {P i : Nat} {u : Value} (h : Fr (fun x => x = P) a w) : Fr (fun x => x = P) a (w.setCell ⟨P, i, none⟩ u) := h.setCell (p := ⟨P, i, none⟩) rfl u

theorem doneBox_put {W wD : World} {n lo P : Nat} {c : Int} {R : Bk} {K : Blk} {a b c' d z0 z1 z2 z3 z4 : Value} (y : wD.heap[P]? = some (.cells #[z0, z1, z2, z3, z4] 35 (0, 0))) (h : OwnBook wD lo (.agg #[a, b, c', d]) R K) (hn : n ≤ P) (hp : P < lo) (hb : Below n W wD) :
    DoneBox (((((wD.setCell ⟨P, 0, none⟩ (.int .i64 c)).setCell ⟨P, 1, none⟩ a).setCell ⟨P, 2, none⟩ b).setCell ⟨P, 3, none⟩ c').setCell ⟨P, 4, none⟩ d) n P c R K ∧ Below n W (((((wD.setCell ⟨P, 0, none⟩ (.int .i64 c)).setCell ⟨P, 1, none⟩ a).setCell ⟨P, 2, none⟩ b).setCell ⟨P, 3, none⟩ c').setCell ⟨P, 4, none⟩ d) := by
  have hf : Fr (fun x => x = P) wD (((((wD.setCell ⟨P, 0, none⟩ (.int .i64 c)).setCell ⟨P, 1, none⟩ a).setCell ⟨P, 2, none⟩ b).setCell ⟨P, 3, none⟩ c').setCell ⟨P, 4, none⟩ d) := fr_at (fr_at (fr_at (fr_at (fr_at (Fr.refl _ _)))))
  have hx : ∀ x, bookBlocks R K x → x ≠ P := fun x hx => by have := h.blocks_low hx; omega
  refine ⟨⟨a, b, c', d, (box_set (box_set (box_set (box_set (box_set y _) _) _) _) _).trans rfl, (h.fr hf hx).mono (by omega), hn, hx⟩, ?_⟩
  exact below_set (below_set (below_set (below_set (below_set hb _ _ hn _) _ _ hn _) _ _ hn _) _ _ hn _) _ _ hn _

theorem DoneBox.fr {w w' : World} {lo P : Nat} {c : Int} {R : Bk} {K : Blk} (h : DoneBox w lo P c R K) {S : Nat → Prop} (hf : Fr S w w') (hp : ¬ S P) (hs : ∀ x, bookBlocks R K x → ¬ S x) : DoneBox w' lo P c R K := by
  obtain ⟨a, b, c', d, h1, h2, h3, h4⟩ := h
  exact ⟨a, b, c', d, (hf.block _ (heap_lt h1) hp).trans h1, h2.fr hf hs, h3, h4⟩

theorem DoneBox.below {w w' : World} {lo P : Nat} {c : Int} {R : Bk} {K : Blk} (h : DoneBox w lo P c R K) (hb : Below w.heap.size w w') : DoneBox w' lo P c R K :=
  h.fr (S := fun _ => False) (Fr.of_below hb) (fun h => h) (fun _ _ h => h)

theorem DoneBox.open {w : World} {lo P : Nat} {c : Int} {R : Bk} {K : Blk} (h : DoneBox w lo P c R K) : ∃ ao co al cl ac cc, w.heap[P]? = some (.cells #[.int .i64 c, .int .i64 R.n, .slice ao R.orders.length co, .slice al R.locked.length cl, .slice ac R.occ.length cc] 35 (0, 0)) ∧ OwnBook w lo (.agg #[.int .i64 R.n, .slice ao R.orders.length co, .slice al R.locked.length cl, .slice ac R.occ.length cc]) R K := by
  obtain ⟨a, b, c', d, h1, h2, -⟩ := h
  obtain ⟨ao, co, al, cl, ac, cc, rfl, rfl, rfl, rfl⟩ := bookAt_shape h2.bookAt
  exact ⟨ao, co, al, cl, ac, cc, h1, h2⟩

theorem DoneBox.lt {w : World} {lo P : Nat} {c : Int} {R : Bk} {K : Blk} (h : DoneBox w lo P c R K) : P < w.heap.size ∧ ∀ x, bookBlocks R K x → lo ≤ x ∧ x < w.heap.size := by
  obtain ⟨a, b, c', d, h1, h2, -⟩ := h
  exact ⟨heap_lt h1, fun x hx => ⟨h2.blocks_low hx, h2.blocks_lt hx⟩⟩

theorem done_cells {w : World} {p : Nat} {a b c d e : Value} {t : TypeId} (h : w.heap[p]? = some (.cells #[a, b, c, d, e] t (0, 0))) :
    w.cell? ⟨p, 0, none⟩ = some a ∧ w.cell? ⟨p, 1, none⟩ = some b ∧ w.cell? ⟨p, 2, none⟩ = some c ∧ w.cell? ⟨p, 3, none⟩ = some d ∧ w.cell? ⟨p, 4, none⟩ = some e := by
  simp [World.cell?, h]

/-- What is kept to the end: the law's arguments' boxes, and what the model answered. -/
structure St (w wX : World) (B : Bk) (E : Ev) (ao : Option Addr) (co : Nat) (al : Option Addr) (cl : Nat) (ac : Option Addr) (cc : Nat) (ad : Option Addr) (ca : Nat) (lo P0 : Nat) (n : Int) (R : Bk) (K0 : Blk) (h0 : Nat) : Prop where
  lb : wX.heap[w.heap.size]? = some (.cells #[.int .i64 B.n, .slice ao B.orders.length co, .slice al B.locked.length cl, .slice ac B.occ.length cc] 25 (0, 0))
  le : wX.heap[w.heap.size + 1]? = some (.cells #[.int .i64 E.op, .int .i64 E.of_, .string E.holder, .int .i64 E.kind, .slice ad E.secs.length ca, .string E.text] 28 (0, 0))
  bw : Below w.heap.size w wX
  z : w.heap.size + 1 < h0
  hz : h0 ≤ wX.heap.size
  D : DoneBox wX lo P0 n R K0
  p0 : P0 < h0
  k0 : ∀ x, bookBlocks R K0 x → x < h0

theorem St.fr {w wX wY : World} {B : Bk} {E : Ev} {ao : Option Addr} {co : Nat} {al : Option Addr} {cl : Nat} {ac : Option Addr} {cc : Nat} {ad : Option Addr} {ca lo P0 : Nat} {n : Int} {R : Bk} {K0 : Blk} {h0 : Nat} (h : St w wX B E ao co al cl ac cc ad ca lo P0 n R K0 h0) {S : Nat → Prop} (hf : Fr S wX wY) (hs : ∀ x, S x → h0 ≤ x) : St w wY B E ao co al cl ac cc ad ca lo P0 n R K0 h0 := by
  have z := h.z
  have hz := h.hz
  have p0 := h.p0
  refine ⟨(hf.block _ (by omega) (fun hx => by have := hs _ hx; omega)).trans h.lb, (hf.block _ (by omega) (fun hx => by have := hs _ hx; omega)).trans h.le, h.bw.trans (hf.below (by omega) (fun x hx => by have := hs _ hx; omega)), z, Nat.le_trans hz hf.size, h.D.fr hf (fun hx => by have := hs _ hx; omega) (fun x hb hx => by have := hs _ hx; have := h.k0 x hb; omega), p0, h.k0⟩

theorem St.below {w wX wY : World} {B : Bk} {E : Ev} {ao : Option Addr} {co : Nat} {al : Option Addr} {cl : Nat} {ac : Option Addr} {cc : Nat} {ad : Option Addr} {ca lo P0 : Nat} {n : Int} {R : Bk} {K0 : Blk} {h0 : Nat} (h : St w wX B E ao co al cl ac cc ad ca lo P0 n R K0 h0) (hb : Below wX.heap.size wX wY) : St w wY B E ao co al cl ac cc ad ca lo P0 n R K0 h0 :=
  h.fr (S := fun _ => False) (Fr.of_below hb) (fun _ h => h.elim)

/-- The event handed to the program, in its variable. -/
structure XE (wX : World) (E : Ev) (lo P2 g : Nat) : Prop where
  box : wX.heap[P2]? = some (.cells #[.int .i64 E.op, .int .i64 E.of_, .string E.holder, .int .i64 E.kind, .slice (some ⟨g, 0, none⟩) E.secs.length E.secs.length, .string E.text] 38 (0, 0))
  own : OwnEv wX lo (.agg #[.int .i64 E.op, .int .i64 E.of_, .string E.holder, .int .i64 E.kind, .slice (some ⟨g, 0, none⟩) E.secs.length E.secs.length, .string E.text]) E g
  g0 : lo ≤ g
  g1 : g < P2

theorem XE.fr {wX wY : World} {E : Ev} {lo P2 g : Nat} (h : XE wX E lo P2 g) {S : Nat → Prop} (hf : Fr S wX wY) (hs : ∀ x, S x → x < lo) : XE wY E lo P2 g := by
  have g0 := h.g0
  have g1 := h.g1
  refine ⟨(hf.block _ (heap_lt h.box) (fun hx => by have := hs _ hx; omega)).trans h.box, ⟨h.own.1, h.own.2.1, hf.row h.own.2.2 (fun hx => by have := hs _ hx; omega)⟩, g0, g1⟩

theorem XE.below {wX wY : World} {E : Ev} {lo P2 g : Nat} (h : XE wX E lo P2 g) (hb : Below wX.heap.size wX wY) : XE wY E lo P2 g :=
  h.fr (S := fun _ => False) (Fr.of_below hb) (fun _ h => h.elim)

/-- The book handed to the program, in its variable. -/
structure XB (wX : World) (B : Bk) (ao : Option Addr) (co : Nat) (al : Option Addr) (cl : Nat) (ac : Option Addr) (cc : Nat) (h0 P1 : Nat) (K : Blk) : Prop where
  box : wX.heap[P1]? = some (.cells #[.int .i64 B.n, .slice ao B.orders.length co, .slice al B.locked.length cl, .slice ac B.occ.length cc] 33 (0, 0))
  own : OwnBook wX h0 (.agg #[.int .i64 B.n, .slice ao B.orders.length co, .slice al B.locked.length cl, .slice ac B.occ.length cc]) B K
  k : ∀ x, bookBlocks B K x → h0 ≤ x ∧ x < P1

theorem XB.below {wX wY : World} {B : Bk} {ao : Option Addr} {co : Nat} {al : Option Addr} {cl : Nat} {ac : Option Addr} {cc : Nat} {h0 P1 : Nat} {K : Blk} (h : XB wX B ao co al cl ac cc h0 P1 K) (hb : Below wX.heap.size wX wY) : XB wY B ao co al cl ac cc h0 P1 K :=
  ⟨(hb.block _ (heap_lt h.box)).trans h.box, h.own.below hb, h.k⟩

/-- What the program answered, written over with marks, in its variable. -/
structure XD (wX : World) (n : Int) (R : Bk) (ao : Option Addr) (co : Nat) (al : Option Addr) (cl : Nat) (ac : Option Addr) (cc : Nat) (P3 : Nat) : Prop where
  box : wX.heap[P3]? = some (.cells #[.int .i64 n, .int .i64 R.n, .slice ao R.orders.length co, .slice al R.locked.length cl, .slice ac R.occ.length cc] 35 (0, 0))
  at_ : BookAt wX (.agg #[.int .i64 R.n, .slice ao R.orders.length co, .slice al R.locked.length cl, .slice ac R.occ.length cc]) (mBk R 1)

theorem XD.below {wX wY : World} {n : Int} {R : Bk} {ao : Option Addr} {co : Nat} {al : Option Addr} {cl : Nat} {ac : Option Addr} {cc : Nat} {P3 : Nat} (h : XD wX n R ao co al cl ac cc P3) (hb : Below wX.heap.size wX wY) : XD wY n R ao co al cl ac cc P3 :=
  ⟨(hb.block _ (heap_lt h.box)).trans h.box, h.at_.below hb⟩

end Go.Proofs.YtbgmgfnhmlpehabGreatDoor

/-
  laws.FnExactDo: the walk out of contracts. Mine, by program (wip/ldo.py), by template (wip/gen.py).
-/
namespace Go.Proofs.YtbgmgfnhmlpehabGreatDoor
open Go.RowKit

set_option maxHeartbeats 16000000 in
set_option maxRecDepth 4000 in
theorem fnExactDo_walk (A : Nat → Addr) (v ve : Value) (B : Bk) (E : Ev) (w : World) (hE : Errs w A) (hT : Lib.TabIs Tryz.prog w "internal/strconv.uint64pow10" .u64 Lib.pow10Tab) (hwf : BkWf B) (hwe : EvWf E) (G : BookAt w v B) (GE : EvAt w ve E) :
    Calls Tryz.prog 3 #[v, ve] w fun e w' => e = .returned (.bool true) ∧ Below w.heap.size w w' := by
  have HT : Hid (Errs w A ∧ Lib.TabIs Tryz.prog w "internal/strconv.uint64pow10" .u64 Lib.pow10Tab) := ⟨hE, hT⟩
  clear hE hT
  have G0 := G
  have GE0 := GE
  obtain ⟨ao, co, al, cl, ac, cc, rfl, -⟩ := G
  obtain ⟨ad, ca, rfl, -⟩ := GE
  have HG : Hid (BookAt w (.agg #[.int .i64 B.n, .slice ao B.orders.length co, .slice al B.locked.length cl, .slice ac B.occ.length cc]) B ∧ BkWf B ∧ EvAt w (.agg #[.int .i64 E.op, .int .i64 E.of_, .string E.holder, .int .i64 E.kind, .slice ad E.secs.length ca, .string E.text]) E ∧ EvWf E) := ⟨G0, hwf, GE0, hwe⟩
  clear G0 hwf GE0 hwe
  go_enter Tryz.func3, Tryz.ntmps3
  go_wp2_with fail
  have B1 := below2 w (.cells #[.int .i64 B.n, .slice ao B.orders.length co, .slice al B.locked.length cl, .slice ac B.occ.length cc] 25) (.cells #[.int .i64 E.op, .int .i64 E.of_, .string E.holder, .int .i64 E.kind, .slice ad E.secs.length ca, .string E.text] 28)
  have hwf := HG.out.2.1
  refine (szBook_any _ B 1048576 _ (by have := hwf.o; unfold maxLen at this; exact this) (fun i hi => by have := hwf.x i hi; unfold OrdWf maxLen at this; exact this) (by have := hwf.l; unfold maxLen at this; exact this) (by have := hwf.c; unfold maxLen at this; exact this) (by omega) (by omega) (HG.out.1.below B1)).mono ?_
  clear hwf
  rintro e w1 ⟨r, rfl, hr, hb⟩
  have bx : w1.heap[w.heap.size]? = some (.cells #[.int .i64 B.n, .slice ao B.orders.length co, .slice al B.locked.length cl, .slice ac B.occ.length cc] 25 (0, 0)) := (hb.block _ (by simp; omega)).trans ((Deep.blk_alloc_lt _ _ _ (by simp)).trans (Deep.blk_alloc_new _ _))
  have be : w1.heap[w.heap.size + 1]? = some (.cells #[.int .i64 E.op, .int .i64 E.of_, .string E.holder, .int .i64 E.kind, .slice ad E.secs.length ca, .string E.text] 28 (0, 0)) := (hb.block _ (by simp)).trans (by have := Deep.blk_alloc_new (w.alloc (.cells #[.int .i64 B.n, .slice ao B.orders.length co, .slice al B.locked.length cl, .slice ac B.occ.length cc] 25)) (.cells #[.int .i64 E.op, .int .i64 E.of_, .string E.holder, .int .i64 E.kind, .slice ad E.secs.length ca, .string E.text] 28); simpa using this)
  have bw : Below w.heap.size w w1 := B1.trans (hb.mono B1.size)
  have z : w.heap.size + 1 < w1.heap.size := by have := hb.size; simp at this; omega
  clear hb B1
  by_cases hneg : r < 0
  · clear hr bx be
    go_wp2
    go_ret
    exact ⟨rfl, bw⟩
  have hsm : wBk B ≤ 1048576 := by rcases hr with h | h <;> omega
  have HS : Hid (Small B ∧ wBk B ≤ 1048576) := ⟨small_of hsm, hsm⟩
  have hr1 : r ≤ 1048576 := by rcases hr with h | h <;> omega
  clear hr hsm
  obtain ⟨e0, e1, e2, e3, e4, e5⟩ := ev_cells be
  go_wp2_with fail
  refine (szEvent_any _ E r _ (by have := HG.out.2.2.2.h; unfold maxLen at this; exact this) (by have := HG.out.2.2.2.t; unfold maxLen at this; exact this) (by have := HG.out.2.2.2.s; unfold maxLen at this; exact this) (by omega) hr1 (HG.out.2.2.1.below bw)).mono ?_
  rintro e w2 ⟨r2, rfl, hr2, hb⟩
  have bx2 := (hb.block _ (by omega : w.heap.size < w1.heap.size)).trans bx
  have be2 := (hb.block _ z).trans be
  have bw2 := below_trans bw bw.size hb
  have z2 : w.heap.size + 1 < w2.heap.size := Nat.lt_of_lt_of_le z hb.size
  clear hb bw bx be z e0 e1 e2 e3 e4 e5
  by_cases hneg2 : r2 < 0
  · clear hr2 bx2 be2
    go_wp2
    go_ret
    exact ⟨rfl, bw2⟩
  have hse : wEv E ≤ 1048576 := by rcases hr2 with h | h <;> omega
  have HE : Hid (E.holder.size ≤ 1048576 ∧ E.text.size ≤ 1048576 ∧ E.secs.length ≤ 1048576) := by unfold wEv at hse; exact ⟨by omega, by omega, by omega⟩
  clear hr2 hse
  obtain ⟨c0, c1, c2, c3⟩ := box_cells bx2
  obtain ⟨e0, e1, e2, e3, e4, e5⟩ := ev_cells be2
  have HX2 : Hid (w2.heap[w.heap.size]? = some (.cells #[.int .i64 B.n, .slice ao B.orders.length co, .slice al B.locked.length cl, .slice ac B.occ.length cc] 25 (0, 0)) ∧ w2.heap[w.heap.size + 1]? = some (.cells #[.int .i64 E.op, .int .i64 E.of_, .string E.holder, .int .i64 E.kind, .slice ad E.secs.length ca, .string E.text] 28 (0, 0))) := ⟨bx2, be2⟩
  have zq0 : w.heap.size < w2.heap.size := by omega
  have zq1 : w.heap.size + 1 < w2.heap.size := z2
  clear bx2 be2 z2
  go_wp2
  -- w0 := spec.Do(toBook(aB), toEvent(aE))
  go_cut [6] (fun t wc => ∃ (P0 : Nat) (K0 : Blk), t = .pointer (some ⟨P0, 0, none⟩) ∧ DoneBox wc w2.heap.size P0 (doP B E).1 (doP B E).2 K0 ∧ Below w2.heap.size w2 wc)
  case first =>
    rename_i J0 K0 hJ0 hK0
    refine wp_region_held_drew (S := (fun w' => w'.cell? ⟨w.heap.size, 0, none⟩ = some (.int .i64 B.n) ∧ w'.cell? ⟨w.heap.size, 1, none⟩ = some (.slice ao B.orders.length co) ∧ w'.cell? ⟨w.heap.size, 2, none⟩ = some (.slice al B.locked.length cl) ∧ w'.cell? ⟨w.heap.size, 3, none⟩ = some (.slice ac B.occ.length cc) ∧ w'.cell? ⟨w.heap.size + 1, 0, none⟩ = some (.int .i64 E.op) ∧ w'.cell? ⟨w.heap.size + 1, 1, none⟩ = some (.int .i64 E.of_) ∧ w'.cell? ⟨w.heap.size + 1, 2, none⟩ = some (.string E.holder) ∧ w'.cell? ⟨w.heap.size + 1, 3, none⟩ = some (.int .i64 E.kind) ∧ w'.cell? ⟨w.heap.size + 1, 4, none⟩ = some (.slice ad E.secs.length ca) ∧ w'.cell? ⟨w.heap.size + 1, 5, none⟩ = some (.string E.text))) (by kernel_rfl) ⟨c0, c1, c2, c3, e0, e1, e2, e3, e4, e5⟩ (fun hS0 => ?_)
    have bW : Below w2.heap.size w2 w2.drew := (Below.refl _ _).drew
    refine wpAnyH_take (i := 0) (v := ?_) rfl (by kernel_rfl) (by kernel_rfl) (by kernel_rfl) (fun _ _ _ h => h) (Or.inl ⟨by kernel_rfl, ?_⟩) (by assumption) ?_
    rotate_left 1
    · (intro w hSw; (try dsimp only at hSw); go_simp; try (with_reducible rfl))
    refine wpAnyH_take (i := 2) (v := ?_) rfl (by kernel_rfl) (by kernel_rfl) (by kernel_rfl) (fun _ _ _ h => h) (Or.inl ⟨by kernel_rfl, ?_⟩) (by assumption) ?_
    rotate_left 1
    · (intro w hSw; (try dsimp only at hSw); go_simp; try (with_reducible rfl))
    refine wpAnyH_ready (rs := [1, 5]) (by kernel_rfl) (by simp) ?_
    refine AllReadyH.cons rfl (fun Kx hK => ?_) (AllReadyH.cons rfl (fun Kx hK => ?_) (AllReadyH.nil))
    · skip
      go_simp
      refine (toBook_any _ B _ HS.out.2 (HG.out.1.below (below_trans bw2 bw2.size bW))).mono ?_
      rintro e wA ⟨vA, KA, rfl, hA0, hbA⟩
      have bA : Below w2.heap.size w2 wA := below_trans bW (Below.size bW) hbA
      have HA : Hid (BookAt wA vA B) := hA0.bookAt
      obtain ⟨hcx, -⟩ := bcell (bA)
      refine hK.out _ _ ⟨(hcx _ _ zq0).trans c0, (hcx _ _ zq0).trans c1, (hcx _ _ zq0).trans c2, (hcx _ _ zq0).trans c3, (hcx _ _ zq1).trans e0, (hcx _ _ zq1).trans e1, (hcx _ _ zq1).trans e2, (hcx _ _ zq1).trans e3, (hcx _ _ zq1).trans e4, (hcx _ _ zq1).trans e5⟩ (fun _ => ?_)
      clear hK Kx hcx
      clear hA0 hbA
      refine wpAnyH_ready (rs := [3, 5]) (by kernel_rfl) (by simp) ?_
      refine AllReadyH.cons rfl (fun Kx hK => ?_) (AllReadyH.cons rfl (fun Kx hK => ?_) (AllReadyH.nil))
      · skip
        go_simp
        refine (toEvent_any _ E _ HE.out.2.2 (HG.out.2.2.1.below (below_trans bw2 bw2.size bA))).mono ?_
        rintro e wE ⟨vE, gE, rfl, hE0, hbE⟩
        have bE : Below w2.heap.size w2 wE := below_trans bA (Below.size bA) hbE
        have HB : Hid (BookAt wE vA B ∧ EvAt wE vE E) := ⟨(HA.out).below hbE, hE0.evAt⟩
        obtain ⟨hcx, -⟩ := bcell (bE)
        refine hK.out _ _ ⟨(hcx _ _ zq0).trans c0, (hcx _ _ zq0).trans c1, (hcx _ _ zq0).trans c2, (hcx _ _ zq0).trans c3, (hcx _ _ zq1).trans e0, (hcx _ _ zq1).trans e1, (hcx _ _ zq1).trans e2, (hcx _ _ zq1).trans e3, (hcx _ _ zq1).trans e4, (hcx _ _ zq1).trans e5⟩ (fun _ => ?_)
        clear hK Kx hcx
        clear hE0 hbE
        refine wpAnyH_ready (rs := [4, 5]) (by kernel_rfl) (by simp) ?_
        refine AllReadyH.cons rfl (fun Kx hK => ?_) (AllReadyH.cons rfl (fun Kx hK => ?_) (AllReadyH.nil))
        · skip
          go_simp
          refine (specDo_any _ _ B E _ ⟨HS.out.1.o, HS.out.1.s⟩ ⟨HG.out.2.1.n0, HG.out.2.1.n1⟩ HE.out.1 HE.out.2.1 HE.out.2.2 (HB.out.1) (HB.out.2)).mono ?_
          rintro e wD ⟨aD, b'D, cD, dD, KD, rfl, hD, hbD⟩
          obtain ⟨ao9, co9, al9, cl9, ac9, cc9, rfl, rfl, rfl, rfl⟩ := bookAt_shape hD.bookAt
          have bD : Below w2.heap.size w2 wD := below_trans bE (Below.size bE) hbD
          have HD0 : Hid (OwnBook wD wE.heap.size (.agg #[.int .i64 (doP B E).2.n, .slice ao9 (doP B E).2.orders.length co9, .slice al9 (doP B E).2.locked.length cl9, .slice ac9 (doP B E).2.occ.length cc9]) (doP B E).2 KD) := hD
          obtain ⟨hcx, -⟩ := bcell (bD)
          refine hK.out _ _ ⟨(hcx _ _ zq0).trans c0, (hcx _ _ zq0).trans c1, (hcx _ _ zq0).trans c2, (hcx _ _ zq0).trans c3, (hcx _ _ zq1).trans e0, (hcx _ _ zq1).trans e1, (hcx _ _ zq1).trans e2, (hcx _ _ zq1).trans e3, (hcx _ _ zq1).trans e4, (hcx _ _ zq1).trans e5⟩ (fun _ => ?_)
          clear hK Kx hcx
          clear hD hbD
          refine wpAnyH_ready (rs := [5]) (by kernel_rfl) (by simp) ?_
          refine AllReadyH.cons rfl (fun Kx hK => ?_) (AllReadyH.nil)
          have HZ : Hid (DoneBox (wD.alloc (.cells #[.int .i64 (doP B E).1, .int .i64 (doP B E).2.n, .slice ao9 (doP B E).2.orders.length co9, .slice al9 (doP B E).2.locked.length cl9, .slice ac9 (doP B E).2.occ.length cc9] 35)) w2.heap.size wD.heap.size (doP B E).1 (doP B E).2 KD ∧ Below w2.heap.size w2 (wD.alloc (.cells #[.int .i64 (doP B E).1, .int .i64 (doP B E).2.n, .slice ao9 (doP B E).2.orders.length co9, .slice al9 (doP B E).2.locked.length cl9, .slice ac9 (doP B E).2.occ.length cc9] 35))) := doneBox_new HD0.out (Below.size bE) bD (Below.size bD)
          have yZ : (wD.alloc (.cells #[.int .i64 0, .int .i64 0, .slice none 0 0, .slice none 0 0, .slice none 0 0] 35)).heap[wD.heap.size]? = some (.cells #[.int .i64 0, .int .i64 0, .slice none 0 0, .slice none 0 0, .slice none 0 0] 35 (0, 0)) := Deep.blk_alloc_new _ _
          have bZ : Below w2.heap.size w2 (wD.alloc (.cells #[.int .i64 0, .int .i64 0, .slice none 0 0, .slice none 0 0, .slice none 0 0] 35)) := bD.alloc (Below.size bD) _
          go_simp
          obtain ⟨hcx, -⟩ := bcell (bZ)
          refine hK.out _ _ ⟨(hcx _ _ zq0).trans c0, (hcx _ _ zq0).trans c1, (hcx _ _ zq0).trans c2, (hcx _ _ zq0).trans c3, (hcx _ _ zq1).trans e0, (hcx _ _ zq1).trans e1, (hcx _ _ zq1).trans e2, (hcx _ _ zq1).trans e3, (hcx _ _ zq1).trans e4, (hcx _ _ zq1).trans e5⟩ (fun _ => ?_)
          clear hK Kx hcx
          refine wpAnyH_ready (rs := [6]) (by kernel_rfl) (by simp) ?_
          refine AllReadyH.cons rfl (fun Kx hK => ?_) (AllReadyH.nil)
          go_simp
          obtain ⟨hcx, -⟩ := bcell (HZ.out.2)
          refine hK.out _ _ ⟨(hcx _ _ zq0).trans c0, (hcx _ _ zq0).trans c1, (hcx _ _ zq0).trans c2, (hcx _ _ zq0).trans c3, (hcx _ _ zq1).trans e0, (hcx _ _ zq1).trans e1, (hcx _ _ zq1).trans e2, (hcx _ _ zq1).trans e3, (hcx _ _ zq1).trans e4, (hcx _ _ zq1).trans e5⟩ (fun _ => ?_)
          clear hK Kx hcx
          refine wpAnyH_done (by kernel_rfl) ?_ _
          go_simp
          refine hK0 _ _ (Met.intro (hJ0 _ _ ?_))
          (repeat apply Exists.intro)
          refine ⟨?rel, rfl⟩
          case rel => exact ⟨_, _, rfl, HZ.out.1, HZ.out.2⟩
        · skip
          have yZ : (wE.alloc (.cells #[.int .i64 0, .int .i64 0, .slice none 0 0, .slice none 0 0, .slice none 0 0] 35)).heap[wE.heap.size]? = some (.cells #[.int .i64 0, .int .i64 0, .slice none 0 0, .slice none 0 0, .slice none 0 0] 35 (0, 0)) := Deep.blk_alloc_new _ _
          have bZ : Below w2.heap.size w2 (wE.alloc (.cells #[.int .i64 0, .int .i64 0, .slice none 0 0, .slice none 0 0, .slice none 0 0] 35)) := bE.alloc (Below.size bE) _
          go_simp
          obtain ⟨hcx, -⟩ := bcell (bZ)
          refine hK.out _ _ ⟨(hcx _ _ zq0).trans c0, (hcx _ _ zq0).trans c1, (hcx _ _ zq0).trans c2, (hcx _ _ zq0).trans c3, (hcx _ _ zq1).trans e0, (hcx _ _ zq1).trans e1, (hcx _ _ zq1).trans e2, (hcx _ _ zq1).trans e3, (hcx _ _ zq1).trans e4, (hcx _ _ zq1).trans e5⟩ (fun _ => ?_)
          clear hK Kx hcx
          refine wpAnyH_ready (rs := [4]) (by kernel_rfl) (by simp) ?_
          refine AllReadyH.cons rfl (fun Kx hK => ?_) (AllReadyH.nil)
          go_simp
          refine (specDo_any _ _ B E _ ⟨HS.out.1.o, HS.out.1.s⟩ ⟨HG.out.2.1.n0, HG.out.2.1.n1⟩ HE.out.1 HE.out.2.1 HE.out.2.2 (HB.out.1.below (below1 _ _)) (HB.out.2.below (below1 _ _))).mono ?_
          rintro e wD ⟨aD, b'D, cD, dD, KD, rfl, hD, hbD⟩
          obtain ⟨ao9, co9, al9, cl9, ac9, cc9, rfl, rfl, rfl, rfl⟩ := bookAt_shape hD.bookAt
          have bD : Below w2.heap.size w2 wD := below_trans bZ (Below.size bZ) hbD
          have yD : wD.heap[wE.heap.size]? = some (.cells #[.int .i64 0, .int .i64 0, .slice none 0 0, .slice none 0 0, .slice none 0 0] 35 (0, 0)) := (hbD.block _ (by simp)).trans yZ
          have HD0 : Hid (OwnBook wD (wE.alloc (.cells #[.int .i64 0, .int .i64 0, .slice none 0 0, .slice none 0 0, .slice none 0 0] 35)).heap.size (.agg #[.int .i64 (doP B E).2.n, .slice ao9 (doP B E).2.orders.length co9, .slice al9 (doP B E).2.locked.length cl9, .slice ac9 (doP B E).2.occ.length cc9]) (doP B E).2 KD ∧ wE.heap.size < (wE.alloc (.cells #[.int .i64 0, .int .i64 0, .slice none 0 0, .slice none 0 0, .slice none 0 0] 35)).heap.size) := ⟨hD, (by simp)⟩
          obtain ⟨hcx, -⟩ := bcell (bD)
          refine hK.out _ _ ⟨(hcx _ _ zq0).trans c0, (hcx _ _ zq0).trans c1, (hcx _ _ zq0).trans c2, (hcx _ _ zq0).trans c3, (hcx _ _ zq1).trans e0, (hcx _ _ zq1).trans e1, (hcx _ _ zq1).trans e2, (hcx _ _ zq1).trans e3, (hcx _ _ zq1).trans e4, (hcx _ _ zq1).trans e5⟩ (fun _ => ?_)
          clear hK Kx hcx
          clear hD hbD
          obtain ⟨q0, q1, q2, q3, q4⟩ := done_cells yD
          have f0 : wD.frozen? ⟨wE.heap.size, 0, none⟩ = false := frozen_of_box yD
          have f1 : wD.frozen? ⟨wE.heap.size, 1, none⟩ = false := frozen_of_box yD
          have f2 : wD.frozen? ⟨wE.heap.size, 2, none⟩ = false := frozen_of_box yD
          have f3 : wD.frozen? ⟨wE.heap.size, 3, none⟩ = false := frozen_of_box yD
          have f4 : wD.frozen? ⟨wE.heap.size, 4, none⟩ = false := frozen_of_box yD
          have HZ : Hid (DoneBox (((((wD.setCell ⟨wE.heap.size, 0, none⟩ (.int .i64 (doP B E).1)).setCell ⟨wE.heap.size, 1, none⟩ (.int .i64 (doP B E).2.n)).setCell ⟨wE.heap.size, 2, none⟩ (.slice ao9 (doP B E).2.orders.length co9)).setCell ⟨wE.heap.size, 3, none⟩ (.slice al9 (doP B E).2.locked.length cl9)).setCell ⟨wE.heap.size, 4, none⟩ (.slice ac9 (doP B E).2.occ.length cc9)) w2.heap.size (wE.heap.size) (doP B E).1 (doP B E).2 KD ∧ Below w2.heap.size w2 (((((wD.setCell ⟨wE.heap.size, 0, none⟩ (.int .i64 (doP B E).1)).setCell ⟨wE.heap.size, 1, none⟩ (.int .i64 (doP B E).2.n)).setCell ⟨wE.heap.size, 2, none⟩ (.slice ao9 (doP B E).2.orders.length co9)).setCell ⟨wE.heap.size, 3, none⟩ (.slice al9 (doP B E).2.locked.length cl9)).setCell ⟨wE.heap.size, 4, none⟩ (.slice ac9 (doP B E).2.occ.length cc9))) := doneBox_put yD HD0.out.1 (Below.size bE) HD0.out.2 bD
          clear yD
          refine wpAnyH_ready (rs := [6]) (by kernel_rfl) (by simp) ?_
          refine AllReadyH.cons rfl (fun Kx hK => ?_) (AllReadyH.nil)
          go_simp
          obtain ⟨hcx, -⟩ := bcell (HZ.out.2)
          refine hK.out _ _ ⟨(hcx _ _ zq0).trans c0, (hcx _ _ zq0).trans c1, (hcx _ _ zq0).trans c2, (hcx _ _ zq0).trans c3, (hcx _ _ zq1).trans e0, (hcx _ _ zq1).trans e1, (hcx _ _ zq1).trans e2, (hcx _ _ zq1).trans e3, (hcx _ _ zq1).trans e4, (hcx _ _ zq1).trans e5⟩ (fun _ => ?_)
          clear hK Kx hcx
          refine wpAnyH_done (by kernel_rfl) ?_ _
          go_simp
          refine hK0 _ _ (Met.intro (hJ0 _ _ ?_))
          (repeat apply Exists.intro)
          refine ⟨?rel, rfl⟩
          case rel => exact ⟨_, _, rfl, HZ.out.1, HZ.out.2⟩
      · skip
        have yZ : (wA.alloc (.cells #[.int .i64 0, .int .i64 0, .slice none 0 0, .slice none 0 0, .slice none 0 0] 35)).heap[wA.heap.size]? = some (.cells #[.int .i64 0, .int .i64 0, .slice none 0 0, .slice none 0 0, .slice none 0 0] 35 (0, 0)) := Deep.blk_alloc_new _ _
        have bZ : Below w2.heap.size w2 (wA.alloc (.cells #[.int .i64 0, .int .i64 0, .slice none 0 0, .slice none 0 0, .slice none 0 0] 35)) := bA.alloc (Below.size bA) _
        go_simp
        obtain ⟨hcx, -⟩ := bcell (bZ)
        refine hK.out _ _ ⟨(hcx _ _ zq0).trans c0, (hcx _ _ zq0).trans c1, (hcx _ _ zq0).trans c2, (hcx _ _ zq0).trans c3, (hcx _ _ zq1).trans e0, (hcx _ _ zq1).trans e1, (hcx _ _ zq1).trans e2, (hcx _ _ zq1).trans e3, (hcx _ _ zq1).trans e4, (hcx _ _ zq1).trans e5⟩ (fun _ => ?_)
        clear hK Kx hcx
        refine wpAnyH_ready (rs := [3]) (by kernel_rfl) (by simp) ?_
        refine AllReadyH.cons rfl (fun Kx hK => ?_) (AllReadyH.nil)
        go_simp
        refine (toEvent_any _ E _ HE.out.2.2 (HG.out.2.2.1.below (below_trans bw2 bw2.size bZ))).mono ?_
        rintro e wE ⟨vE, gE, rfl, hE0, hbE⟩
        have bE : Below w2.heap.size w2 wE := below_trans bZ (Below.size bZ) hbE
        have yE : wE.heap[wA.heap.size]? = some (.cells #[.int .i64 0, .int .i64 0, .slice none 0 0, .slice none 0 0, .slice none 0 0] 35 (0, 0)) := (hbE.block _ (by simp)).trans yZ
        have zE : wA.heap.size < wE.heap.size := heap_lt yE
        have HB : Hid (BookAt wE vA B ∧ EvAt wE vE E) := ⟨(HA.out.below (below1 _ _)).below hbE, hE0.evAt⟩
        obtain ⟨hcx, -⟩ := bcell (bE)
        refine hK.out _ _ ⟨(hcx _ _ zq0).trans c0, (hcx _ _ zq0).trans c1, (hcx _ _ zq0).trans c2, (hcx _ _ zq0).trans c3, (hcx _ _ zq1).trans e0, (hcx _ _ zq1).trans e1, (hcx _ _ zq1).trans e2, (hcx _ _ zq1).trans e3, (hcx _ _ zq1).trans e4, (hcx _ _ zq1).trans e5⟩ (fun _ => ?_)
        clear hK Kx hcx
        clear hE0 hbE
        refine wpAnyH_ready (rs := [4]) (by kernel_rfl) (by simp) ?_
        refine AllReadyH.cons rfl (fun Kx hK => ?_) (AllReadyH.nil)
        go_simp
        refine (specDo_any _ _ B E _ ⟨HS.out.1.o, HS.out.1.s⟩ ⟨HG.out.2.1.n0, HG.out.2.1.n1⟩ HE.out.1 HE.out.2.1 HE.out.2.2 (HB.out.1) (HB.out.2)).mono ?_
        rintro e wD ⟨aD, b'D, cD, dD, KD, rfl, hD, hbD⟩
        obtain ⟨ao9, co9, al9, cl9, ac9, cc9, rfl, rfl, rfl, rfl⟩ := bookAt_shape hD.bookAt
        have bD : Below w2.heap.size w2 wD := below_trans bE (Below.size bE) hbD
        have yD : wD.heap[wA.heap.size]? = some (.cells #[.int .i64 0, .int .i64 0, .slice none 0 0, .slice none 0 0, .slice none 0 0] 35 (0, 0)) := (hbD.block _ (zE)).trans yE
        have HD0 : Hid (OwnBook wD wE.heap.size (.agg #[.int .i64 (doP B E).2.n, .slice ao9 (doP B E).2.orders.length co9, .slice al9 (doP B E).2.locked.length cl9, .slice ac9 (doP B E).2.occ.length cc9]) (doP B E).2 KD ∧ wA.heap.size < wE.heap.size) := ⟨hD, zE⟩
        obtain ⟨hcx, -⟩ := bcell (bD)
        refine hK.out _ _ ⟨(hcx _ _ zq0).trans c0, (hcx _ _ zq0).trans c1, (hcx _ _ zq0).trans c2, (hcx _ _ zq0).trans c3, (hcx _ _ zq1).trans e0, (hcx _ _ zq1).trans e1, (hcx _ _ zq1).trans e2, (hcx _ _ zq1).trans e3, (hcx _ _ zq1).trans e4, (hcx _ _ zq1).trans e5⟩ (fun _ => ?_)
        clear hK Kx hcx
        clear hD hbD
        obtain ⟨q0, q1, q2, q3, q4⟩ := done_cells yD
        have f0 : wD.frozen? ⟨wA.heap.size, 0, none⟩ = false := frozen_of_box yD
        have f1 : wD.frozen? ⟨wA.heap.size, 1, none⟩ = false := frozen_of_box yD
        have f2 : wD.frozen? ⟨wA.heap.size, 2, none⟩ = false := frozen_of_box yD
        have f3 : wD.frozen? ⟨wA.heap.size, 3, none⟩ = false := frozen_of_box yD
        have f4 : wD.frozen? ⟨wA.heap.size, 4, none⟩ = false := frozen_of_box yD
        have HZ : Hid (DoneBox (((((wD.setCell ⟨wA.heap.size, 0, none⟩ (.int .i64 (doP B E).1)).setCell ⟨wA.heap.size, 1, none⟩ (.int .i64 (doP B E).2.n)).setCell ⟨wA.heap.size, 2, none⟩ (.slice ao9 (doP B E).2.orders.length co9)).setCell ⟨wA.heap.size, 3, none⟩ (.slice al9 (doP B E).2.locked.length cl9)).setCell ⟨wA.heap.size, 4, none⟩ (.slice ac9 (doP B E).2.occ.length cc9)) w2.heap.size (wA.heap.size) (doP B E).1 (doP B E).2 KD ∧ Below w2.heap.size w2 (((((wD.setCell ⟨wA.heap.size, 0, none⟩ (.int .i64 (doP B E).1)).setCell ⟨wA.heap.size, 1, none⟩ (.int .i64 (doP B E).2.n)).setCell ⟨wA.heap.size, 2, none⟩ (.slice ao9 (doP B E).2.orders.length co9)).setCell ⟨wA.heap.size, 3, none⟩ (.slice al9 (doP B E).2.locked.length cl9)).setCell ⟨wA.heap.size, 4, none⟩ (.slice ac9 (doP B E).2.occ.length cc9))) := doneBox_put yD HD0.out.1 (Below.size bA) HD0.out.2 bD
        clear yD
        refine wpAnyH_ready (rs := [6]) (by kernel_rfl) (by simp) ?_
        refine AllReadyH.cons rfl (fun Kx hK => ?_) (AllReadyH.nil)
        go_simp
        obtain ⟨hcx, -⟩ := bcell (HZ.out.2)
        refine hK.out _ _ ⟨(hcx _ _ zq0).trans c0, (hcx _ _ zq0).trans c1, (hcx _ _ zq0).trans c2, (hcx _ _ zq0).trans c3, (hcx _ _ zq1).trans e0, (hcx _ _ zq1).trans e1, (hcx _ _ zq1).trans e2, (hcx _ _ zq1).trans e3, (hcx _ _ zq1).trans e4, (hcx _ _ zq1).trans e5⟩ (fun _ => ?_)
        clear hK Kx hcx
        refine wpAnyH_done (by kernel_rfl) ?_ _
        go_simp
        refine hK0 _ _ (Met.intro (hJ0 _ _ ?_))
        (repeat apply Exists.intro)
        refine ⟨?rel, rfl⟩
        case rel => exact ⟨_, _, rfl, HZ.out.1, HZ.out.2⟩
    · skip
      have yZ : (w2.drew.alloc (.cells #[.int .i64 0, .int .i64 0, .slice none 0 0, .slice none 0 0, .slice none 0 0] 35)).heap[w2.heap.size]? = some (.cells #[.int .i64 0, .int .i64 0, .slice none 0 0, .slice none 0 0, .slice none 0 0] 35 (0, 0)) := Deep.blk_alloc_new _ _
      have bZ : Below w2.heap.size w2 (w2.drew.alloc (.cells #[.int .i64 0, .int .i64 0, .slice none 0 0, .slice none 0 0, .slice none 0 0] 35)) := bW.alloc (Below.size bW) _
      go_simp
      obtain ⟨hcx, -⟩ := bcell (bZ)
      refine hK.out _ _ ⟨(hcx _ _ zq0).trans c0, (hcx _ _ zq0).trans c1, (hcx _ _ zq0).trans c2, (hcx _ _ zq0).trans c3, (hcx _ _ zq1).trans e0, (hcx _ _ zq1).trans e1, (hcx _ _ zq1).trans e2, (hcx _ _ zq1).trans e3, (hcx _ _ zq1).trans e4, (hcx _ _ zq1).trans e5⟩ (fun _ => ?_)
      clear hK Kx hcx
      refine wpAnyH_ready (rs := [1]) (by kernel_rfl) (by simp) ?_
      refine AllReadyH.cons rfl (fun Kx hK => ?_) (AllReadyH.nil)
      go_simp
      refine (toBook_any _ B _ HS.out.2 (HG.out.1.below (below_trans bw2 bw2.size bZ))).mono ?_
      rintro e wA ⟨vA, KA, rfl, hA0, hbA⟩
      have bA : Below w2.heap.size w2 wA := below_trans bZ (Below.size bZ) hbA
      have yA : wA.heap[w2.heap.size]? = some (.cells #[.int .i64 0, .int .i64 0, .slice none 0 0, .slice none 0 0, .slice none 0 0] 35 (0, 0)) := (hbA.block _ (by simp)).trans yZ
      have zA : w2.heap.size < wA.heap.size := heap_lt yA
      have HA : Hid (BookAt wA vA B) := hA0.bookAt
      obtain ⟨hcx, -⟩ := bcell (bA)
      refine hK.out _ _ ⟨(hcx _ _ zq0).trans c0, (hcx _ _ zq0).trans c1, (hcx _ _ zq0).trans c2, (hcx _ _ zq0).trans c3, (hcx _ _ zq1).trans e0, (hcx _ _ zq1).trans e1, (hcx _ _ zq1).trans e2, (hcx _ _ zq1).trans e3, (hcx _ _ zq1).trans e4, (hcx _ _ zq1).trans e5⟩ (fun _ => ?_)
      clear hK Kx hcx
      clear hA0 hbA
      refine wpAnyH_ready (rs := [3]) (by kernel_rfl) (by simp) ?_
      refine AllReadyH.cons rfl (fun Kx hK => ?_) (AllReadyH.nil)
      go_simp
      refine (toEvent_any _ E _ HE.out.2.2 (HG.out.2.2.1.below (below_trans bw2 bw2.size bA))).mono ?_
      rintro e wE ⟨vE, gE, rfl, hE0, hbE⟩
      have bE : Below w2.heap.size w2 wE := below_trans bA (Below.size bA) hbE
      have yE : wE.heap[w2.heap.size]? = some (.cells #[.int .i64 0, .int .i64 0, .slice none 0 0, .slice none 0 0, .slice none 0 0] 35 (0, 0)) := (hbE.block _ (zA)).trans yA
      have zE : w2.heap.size < wE.heap.size := heap_lt yE
      have HB : Hid (BookAt wE vA B ∧ EvAt wE vE E) := ⟨(HA.out).below hbE, hE0.evAt⟩
      obtain ⟨hcx, -⟩ := bcell (bE)
      refine hK.out _ _ ⟨(hcx _ _ zq0).trans c0, (hcx _ _ zq0).trans c1, (hcx _ _ zq0).trans c2, (hcx _ _ zq0).trans c3, (hcx _ _ zq1).trans e0, (hcx _ _ zq1).trans e1, (hcx _ _ zq1).trans e2, (hcx _ _ zq1).trans e3, (hcx _ _ zq1).trans e4, (hcx _ _ zq1).trans e5⟩ (fun _ => ?_)
      clear hK Kx hcx
      clear hE0 hbE
      refine wpAnyH_ready (rs := [4]) (by kernel_rfl) (by simp) ?_
      refine AllReadyH.cons rfl (fun Kx hK => ?_) (AllReadyH.nil)
      go_simp
      refine (specDo_any _ _ B E _ ⟨HS.out.1.o, HS.out.1.s⟩ ⟨HG.out.2.1.n0, HG.out.2.1.n1⟩ HE.out.1 HE.out.2.1 HE.out.2.2 (HB.out.1) (HB.out.2)).mono ?_
      rintro e wD ⟨aD, b'D, cD, dD, KD, rfl, hD, hbD⟩
      obtain ⟨ao9, co9, al9, cl9, ac9, cc9, rfl, rfl, rfl, rfl⟩ := bookAt_shape hD.bookAt
      have bD : Below w2.heap.size w2 wD := below_trans bE (Below.size bE) hbD
      have yD : wD.heap[w2.heap.size]? = some (.cells #[.int .i64 0, .int .i64 0, .slice none 0 0, .slice none 0 0, .slice none 0 0] 35 (0, 0)) := (hbD.block _ (zE)).trans yE
      have HD0 : Hid (OwnBook wD wE.heap.size (.agg #[.int .i64 (doP B E).2.n, .slice ao9 (doP B E).2.orders.length co9, .slice al9 (doP B E).2.locked.length cl9, .slice ac9 (doP B E).2.occ.length cc9]) (doP B E).2 KD ∧ w2.heap.size < wE.heap.size) := ⟨hD, zE⟩
      obtain ⟨hcx, -⟩ := bcell (bD)
      refine hK.out _ _ ⟨(hcx _ _ zq0).trans c0, (hcx _ _ zq0).trans c1, (hcx _ _ zq0).trans c2, (hcx _ _ zq0).trans c3, (hcx _ _ zq1).trans e0, (hcx _ _ zq1).trans e1, (hcx _ _ zq1).trans e2, (hcx _ _ zq1).trans e3, (hcx _ _ zq1).trans e4, (hcx _ _ zq1).trans e5⟩ (fun _ => ?_)
      clear hK Kx hcx
      clear hD hbD
      obtain ⟨q0, q1, q2, q3, q4⟩ := done_cells yD
      have f0 : wD.frozen? ⟨w2.heap.size, 0, none⟩ = false := frozen_of_box yD
      have f1 : wD.frozen? ⟨w2.heap.size, 1, none⟩ = false := frozen_of_box yD
      have f2 : wD.frozen? ⟨w2.heap.size, 2, none⟩ = false := frozen_of_box yD
      have f3 : wD.frozen? ⟨w2.heap.size, 3, none⟩ = false := frozen_of_box yD
      have f4 : wD.frozen? ⟨w2.heap.size, 4, none⟩ = false := frozen_of_box yD
      have HZ : Hid (DoneBox (((((wD.setCell ⟨w2.heap.size, 0, none⟩ (.int .i64 (doP B E).1)).setCell ⟨w2.heap.size, 1, none⟩ (.int .i64 (doP B E).2.n)).setCell ⟨w2.heap.size, 2, none⟩ (.slice ao9 (doP B E).2.orders.length co9)).setCell ⟨w2.heap.size, 3, none⟩ (.slice al9 (doP B E).2.locked.length cl9)).setCell ⟨w2.heap.size, 4, none⟩ (.slice ac9 (doP B E).2.occ.length cc9)) w2.heap.size (w2.heap.size) (doP B E).1 (doP B E).2 KD ∧ Below w2.heap.size w2 (((((wD.setCell ⟨w2.heap.size, 0, none⟩ (.int .i64 (doP B E).1)).setCell ⟨w2.heap.size, 1, none⟩ (.int .i64 (doP B E).2.n)).setCell ⟨w2.heap.size, 2, none⟩ (.slice ao9 (doP B E).2.orders.length co9)).setCell ⟨w2.heap.size, 3, none⟩ (.slice al9 (doP B E).2.locked.length cl9)).setCell ⟨w2.heap.size, 4, none⟩ (.slice ac9 (doP B E).2.occ.length cc9))) := doneBox_put yD HD0.out.1 (Nat.le_refl _) HD0.out.2 bD
      clear yD
      refine wpAnyH_ready (rs := [6]) (by kernel_rfl) (by simp) ?_
      refine AllReadyH.cons rfl (fun Kx hK => ?_) (AllReadyH.nil)
      go_simp
      obtain ⟨hcx, -⟩ := bcell (HZ.out.2)
      refine hK.out _ _ ⟨(hcx _ _ zq0).trans c0, (hcx _ _ zq0).trans c1, (hcx _ _ zq0).trans c2, (hcx _ _ zq0).trans c3, (hcx _ _ zq1).trans e0, (hcx _ _ zq1).trans e1, (hcx _ _ zq1).trans e2, (hcx _ _ zq1).trans e3, (hcx _ _ zq1).trans e4, (hcx _ _ zq1).trans e5⟩ (fun _ => ?_)
      clear hK Kx hcx
      refine wpAnyH_done (by kernel_rfl) ?_ _
      go_simp
      refine hK0 _ _ (Met.intro (hJ0 _ _ ?_))
      (repeat apply Exists.intro)
      refine ⟨?rel, rfl⟩
      case rel => exact ⟨_, _, rfl, HZ.out.1, HZ.out.2⟩
  case rest =>
    obtain ⟨P0, K0, rfl, hD0, hbc⟩ := hcut
    obtain ⟨w3, hw3⟩ : ∃ x, x = wc := ⟨_, rfl⟩
    subst hw3
    have H3 : Hid (St w w3 B E ao co al cl ac cc ad ca w2.heap.size P0 (doP B E).1 (doP B E).2 K0 w3.heap.size) := ⟨(hbc.block _ zq0).trans HX2.out.1, (hbc.block _ zq1).trans HX2.out.2, below_trans bw2 bw2.size hbc, Nat.lt_of_lt_of_le zq1 hbc.size, Nat.le_refl _, hD0, hD0.lt.1, fun x hx => (hD0.lt.2 x hx).2⟩
    have HQ : Hid ((doP B E).2.orders.length ≤ 1048576 ∧ (∀ i, i < (doP B E).2.orders.length → ((doP B E).2.orders.getD i Ord.zero).secs.length ≤ 4294967296) ∧ (doP B E).2.locked.length ≤ 4294967296 ∧ (doP B E).2.occ.length ≤ 4294967296 ∧ bEnd (doP B E).2 1 ≤ 2305843009213693952) := ⟨Nat.le_trans (tiny_doP B E).o (by decide), fun i hi => Nat.le_trans ((tiny_doP B E).s i hi) (by decide), Nat.le_trans (tiny_doP B E).l (by decide), Nat.le_trans (tiny_doP B E).c (by decide), bEnd_tiny (tiny_doP B E)⟩
    have HEnd : Hid (bEnd B 1 ≤ 2305843009213693952) := bEnd_small' HS.out.2
    clear c0 c1 c2 c3 e0 e1 e2 e3 e4 e5 HX2 bw2 zq0 zq1 hD0 hbc
    obtain ⟨c0, c1, c2, c3⟩ := box_cells H3.out.lb
    go_wp2_with fail
    -- x0 := toBook(aB)
    refine (toBook_any _ B _ HS.out.2 (HG.out.1.below H3.out.bw)).mono ?_
    rintro e w4 ⟨v4, K4, rfl, h4, hb⟩
    obtain ⟨ao4, co4, al4, cl4, ac4, cc4, hv4, -⟩ := h4.shape
    subst hv4
    have z34 : w3.heap.size ≤ w4.heap.size := hb.size
    have H4 : Hid (St w w4 B E ao co al cl ac cc ad ca w2.heap.size P0 (doP B E).1 (doP B E).2 K0 w3.heap.size ∧ OwnBook w4 w3.heap.size (.agg #[.int .i64 B.n, .slice ao4 B.orders.length co4, .slice al4 B.locked.length cl4, .slice ac4 B.occ.length cc4]) B K4) := ⟨H3.out.below hb, h4⟩
    clear h4 hb H3 c0 c1 c2 c3
    obtain ⟨e0, e1, e2, e3, e4, e5⟩ := ev_cells H4.out.1.le
    have y4 : w.heap.size + 1 < w4.heap.size := heap_lt H4.out.1.le
    go_wp2_with fail
    -- x1 := toEvent(aE)
    refine (toEvent_any _ E _ HE.out.2.2 (HG.out.2.2.1.below (H4.out.1.below (below1 _ _)).bw)).mono ?_
    rintro e w5 ⟨v5, g5, rfl, h5, hb⟩
    have hv5 := h5.1
    subst hv5
    have sz : (w4.alloc (.cells #[.int .i64 B.n, .slice ao4 B.orders.length co4, .slice al4 B.locked.length cl4, .slice ac4 B.occ.length cc4] 33)).heap.size = w4.heap.size + 1 := by simp
    have z45 : w4.heap.size + 1 ≤ w5.heap.size := by have := hb.size; omega
    have H5 : Hid (St w w5 B E ao co al cl ac cc ad ca w2.heap.size P0 (doP B E).1 (doP B E).2 K0 w3.heap.size ∧ XB w5 B ao4 co4 al4 cl4 ac4 cc4 w3.heap.size w4.heap.size K4 ∧ OwnEv w5 (w4.heap.size + 1) (.agg #[.int .i64 E.op, .int .i64 E.of_, .string E.holder, .int .i64 E.kind, .slice (some ⟨g5, 0, none⟩) E.secs.length E.secs.length, .string E.text]) E g5) :=
      ⟨(H4.out.1.below (below1 _ _)).below hb, XB.below (wX := w4.alloc (.cells #[.int .i64 B.n, .slice ao4 B.orders.length co4, .slice al4 B.locked.length cl4, .slice ac4 B.occ.length cc4] 33)) ⟨Deep.blk_alloc_new _ _, H4.out.2.below (below1 _ _), fun x hx => ⟨H4.out.2.blocks_low hx, H4.out.2.blocks_lt hx⟩⟩ hb, by rw [← sz]; exact h5⟩
    clear h5 hb H4 sz y4 e0 e1 e2 e3 e4 e5
    obtain ⟨d0, d1, d2, d3⟩ := box_cells H5.out.2.1.box
    have y5 : w4.heap.size < w5.heap.size := heap_lt H5.out.2.1.box
    go_wp2_with fail
    -- g0 := impl.Do(x0, x1)
    refine (implDo_any A _ _ B E _ (HT.out.1.below (H5.out.1.below (below1 _ _)).bw) (tab_below HT.out.2 (H5.out.1.below (below1 _ _)).bw) ⟨HS.out.1.o, HS.out.1.s⟩ HE.out.1 HE.out.2.1 HE.out.2.2 (H5.out.2.1.below (below1 _ _)).own.bookAt (H5.out.2.2.below (below1 _ _)).evAt).mono ?_
    rintro e w6 ⟨a6, b6, c6, d6, K6, rfl, h6, hb⟩
    obtain ⟨ao6, co6, al6, cl6, ac6, cc6, rfl, rfl, rfl, rfl⟩ := bookAt_shape h6.bookAt
    have sz : (w5.alloc (.cells #[.int .i64 E.op, .int .i64 E.of_, .string E.holder, .int .i64 E.kind, .slice (some ⟨g5, 0, none⟩) E.secs.length E.secs.length, .string E.text] 38)).heap.size = w5.heap.size + 1 := by simp
    have z56 : w5.heap.size + 1 ≤ w6.heap.size := by have := hb.size; omega
    have H6 : Hid (St w w6 B E ao co al cl ac cc ad ca w2.heap.size P0 (doP B E).1 (doP B E).2 K0 w3.heap.size ∧ XB w6 B ao4 co4 al4 cl4 ac4 cc4 w3.heap.size w4.heap.size K4 ∧ XE w6 E (w4.heap.size + 1) w5.heap.size g5 ∧ OwnBook w6 (w5.heap.size + 1) (.agg #[.int .i64 (doP B E).2.n, .slice ao6 (doP B E).2.orders.length co6, .slice al6 (doP B E).2.locked.length cl6, .slice ac6 (doP B E).2.occ.length cc6]) (doP B E).2 K6) :=
      ⟨(H5.out.1.below (below1 _ _)).below hb, (H5.out.2.1.below (below1 _ _)).below hb, XE.below (wX := w5.alloc (.cells #[.int .i64 E.op, .int .i64 E.of_, .string E.holder, .int .i64 E.kind, .slice (some ⟨g5, 0, none⟩) E.secs.length E.secs.length, .string E.text] 38)) ⟨Deep.blk_alloc_new _ _, H5.out.2.2.below (below1 _ _), H5.out.2.2.2.1, H5.out.2.2.2.2.lt⟩ hb, by rw [← sz]; exact h6⟩
    clear h6 hb H5 sz y5 d0 d1 d2 d3
    obtain ⟨ao0, co0, al0, cl0, ac0, cc0, y0, o0⟩ := H6.out.1.D.open
    have HY : Hid (BookAt w6 (.agg #[.int .i64 (doP B E).2.n, .slice ao0 (doP B E).2.orders.length co0, .slice al0 (doP B E).2.locked.length cl0, .slice ac0 (doP B E).2.occ.length cc0]) (doP B E).2) := o0.bookAt
    obtain ⟨p0, p1, p2, p3, p4⟩ := done_cells y0
    have y6 : P0 < w6.heap.size := heap_lt y0
    clear y0 o0
    go_wp2_with fail
    -- eqDone(g0, w0)
    refine (eqDone_same _ _ _ _ _ _ _ _ _ (doP B E).2 _ HQ.out.1 HQ.out.2.1 HQ.out.2.2.1 HQ.out.2.2.2.1 (H6.out.2.2.2.bookAt.below (below1 _ _)) (HY.out.below (below1 _ _))).mono ?_
    rintro e w7 ⟨rfl, hb⟩
    have H7 : Hid (St w w7 B E ao co al cl ac cc ad ca w2.heap.size P0 (doP B E).1 (doP B E).2 K0 w3.heap.size ∧ XB w7 B ao4 co4 al4 cl4 ac4 cc4 w3.heap.size w4.heap.size K4 ∧ XE w7 E (w4.heap.size + 1) w5.heap.size g5 ∧ DoneBox w7 (w5.heap.size + 1) w6.heap.size (doP B E).1 (doP B E).2 K6) :=
      ⟨(H6.out.1.below (below1 _ _)).below hb, (H6.out.2.1.below (below1 _ _)).below hb, (H6.out.2.2.1.below (below1 _ _)).below hb, (doneBox_new (W := w6) H6.out.2.2.2 (Nat.le_refl _) (Below.refl _ _) z56).1.below hb⟩
    clear hb H6 HY y6 p0 p1 p2 p3 p4
    obtain ⟨d0, d1, d2, d3⟩ := box_cells H7.out.2.1.box
    obtain ⟨c0, c1, c2, c3⟩ := box_cells H7.out.1.lb
    have y1 : w.heap.size < w7.heap.size := heap_lt H7.out.1.lb
    have y2 : w4.heap.size < w7.heap.size := heap_lt H7.out.2.1.box
    go_wp2
    -- eqBook(x0, toBook(aB))
    go_region_held3 (fun w' => w'.cell? ⟨w4.heap.size, 0, none⟩ = some (.int .i64 B.n) ∧ w'.cell? ⟨w4.heap.size, 1, none⟩ = some (.slice ao4 B.orders.length co4) ∧ w'.cell? ⟨w4.heap.size, 2, none⟩ = some (.slice al4 B.locked.length cl4) ∧ w'.cell? ⟨w4.heap.size, 3, none⟩ = some (.slice ac4 B.occ.length cc4) ∧ w'.cell? ⟨w.heap.size, 0, none⟩ = some (.int .i64 B.n) ∧ w'.cell? ⟨w.heap.size, 1, none⟩ = some (.slice ao B.orders.length co) ∧ w'.cell? ⟨w.heap.size, 2, none⟩ = some (.slice al B.locked.length cl) ∧ w'.cell? ⟨w.heap.size, 3, none⟩ = some (.slice ac B.occ.length cc)) (go_keep)
      (first | (go_at_call 9; refine (toBook_any _ B _ HS.out.2 (HG.out.1.below H7.out.1.bw.drew)).mono ?_; rintro e wA ⟨vA, KA, rfl, hA, hbA⟩; have hbR : Below w7.heap.size w7 wA := (Below.refl _ _).drew.trans hbA; obtain ⟨hc1, hf1⟩ := bcell hbR; have HA : Hid (BookAt wA vA B ∧ Below w7.heap.size w7 wA) := ⟨hA.bookAt, hbR⟩; clear hf1 hbA hbR hA) | (go_at_call 13; refine (eqBook_same _ _ B _ HS.out.1.o HS.out.1.e HS.out.1.l HS.out.1.c (H7.out.2.1.below HA.out.2).own.bookAt HA.out.1).mono ?_; rintro e w8 ⟨rfl, hb8⟩; have hbR : Below w7.heap.size w7 w8 := below_trans HA.out.2 HA.out.2.size hb8; obtain ⟨hc1, hf1⟩ := bcell hbR; clear hf1 hb8))
    have H8 : Hid (St w w8 B E ao co al cl ac cc ad ca w2.heap.size P0 (doP B E).1 (doP B E).2 K0 w3.heap.size ∧ XB w8 B ao4 co4 al4 cl4 ac4 cc4 w3.heap.size w4.heap.size K4 ∧ XE w8 E (w4.heap.size + 1) w5.heap.size g5 ∧ DoneBox w8 (w5.heap.size + 1) w6.heap.size (doP B E).1 (doP B E).2 K6) := ⟨H7.out.1.below hbR, H7.out.2.1.below hbR, H7.out.2.2.1.below hbR, H7.out.2.2.2.below hbR⟩
    clear hc1 hbR HA H7 d0 d1 d2 d3 c0 c1 c2 c3 y1 y2
    obtain ⟨x0, x1, x2, x3, x4, x5⟩ := ev_cells H8.out.2.2.1.box
    obtain ⟨e0, e1, e2, e3, e4, e5⟩ := ev_cells H8.out.1.le
    have y1 : w.heap.size + 1 < w8.heap.size := heap_lt H8.out.1.le
    have y2 : w5.heap.size < w8.heap.size := heap_lt H8.out.2.2.1.box
    go_wp2
    -- eqEvent(x1, toEvent(aE))
    go_region_held3 (fun w' => w'.cell? ⟨w5.heap.size, 0, none⟩ = some (.int .i64 E.op) ∧ w'.cell? ⟨w5.heap.size, 1, none⟩ = some (.int .i64 E.of_) ∧ w'.cell? ⟨w5.heap.size, 2, none⟩ = some (.string E.holder) ∧ w'.cell? ⟨w5.heap.size, 3, none⟩ = some (.int .i64 E.kind) ∧ w'.cell? ⟨w5.heap.size, 4, none⟩ = some (.slice (some ⟨g5, 0, none⟩) E.secs.length E.secs.length) ∧ w'.cell? ⟨w5.heap.size, 5, none⟩ = some (.string E.text) ∧ w'.cell? ⟨w.heap.size + 1, 0, none⟩ = some (.int .i64 E.op) ∧ w'.cell? ⟨w.heap.size + 1, 1, none⟩ = some (.int .i64 E.of_) ∧ w'.cell? ⟨w.heap.size + 1, 2, none⟩ = some (.string E.holder) ∧ w'.cell? ⟨w.heap.size + 1, 3, none⟩ = some (.int .i64 E.kind) ∧ w'.cell? ⟨w.heap.size + 1, 4, none⟩ = some (.slice ad E.secs.length ca) ∧ w'.cell? ⟨w.heap.size + 1, 5, none⟩ = some (.string E.text)) (go_keep)
      (first | (go_at_call 10; refine (toEvent_any _ E _ HE.out.2.2 (HG.out.2.2.1.below H8.out.1.bw.drew)).mono ?_; rintro e wA ⟨vA, gA, rfl, hA, hbA⟩; have hbR : Below w8.heap.size w8 wA := (Below.refl _ _).drew.trans hbA; obtain ⟨hc1, hf1⟩ := bcell hbR; have HA : Hid (EvAt wA vA E ∧ Below w8.heap.size w8 wA) := ⟨hA.evAt, hbR⟩; clear hf1 hbA hbR hA) | (go_at_call 14; refine (eqEvent_same _ _ E _ HE.out.2.2 (H8.out.2.2.1.below HA.out.2).own.evAt HA.out.1).mono ?_; rintro e w9 ⟨rfl, hb9⟩; have hbR : Below w8.heap.size w8 w9 := below_trans HA.out.2 HA.out.2.size hb9; obtain ⟨hc1, hf1⟩ := bcell hbR; clear hf1 hb9))
    have H9 : Hid (St w w9 B E ao co al cl ac cc ad ca w2.heap.size P0 (doP B E).1 (doP B E).2 K0 w3.heap.size ∧ XB w9 B ao4 co4 al4 cl4 ac4 cc4 w3.heap.size w4.heap.size K4 ∧ XE w9 E (w4.heap.size + 1) w5.heap.size g5 ∧ DoneBox w9 (w5.heap.size + 1) w6.heap.size (doP B E).1 (doP B E).2 K6) := ⟨H8.out.1.below hbR, H8.out.2.1.below hbR, H8.out.2.2.1.below hbR, H8.out.2.2.2.below hbR⟩
    clear hc1 hbR HA H8 x0 x1 x2 x3 x4 x5 e0 e1 e2 e3 e4 e5 y1 y2
    obtain ⟨d0, d1, d2, d3⟩ := box_cells H9.out.2.1.box
    go_wp2_with fail
    -- markBook(x0, 1)
    have hm := markBook_any (.agg #[.int .i64 B.n, .slice ao4 B.orders.length co4, .slice al4 B.locked.length cl4, .slice ac4 B.occ.length cc4]) B K4 w3.heap.size 1 w9 (by omega) HEnd.out HS.out.1.o H9.out.2.1.own
    refine hm.mono ?_
    clear hm
    rintro e wa ⟨rfl, -, fa⟩
    have Ha : Hid (St w wa B E ao co al cl ac cc ad ca w2.heap.size P0 (doP B E).1 (doP B E).2 K0 w3.heap.size ∧ XE wa E (w4.heap.size + 1) w5.heap.size g5 ∧ DoneBox wa (w5.heap.size + 1) w6.heap.size (doP B E).1 (doP B E).2 K6) := by
      have hk := H9.out.2.1.k
      refine ⟨H9.out.1.fr fa (fun x hx => (hk x hx).1), H9.out.2.2.1.fr fa (fun x hx => by have := (hk x hx).2; omega), H9.out.2.2.2.fr fa (fun hx => by have := (hk _ hx).2; omega) (fun x hx hy => by have := (hk x hy).2; have := (H9.out.2.2.2.lt.2 x hx).1; omega)⟩
    clear fa H9 d0 d1 d2 d3
    obtain ⟨x0, x1, x2, x3, x4, x5⟩ := ev_cells Ha.out.2.1.box
    go_wp2_with fail
    -- markEvent(x1, k)
    refine (markEvent_any _ E (w4.heap.size + 1) g5 (bEnd B 1 : Int) wa (by omega) (by have := HEnd.out; have := HE.out.2.2; omega) Ha.out.2.1.own).mono ?_
    rintro e wb ⟨rfl, fb⟩
    have Hb : Hid (St w wb B E ao co al cl ac cc ad ca w2.heap.size P0 (doP B E).1 (doP B E).2 K0 w3.heap.size ∧ DoneBox wb (w5.heap.size + 1) w6.heap.size (doP B E).1 (doP B E).2 K6) := by
      have g0 := Ha.out.2.1.g0
      have g1 := Ha.out.2.1.g1
      refine ⟨Ha.out.1.fr fb (fun x hx => by (try dsimp only at hx); omega), Ha.out.2.2.fr fb (fun hx => by (try dsimp only at hx); omega) (fun x hx hy => by (try dsimp only at hy); have := (Ha.out.2.2.lt.2 x hx).1; omega)⟩
    have nn : (0 : Int) ≤ (bEnd B 1 : Int) + E.secs.length := by omega
    clear fb Ha x0 x1 x2 x3 x4 x5
    obtain ⟨aoD, coD, alD, clD, acD, ccD, yD, oD⟩ := Hb.out.2.open
    obtain ⟨ao0, co0, al0, cl0, ac0, cc0, y0, o0⟩ := Hb.out.1.D.open
    have HY : Hid (OwnBook wb (w5.heap.size + 1) (.agg #[.int .i64 (doP B E).2.n, .slice aoD (doP B E).2.orders.length coD, .slice alD (doP B E).2.locked.length clD, .slice acD (doP B E).2.occ.length ccD]) (doP B E).2 K6 ∧ BookAt wb (.agg #[.int .i64 (doP B E).2.n, .slice ao0 (doP B E).2.orders.length co0, .slice al0 (doP B E).2.locked.length cl0, .slice ac0 (doP B E).2.occ.length cc0]) (doP B E).2 ∧ wb.heap[w6.heap.size]? = some (.cells #[.int .i64 (doP B E).1, .int .i64 (doP B E).2.n, .slice aoD (doP B E).2.orders.length coD, .slice alD (doP B E).2.locked.length clD, .slice acD (doP B E).2.occ.length ccD] 35 (0, 0))) := ⟨oD, o0.bookAt, yD⟩
    obtain ⟨p0, p1, p2, p3, p4⟩ := done_cells y0
    obtain ⟨q0, q1, q2, q3, q4⟩ := done_cells yD
    clear y0 o0 yD oD
    go_wp2_with fail
    -- eqDone(g0, w0) again
    refine (eqDone_same _ _ _ _ _ _ _ _ _ (doP B E).2 _ HQ.out.1 HQ.out.2.1 HQ.out.2.2.1 HQ.out.2.2.2.1 HY.out.1.bookAt HY.out.2.1).mono ?_
    rintro e wd ⟨rfl, hb⟩
    have Hd : Hid (St w wd B E ao co al cl ac cc ad ca w2.heap.size P0 (doP B E).1 (doP B E).2 K0 w3.heap.size ∧ OwnBook wd (w5.heap.size + 1) (.agg #[.int .i64 (doP B E).2.n, .slice aoD (doP B E).2.orders.length coD, .slice alD (doP B E).2.locked.length clD, .slice acD (doP B E).2.occ.length ccD]) (doP B E).2 K6 ∧ wd.heap[w6.heap.size]? = some (.cells #[.int .i64 (doP B E).1, .int .i64 (doP B E).2.n, .slice aoD (doP B E).2.orders.length coD, .slice alD (doP B E).2.locked.length clD, .slice acD (doP B E).2.occ.length ccD] 35 (0, 0)) ∧ ∀ x, bookBlocks (doP B E).2 K6 x → x ≠ w6.heap.size) := ⟨Hb.out.1.below hb, HY.out.1.below hb, (hb.block _ (heap_lt HY.out.2.2)).trans HY.out.2.2, by obtain ⟨_, _, _, _, _, _, _, h⟩ := Hb.out.2; exact h⟩
    clear hb Hb HY p0 p1 p2 p3 p4 q0 q1 q2 q3 q4
    obtain ⟨q0, q1, q2, q3, q4⟩ := done_cells Hd.out.2.2.1
    go_wp2_with fail
    -- markDone(g0, 1)
    have hm := markDone_any (doP B E).1 _ _ _ _ (doP B E).2 K6 (w5.heap.size + 1) 1 wd (by omega) HQ.out.2.2.2.2 HQ.out.1 Hd.out.2.1
    refine hm.mono ?_
    clear hm
    rintro e we ⟨rfl, he, fe⟩
    have He : Hid (St w we B E ao co al cl ac cc ad ca w2.heap.size P0 (doP B E).1 (doP B E).2 K0 w3.heap.size ∧ XD we (doP B E).1 (doP B E).2 aoD coD alD clD acD ccD w6.heap.size) :=
      ⟨Hd.out.1.fr fe (fun x hx => by have := Hd.out.2.1.blocks_low hx; omega), ⟨(fe.block _ (heap_lt Hd.out.2.2.1) (fun hx => Hd.out.2.2.2 _ hx rfl)).trans Hd.out.2.2.1, he.bookAt⟩⟩
    clear he fe Hd q0 q1 q2 q3 q4
    obtain ⟨q0, q1, q2, q3, q4⟩ := done_cells He.out.2.box
    go_wp2_with fail
    -- heldDone(g0, 1)
    have hm := heldDone_any (doP B E).1 _ _ _ _ (doP B E).2 1 we (by omega) HQ.out.2.2.2.2 HQ.out.1 He.out.2.at_
    refine hm.mono ?_
    clear hm
    rintro e wf ⟨rfl, hb⟩
    have Hf : Hid (St w wf B E ao co al cl ac cc ad ca w2.heap.size P0 (doP B E).1 (doP B E).2 K0 w3.heap.size ∧ XD wf (doP B E).1 (doP B E).2 aoD coD alD clD acD ccD w6.heap.size) := ⟨He.out.1.below hb, He.out.2.below hb⟩
    have nn2 : (0 : Int) ≤ (bEnd (doP B E).2 1 : Int) := by omega
    have bwf := Hf.out.1.bw
    clear hb He nn q0 q1 q2 q3 q4
    obtain ⟨c0, c1, c2, c3⟩ := box_cells Hf.out.1.lb
    obtain ⟨e0, e1, e2, e3, e4, e5⟩ := ev_cells Hf.out.1.le
    have zq0 : w.heap.size < wf.heap.size := heap_lt Hf.out.1.lb
    have zq1 : w.heap.size + 1 < wf.heap.size := heap_lt Hf.out.1.le
    go_wp2
    -- h0 := impl.Do(toBook(aB), toEvent(aE))
    go_cut [13] (fun t wc' => ∃ (P9 : Nat) (K9 : Blk), t = .pointer (some ⟨P9, 0, none⟩) ∧ DoneBox wc' wf.heap.size P9 (doP B E).1 (doP B E).2 K9 ∧ Below wf.heap.size wf wc')
    case first =>
      rename_i J0 K0 hJ0 hK0
      refine wp_region_held_drew (S := (fun w' => w'.cell? ⟨w.heap.size, 0, none⟩ = some (.int .i64 B.n) ∧ w'.cell? ⟨w.heap.size, 1, none⟩ = some (.slice ao B.orders.length co) ∧ w'.cell? ⟨w.heap.size, 2, none⟩ = some (.slice al B.locked.length cl) ∧ w'.cell? ⟨w.heap.size, 3, none⟩ = some (.slice ac B.occ.length cc) ∧ w'.cell? ⟨w.heap.size + 1, 0, none⟩ = some (.int .i64 E.op) ∧ w'.cell? ⟨w.heap.size + 1, 1, none⟩ = some (.int .i64 E.of_) ∧ w'.cell? ⟨w.heap.size + 1, 2, none⟩ = some (.string E.holder) ∧ w'.cell? ⟨w.heap.size + 1, 3, none⟩ = some (.int .i64 E.kind) ∧ w'.cell? ⟨w.heap.size + 1, 4, none⟩ = some (.slice ad E.secs.length ca) ∧ w'.cell? ⟨w.heap.size + 1, 5, none⟩ = some (.string E.text))) (by kernel_rfl) ⟨c0, c1, c2, c3, e0, e1, e2, e3, e4, e5⟩ (fun hS0 => ?_)
      have bW : Below wf.heap.size wf wf.drew := (Below.refl _ _).drew
      refine wpAnyH_take (i := 0) (v := ?_) rfl (by kernel_rfl) (by kernel_rfl) (by kernel_rfl) (fun _ _ _ h => h) (Or.inl ⟨by kernel_rfl, ?_⟩) (by assumption) ?_
      rotate_left 1
      · (intro w hSw; (try dsimp only at hSw); go_simp; try (with_reducible rfl))
      refine wpAnyH_take (i := 2) (v := ?_) rfl (by kernel_rfl) (by kernel_rfl) (by kernel_rfl) (fun _ _ _ h => h) (Or.inl ⟨by kernel_rfl, ?_⟩) (by assumption) ?_
      rotate_left 1
      · (intro w hSw; (try dsimp only at hSw); go_simp; try (with_reducible rfl))
      refine wpAnyH_ready (rs := [1, 5]) (by kernel_rfl) (by simp) ?_
      refine AllReadyH.cons rfl (fun Kx hK => ?_) (AllReadyH.cons rfl (fun Kx hK => ?_) (AllReadyH.nil))
      · skip
        go_simp
        refine (toBook_any _ B _ HS.out.2 (HG.out.1.below (below_trans bwf bwf.size bW))).mono ?_
        rintro e wA ⟨vA, KA, rfl, hA0, hbA⟩
        have bA : Below wf.heap.size wf wA := below_trans bW (Below.size bW) hbA
        have HA : Hid (BookAt wA vA B) := hA0.bookAt
        obtain ⟨hcx, -⟩ := bcell (bA)
        refine hK.out _ _ ⟨(hcx _ _ zq0).trans c0, (hcx _ _ zq0).trans c1, (hcx _ _ zq0).trans c2, (hcx _ _ zq0).trans c3, (hcx _ _ zq1).trans e0, (hcx _ _ zq1).trans e1, (hcx _ _ zq1).trans e2, (hcx _ _ zq1).trans e3, (hcx _ _ zq1).trans e4, (hcx _ _ zq1).trans e5⟩ (fun _ => ?_)
        clear hK Kx hcx
        clear hA0 hbA
        refine wpAnyH_ready (rs := [3, 5]) (by kernel_rfl) (by simp) ?_
        refine AllReadyH.cons rfl (fun Kx hK => ?_) (AllReadyH.cons rfl (fun Kx hK => ?_) (AllReadyH.nil))
        · skip
          go_simp
          refine (toEvent_any _ E _ HE.out.2.2 (HG.out.2.2.1.below (below_trans bwf bwf.size bA))).mono ?_
          rintro e wE ⟨vE, gE, rfl, hE0, hbE⟩
          have bE : Below wf.heap.size wf wE := below_trans bA (Below.size bA) hbE
          have HB : Hid (BookAt wE vA B ∧ EvAt wE vE E) := ⟨(HA.out).below hbE, hE0.evAt⟩
          obtain ⟨hcx, -⟩ := bcell (bE)
          refine hK.out _ _ ⟨(hcx _ _ zq0).trans c0, (hcx _ _ zq0).trans c1, (hcx _ _ zq0).trans c2, (hcx _ _ zq0).trans c3, (hcx _ _ zq1).trans e0, (hcx _ _ zq1).trans e1, (hcx _ _ zq1).trans e2, (hcx _ _ zq1).trans e3, (hcx _ _ zq1).trans e4, (hcx _ _ zq1).trans e5⟩ (fun _ => ?_)
          clear hK Kx hcx
          clear hE0 hbE
          refine wpAnyH_ready (rs := [4, 5]) (by kernel_rfl) (by simp) ?_
          refine AllReadyH.cons rfl (fun Kx hK => ?_) (AllReadyH.cons rfl (fun Kx hK => ?_) (AllReadyH.nil))
          · skip
            go_simp
            refine (implDo_any A _ _ B E _ (HT.out.1.below (below_trans bwf bwf.size bE)) (tab_below HT.out.2 (below_trans bwf bwf.size bE)) ⟨HS.out.1.o, HS.out.1.s⟩ HE.out.1 HE.out.2.1 HE.out.2.2 (HB.out.1) (HB.out.2)).mono ?_
            rintro e wD ⟨aD, b'D, cD, dD, KD, rfl, hD, hbD⟩
            obtain ⟨ao9, co9, al9, cl9, ac9, cc9, rfl, rfl, rfl, rfl⟩ := bookAt_shape hD.bookAt
            have bD : Below wf.heap.size wf wD := below_trans bE (Below.size bE) hbD
            have HD0 : Hid (OwnBook wD wE.heap.size (.agg #[.int .i64 (doP B E).2.n, .slice ao9 (doP B E).2.orders.length co9, .slice al9 (doP B E).2.locked.length cl9, .slice ac9 (doP B E).2.occ.length cc9]) (doP B E).2 KD) := hD
            obtain ⟨hcx, -⟩ := bcell (bD)
            refine hK.out _ _ ⟨(hcx _ _ zq0).trans c0, (hcx _ _ zq0).trans c1, (hcx _ _ zq0).trans c2, (hcx _ _ zq0).trans c3, (hcx _ _ zq1).trans e0, (hcx _ _ zq1).trans e1, (hcx _ _ zq1).trans e2, (hcx _ _ zq1).trans e3, (hcx _ _ zq1).trans e4, (hcx _ _ zq1).trans e5⟩ (fun _ => ?_)
            clear hK Kx hcx
            clear hD hbD
            refine wpAnyH_ready (rs := [5]) (by kernel_rfl) (by simp) ?_
            refine AllReadyH.cons rfl (fun Kx hK => ?_) (AllReadyH.nil)
            have HZ : Hid (DoneBox (wD.alloc (.cells #[.int .i64 (doP B E).1, .int .i64 (doP B E).2.n, .slice ao9 (doP B E).2.orders.length co9, .slice al9 (doP B E).2.locked.length cl9, .slice ac9 (doP B E).2.occ.length cc9] 35)) wf.heap.size wD.heap.size (doP B E).1 (doP B E).2 KD ∧ Below wf.heap.size wf (wD.alloc (.cells #[.int .i64 (doP B E).1, .int .i64 (doP B E).2.n, .slice ao9 (doP B E).2.orders.length co9, .slice al9 (doP B E).2.locked.length cl9, .slice ac9 (doP B E).2.occ.length cc9] 35))) := doneBox_new HD0.out (Below.size bE) bD (Below.size bD)
            have yZ : (wD.alloc (.cells #[.int .i64 0, .int .i64 0, .slice none 0 0, .slice none 0 0, .slice none 0 0] 35)).heap[wD.heap.size]? = some (.cells #[.int .i64 0, .int .i64 0, .slice none 0 0, .slice none 0 0, .slice none 0 0] 35 (0, 0)) := Deep.blk_alloc_new _ _
            have bZ : Below wf.heap.size wf (wD.alloc (.cells #[.int .i64 0, .int .i64 0, .slice none 0 0, .slice none 0 0, .slice none 0 0] 35)) := bD.alloc (Below.size bD) _
            go_simp
            obtain ⟨hcx, -⟩ := bcell (bZ)
            refine hK.out _ _ ⟨(hcx _ _ zq0).trans c0, (hcx _ _ zq0).trans c1, (hcx _ _ zq0).trans c2, (hcx _ _ zq0).trans c3, (hcx _ _ zq1).trans e0, (hcx _ _ zq1).trans e1, (hcx _ _ zq1).trans e2, (hcx _ _ zq1).trans e3, (hcx _ _ zq1).trans e4, (hcx _ _ zq1).trans e5⟩ (fun _ => ?_)
            clear hK Kx hcx
            refine wpAnyH_ready (rs := [6]) (by kernel_rfl) (by simp) ?_
            refine AllReadyH.cons rfl (fun Kx hK => ?_) (AllReadyH.nil)
            go_simp
            obtain ⟨hcx, -⟩ := bcell (HZ.out.2)
            refine hK.out _ _ ⟨(hcx _ _ zq0).trans c0, (hcx _ _ zq0).trans c1, (hcx _ _ zq0).trans c2, (hcx _ _ zq0).trans c3, (hcx _ _ zq1).trans e0, (hcx _ _ zq1).trans e1, (hcx _ _ zq1).trans e2, (hcx _ _ zq1).trans e3, (hcx _ _ zq1).trans e4, (hcx _ _ zq1).trans e5⟩ (fun _ => ?_)
            clear hK Kx hcx
            refine wpAnyH_done (by kernel_rfl) ?_ _
            go_simp
            refine hK0 _ _ (Met.intro (hJ0 _ _ ?_))
            (repeat apply Exists.intro)
            refine ⟨?rel, rfl⟩
            case rel => exact ⟨_, _, rfl, HZ.out.1, HZ.out.2⟩
          · skip
            have yZ : (wE.alloc (.cells #[.int .i64 0, .int .i64 0, .slice none 0 0, .slice none 0 0, .slice none 0 0] 35)).heap[wE.heap.size]? = some (.cells #[.int .i64 0, .int .i64 0, .slice none 0 0, .slice none 0 0, .slice none 0 0] 35 (0, 0)) := Deep.blk_alloc_new _ _
            have bZ : Below wf.heap.size wf (wE.alloc (.cells #[.int .i64 0, .int .i64 0, .slice none 0 0, .slice none 0 0, .slice none 0 0] 35)) := bE.alloc (Below.size bE) _
            go_simp
            obtain ⟨hcx, -⟩ := bcell (bZ)
            refine hK.out _ _ ⟨(hcx _ _ zq0).trans c0, (hcx _ _ zq0).trans c1, (hcx _ _ zq0).trans c2, (hcx _ _ zq0).trans c3, (hcx _ _ zq1).trans e0, (hcx _ _ zq1).trans e1, (hcx _ _ zq1).trans e2, (hcx _ _ zq1).trans e3, (hcx _ _ zq1).trans e4, (hcx _ _ zq1).trans e5⟩ (fun _ => ?_)
            clear hK Kx hcx
            refine wpAnyH_ready (rs := [4]) (by kernel_rfl) (by simp) ?_
            refine AllReadyH.cons rfl (fun Kx hK => ?_) (AllReadyH.nil)
            go_simp
            refine (implDo_any A _ _ B E _ (HT.out.1.below (below_trans bwf bwf.size bZ)) (tab_below HT.out.2 (below_trans bwf bwf.size bZ)) ⟨HS.out.1.o, HS.out.1.s⟩ HE.out.1 HE.out.2.1 HE.out.2.2 (HB.out.1.below (below1 _ _)) (HB.out.2.below (below1 _ _))).mono ?_
            rintro e wD ⟨aD, b'D, cD, dD, KD, rfl, hD, hbD⟩
            obtain ⟨ao9, co9, al9, cl9, ac9, cc9, rfl, rfl, rfl, rfl⟩ := bookAt_shape hD.bookAt
            have bD : Below wf.heap.size wf wD := below_trans bZ (Below.size bZ) hbD
            have yD : wD.heap[wE.heap.size]? = some (.cells #[.int .i64 0, .int .i64 0, .slice none 0 0, .slice none 0 0, .slice none 0 0] 35 (0, 0)) := (hbD.block _ (by simp)).trans yZ
            have HD0 : Hid (OwnBook wD (wE.alloc (.cells #[.int .i64 0, .int .i64 0, .slice none 0 0, .slice none 0 0, .slice none 0 0] 35)).heap.size (.agg #[.int .i64 (doP B E).2.n, .slice ao9 (doP B E).2.orders.length co9, .slice al9 (doP B E).2.locked.length cl9, .slice ac9 (doP B E).2.occ.length cc9]) (doP B E).2 KD ∧ wE.heap.size < (wE.alloc (.cells #[.int .i64 0, .int .i64 0, .slice none 0 0, .slice none 0 0, .slice none 0 0] 35)).heap.size) := ⟨hD, (by simp)⟩
            obtain ⟨hcx, -⟩ := bcell (bD)
            refine hK.out _ _ ⟨(hcx _ _ zq0).trans c0, (hcx _ _ zq0).trans c1, (hcx _ _ zq0).trans c2, (hcx _ _ zq0).trans c3, (hcx _ _ zq1).trans e0, (hcx _ _ zq1).trans e1, (hcx _ _ zq1).trans e2, (hcx _ _ zq1).trans e3, (hcx _ _ zq1).trans e4, (hcx _ _ zq1).trans e5⟩ (fun _ => ?_)
            clear hK Kx hcx
            clear hD hbD
            obtain ⟨q0, q1, q2, q3, q4⟩ := done_cells yD
            have f0 : wD.frozen? ⟨wE.heap.size, 0, none⟩ = false := frozen_of_box yD
            have f1 : wD.frozen? ⟨wE.heap.size, 1, none⟩ = false := frozen_of_box yD
            have f2 : wD.frozen? ⟨wE.heap.size, 2, none⟩ = false := frozen_of_box yD
            have f3 : wD.frozen? ⟨wE.heap.size, 3, none⟩ = false := frozen_of_box yD
            have f4 : wD.frozen? ⟨wE.heap.size, 4, none⟩ = false := frozen_of_box yD
            have HZ : Hid (DoneBox (((((wD.setCell ⟨wE.heap.size, 0, none⟩ (.int .i64 (doP B E).1)).setCell ⟨wE.heap.size, 1, none⟩ (.int .i64 (doP B E).2.n)).setCell ⟨wE.heap.size, 2, none⟩ (.slice ao9 (doP B E).2.orders.length co9)).setCell ⟨wE.heap.size, 3, none⟩ (.slice al9 (doP B E).2.locked.length cl9)).setCell ⟨wE.heap.size, 4, none⟩ (.slice ac9 (doP B E).2.occ.length cc9)) wf.heap.size (wE.heap.size) (doP B E).1 (doP B E).2 KD ∧ Below wf.heap.size wf (((((wD.setCell ⟨wE.heap.size, 0, none⟩ (.int .i64 (doP B E).1)).setCell ⟨wE.heap.size, 1, none⟩ (.int .i64 (doP B E).2.n)).setCell ⟨wE.heap.size, 2, none⟩ (.slice ao9 (doP B E).2.orders.length co9)).setCell ⟨wE.heap.size, 3, none⟩ (.slice al9 (doP B E).2.locked.length cl9)).setCell ⟨wE.heap.size, 4, none⟩ (.slice ac9 (doP B E).2.occ.length cc9))) := doneBox_put yD HD0.out.1 (Below.size bE) HD0.out.2 bD
            clear yD
            refine wpAnyH_ready (rs := [6]) (by kernel_rfl) (by simp) ?_
            refine AllReadyH.cons rfl (fun Kx hK => ?_) (AllReadyH.nil)
            go_simp
            obtain ⟨hcx, -⟩ := bcell (HZ.out.2)
            refine hK.out _ _ ⟨(hcx _ _ zq0).trans c0, (hcx _ _ zq0).trans c1, (hcx _ _ zq0).trans c2, (hcx _ _ zq0).trans c3, (hcx _ _ zq1).trans e0, (hcx _ _ zq1).trans e1, (hcx _ _ zq1).trans e2, (hcx _ _ zq1).trans e3, (hcx _ _ zq1).trans e4, (hcx _ _ zq1).trans e5⟩ (fun _ => ?_)
            clear hK Kx hcx
            refine wpAnyH_done (by kernel_rfl) ?_ _
            go_simp
            refine hK0 _ _ (Met.intro (hJ0 _ _ ?_))
            (repeat apply Exists.intro)
            refine ⟨?rel, rfl⟩
            case rel => exact ⟨_, _, rfl, HZ.out.1, HZ.out.2⟩
        · skip
          have yZ : (wA.alloc (.cells #[.int .i64 0, .int .i64 0, .slice none 0 0, .slice none 0 0, .slice none 0 0] 35)).heap[wA.heap.size]? = some (.cells #[.int .i64 0, .int .i64 0, .slice none 0 0, .slice none 0 0, .slice none 0 0] 35 (0, 0)) := Deep.blk_alloc_new _ _
          have bZ : Below wf.heap.size wf (wA.alloc (.cells #[.int .i64 0, .int .i64 0, .slice none 0 0, .slice none 0 0, .slice none 0 0] 35)) := bA.alloc (Below.size bA) _
          go_simp
          obtain ⟨hcx, -⟩ := bcell (bZ)
          refine hK.out _ _ ⟨(hcx _ _ zq0).trans c0, (hcx _ _ zq0).trans c1, (hcx _ _ zq0).trans c2, (hcx _ _ zq0).trans c3, (hcx _ _ zq1).trans e0, (hcx _ _ zq1).trans e1, (hcx _ _ zq1).trans e2, (hcx _ _ zq1).trans e3, (hcx _ _ zq1).trans e4, (hcx _ _ zq1).trans e5⟩ (fun _ => ?_)
          clear hK Kx hcx
          refine wpAnyH_ready (rs := [3]) (by kernel_rfl) (by simp) ?_
          refine AllReadyH.cons rfl (fun Kx hK => ?_) (AllReadyH.nil)
          go_simp
          refine (toEvent_any _ E _ HE.out.2.2 (HG.out.2.2.1.below (below_trans bwf bwf.size bZ))).mono ?_
          rintro e wE ⟨vE, gE, rfl, hE0, hbE⟩
          have bE : Below wf.heap.size wf wE := below_trans bZ (Below.size bZ) hbE
          have yE : wE.heap[wA.heap.size]? = some (.cells #[.int .i64 0, .int .i64 0, .slice none 0 0, .slice none 0 0, .slice none 0 0] 35 (0, 0)) := (hbE.block _ (by simp)).trans yZ
          have zE : wA.heap.size < wE.heap.size := heap_lt yE
          have HB : Hid (BookAt wE vA B ∧ EvAt wE vE E) := ⟨(HA.out.below (below1 _ _)).below hbE, hE0.evAt⟩
          obtain ⟨hcx, -⟩ := bcell (bE)
          refine hK.out _ _ ⟨(hcx _ _ zq0).trans c0, (hcx _ _ zq0).trans c1, (hcx _ _ zq0).trans c2, (hcx _ _ zq0).trans c3, (hcx _ _ zq1).trans e0, (hcx _ _ zq1).trans e1, (hcx _ _ zq1).trans e2, (hcx _ _ zq1).trans e3, (hcx _ _ zq1).trans e4, (hcx _ _ zq1).trans e5⟩ (fun _ => ?_)
          clear hK Kx hcx
          clear hE0 hbE
          refine wpAnyH_ready (rs := [4]) (by kernel_rfl) (by simp) ?_
          refine AllReadyH.cons rfl (fun Kx hK => ?_) (AllReadyH.nil)
          go_simp
          refine (implDo_any A _ _ B E _ (HT.out.1.below (below_trans bwf bwf.size bE)) (tab_below HT.out.2 (below_trans bwf bwf.size bE)) ⟨HS.out.1.o, HS.out.1.s⟩ HE.out.1 HE.out.2.1 HE.out.2.2 (HB.out.1) (HB.out.2)).mono ?_
          rintro e wD ⟨aD, b'D, cD, dD, KD, rfl, hD, hbD⟩
          obtain ⟨ao9, co9, al9, cl9, ac9, cc9, rfl, rfl, rfl, rfl⟩ := bookAt_shape hD.bookAt
          have bD : Below wf.heap.size wf wD := below_trans bE (Below.size bE) hbD
          have yD : wD.heap[wA.heap.size]? = some (.cells #[.int .i64 0, .int .i64 0, .slice none 0 0, .slice none 0 0, .slice none 0 0] 35 (0, 0)) := (hbD.block _ (zE)).trans yE
          have HD0 : Hid (OwnBook wD wE.heap.size (.agg #[.int .i64 (doP B E).2.n, .slice ao9 (doP B E).2.orders.length co9, .slice al9 (doP B E).2.locked.length cl9, .slice ac9 (doP B E).2.occ.length cc9]) (doP B E).2 KD ∧ wA.heap.size < wE.heap.size) := ⟨hD, zE⟩
          obtain ⟨hcx, -⟩ := bcell (bD)
          refine hK.out _ _ ⟨(hcx _ _ zq0).trans c0, (hcx _ _ zq0).trans c1, (hcx _ _ zq0).trans c2, (hcx _ _ zq0).trans c3, (hcx _ _ zq1).trans e0, (hcx _ _ zq1).trans e1, (hcx _ _ zq1).trans e2, (hcx _ _ zq1).trans e3, (hcx _ _ zq1).trans e4, (hcx _ _ zq1).trans e5⟩ (fun _ => ?_)
          clear hK Kx hcx
          clear hD hbD
          obtain ⟨q0, q1, q2, q3, q4⟩ := done_cells yD
          have f0 : wD.frozen? ⟨wA.heap.size, 0, none⟩ = false := frozen_of_box yD
          have f1 : wD.frozen? ⟨wA.heap.size, 1, none⟩ = false := frozen_of_box yD
          have f2 : wD.frozen? ⟨wA.heap.size, 2, none⟩ = false := frozen_of_box yD
          have f3 : wD.frozen? ⟨wA.heap.size, 3, none⟩ = false := frozen_of_box yD
          have f4 : wD.frozen? ⟨wA.heap.size, 4, none⟩ = false := frozen_of_box yD
          have HZ : Hid (DoneBox (((((wD.setCell ⟨wA.heap.size, 0, none⟩ (.int .i64 (doP B E).1)).setCell ⟨wA.heap.size, 1, none⟩ (.int .i64 (doP B E).2.n)).setCell ⟨wA.heap.size, 2, none⟩ (.slice ao9 (doP B E).2.orders.length co9)).setCell ⟨wA.heap.size, 3, none⟩ (.slice al9 (doP B E).2.locked.length cl9)).setCell ⟨wA.heap.size, 4, none⟩ (.slice ac9 (doP B E).2.occ.length cc9)) wf.heap.size (wA.heap.size) (doP B E).1 (doP B E).2 KD ∧ Below wf.heap.size wf (((((wD.setCell ⟨wA.heap.size, 0, none⟩ (.int .i64 (doP B E).1)).setCell ⟨wA.heap.size, 1, none⟩ (.int .i64 (doP B E).2.n)).setCell ⟨wA.heap.size, 2, none⟩ (.slice ao9 (doP B E).2.orders.length co9)).setCell ⟨wA.heap.size, 3, none⟩ (.slice al9 (doP B E).2.locked.length cl9)).setCell ⟨wA.heap.size, 4, none⟩ (.slice ac9 (doP B E).2.occ.length cc9))) := doneBox_put yD HD0.out.1 (Below.size bA) HD0.out.2 bD
          clear yD
          refine wpAnyH_ready (rs := [6]) (by kernel_rfl) (by simp) ?_
          refine AllReadyH.cons rfl (fun Kx hK => ?_) (AllReadyH.nil)
          go_simp
          obtain ⟨hcx, -⟩ := bcell (HZ.out.2)
          refine hK.out _ _ ⟨(hcx _ _ zq0).trans c0, (hcx _ _ zq0).trans c1, (hcx _ _ zq0).trans c2, (hcx _ _ zq0).trans c3, (hcx _ _ zq1).trans e0, (hcx _ _ zq1).trans e1, (hcx _ _ zq1).trans e2, (hcx _ _ zq1).trans e3, (hcx _ _ zq1).trans e4, (hcx _ _ zq1).trans e5⟩ (fun _ => ?_)
          clear hK Kx hcx
          refine wpAnyH_done (by kernel_rfl) ?_ _
          go_simp
          refine hK0 _ _ (Met.intro (hJ0 _ _ ?_))
          (repeat apply Exists.intro)
          refine ⟨?rel, rfl⟩
          case rel => exact ⟨_, _, rfl, HZ.out.1, HZ.out.2⟩
      · skip
        have yZ : (wf.drew.alloc (.cells #[.int .i64 0, .int .i64 0, .slice none 0 0, .slice none 0 0, .slice none 0 0] 35)).heap[wf.heap.size]? = some (.cells #[.int .i64 0, .int .i64 0, .slice none 0 0, .slice none 0 0, .slice none 0 0] 35 (0, 0)) := Deep.blk_alloc_new _ _
        have bZ : Below wf.heap.size wf (wf.drew.alloc (.cells #[.int .i64 0, .int .i64 0, .slice none 0 0, .slice none 0 0, .slice none 0 0] 35)) := bW.alloc (Below.size bW) _
        go_simp
        obtain ⟨hcx, -⟩ := bcell (bZ)
        refine hK.out _ _ ⟨(hcx _ _ zq0).trans c0, (hcx _ _ zq0).trans c1, (hcx _ _ zq0).trans c2, (hcx _ _ zq0).trans c3, (hcx _ _ zq1).trans e0, (hcx _ _ zq1).trans e1, (hcx _ _ zq1).trans e2, (hcx _ _ zq1).trans e3, (hcx _ _ zq1).trans e4, (hcx _ _ zq1).trans e5⟩ (fun _ => ?_)
        clear hK Kx hcx
        refine wpAnyH_ready (rs := [1]) (by kernel_rfl) (by simp) ?_
        refine AllReadyH.cons rfl (fun Kx hK => ?_) (AllReadyH.nil)
        go_simp
        refine (toBook_any _ B _ HS.out.2 (HG.out.1.below (below_trans bwf bwf.size bZ))).mono ?_
        rintro e wA ⟨vA, KA, rfl, hA0, hbA⟩
        have bA : Below wf.heap.size wf wA := below_trans bZ (Below.size bZ) hbA
        have yA : wA.heap[wf.heap.size]? = some (.cells #[.int .i64 0, .int .i64 0, .slice none 0 0, .slice none 0 0, .slice none 0 0] 35 (0, 0)) := (hbA.block _ (by simp)).trans yZ
        have zA : wf.heap.size < wA.heap.size := heap_lt yA
        have HA : Hid (BookAt wA vA B) := hA0.bookAt
        obtain ⟨hcx, -⟩ := bcell (bA)
        refine hK.out _ _ ⟨(hcx _ _ zq0).trans c0, (hcx _ _ zq0).trans c1, (hcx _ _ zq0).trans c2, (hcx _ _ zq0).trans c3, (hcx _ _ zq1).trans e0, (hcx _ _ zq1).trans e1, (hcx _ _ zq1).trans e2, (hcx _ _ zq1).trans e3, (hcx _ _ zq1).trans e4, (hcx _ _ zq1).trans e5⟩ (fun _ => ?_)
        clear hK Kx hcx
        clear hA0 hbA
        refine wpAnyH_ready (rs := [3]) (by kernel_rfl) (by simp) ?_
        refine AllReadyH.cons rfl (fun Kx hK => ?_) (AllReadyH.nil)
        go_simp
        refine (toEvent_any _ E _ HE.out.2.2 (HG.out.2.2.1.below (below_trans bwf bwf.size bA))).mono ?_
        rintro e wE ⟨vE, gE, rfl, hE0, hbE⟩
        have bE : Below wf.heap.size wf wE := below_trans bA (Below.size bA) hbE
        have yE : wE.heap[wf.heap.size]? = some (.cells #[.int .i64 0, .int .i64 0, .slice none 0 0, .slice none 0 0, .slice none 0 0] 35 (0, 0)) := (hbE.block _ (zA)).trans yA
        have zE : wf.heap.size < wE.heap.size := heap_lt yE
        have HB : Hid (BookAt wE vA B ∧ EvAt wE vE E) := ⟨(HA.out).below hbE, hE0.evAt⟩
        obtain ⟨hcx, -⟩ := bcell (bE)
        refine hK.out _ _ ⟨(hcx _ _ zq0).trans c0, (hcx _ _ zq0).trans c1, (hcx _ _ zq0).trans c2, (hcx _ _ zq0).trans c3, (hcx _ _ zq1).trans e0, (hcx _ _ zq1).trans e1, (hcx _ _ zq1).trans e2, (hcx _ _ zq1).trans e3, (hcx _ _ zq1).trans e4, (hcx _ _ zq1).trans e5⟩ (fun _ => ?_)
        clear hK Kx hcx
        clear hE0 hbE
        refine wpAnyH_ready (rs := [4]) (by kernel_rfl) (by simp) ?_
        refine AllReadyH.cons rfl (fun Kx hK => ?_) (AllReadyH.nil)
        go_simp
        refine (implDo_any A _ _ B E _ (HT.out.1.below (below_trans bwf bwf.size bE)) (tab_below HT.out.2 (below_trans bwf bwf.size bE)) ⟨HS.out.1.o, HS.out.1.s⟩ HE.out.1 HE.out.2.1 HE.out.2.2 (HB.out.1) (HB.out.2)).mono ?_
        rintro e wD ⟨aD, b'D, cD, dD, KD, rfl, hD, hbD⟩
        obtain ⟨ao9, co9, al9, cl9, ac9, cc9, rfl, rfl, rfl, rfl⟩ := bookAt_shape hD.bookAt
        have bD : Below wf.heap.size wf wD := below_trans bE (Below.size bE) hbD
        have yD : wD.heap[wf.heap.size]? = some (.cells #[.int .i64 0, .int .i64 0, .slice none 0 0, .slice none 0 0, .slice none 0 0] 35 (0, 0)) := (hbD.block _ (zE)).trans yE
        have HD0 : Hid (OwnBook wD wE.heap.size (.agg #[.int .i64 (doP B E).2.n, .slice ao9 (doP B E).2.orders.length co9, .slice al9 (doP B E).2.locked.length cl9, .slice ac9 (doP B E).2.occ.length cc9]) (doP B E).2 KD ∧ wf.heap.size < wE.heap.size) := ⟨hD, zE⟩
        obtain ⟨hcx, -⟩ := bcell (bD)
        refine hK.out _ _ ⟨(hcx _ _ zq0).trans c0, (hcx _ _ zq0).trans c1, (hcx _ _ zq0).trans c2, (hcx _ _ zq0).trans c3, (hcx _ _ zq1).trans e0, (hcx _ _ zq1).trans e1, (hcx _ _ zq1).trans e2, (hcx _ _ zq1).trans e3, (hcx _ _ zq1).trans e4, (hcx _ _ zq1).trans e5⟩ (fun _ => ?_)
        clear hK Kx hcx
        clear hD hbD
        obtain ⟨q0, q1, q2, q3, q4⟩ := done_cells yD
        have f0 : wD.frozen? ⟨wf.heap.size, 0, none⟩ = false := frozen_of_box yD
        have f1 : wD.frozen? ⟨wf.heap.size, 1, none⟩ = false := frozen_of_box yD
        have f2 : wD.frozen? ⟨wf.heap.size, 2, none⟩ = false := frozen_of_box yD
        have f3 : wD.frozen? ⟨wf.heap.size, 3, none⟩ = false := frozen_of_box yD
        have f4 : wD.frozen? ⟨wf.heap.size, 4, none⟩ = false := frozen_of_box yD
        have HZ : Hid (DoneBox (((((wD.setCell ⟨wf.heap.size, 0, none⟩ (.int .i64 (doP B E).1)).setCell ⟨wf.heap.size, 1, none⟩ (.int .i64 (doP B E).2.n)).setCell ⟨wf.heap.size, 2, none⟩ (.slice ao9 (doP B E).2.orders.length co9)).setCell ⟨wf.heap.size, 3, none⟩ (.slice al9 (doP B E).2.locked.length cl9)).setCell ⟨wf.heap.size, 4, none⟩ (.slice ac9 (doP B E).2.occ.length cc9)) wf.heap.size (wf.heap.size) (doP B E).1 (doP B E).2 KD ∧ Below wf.heap.size wf (((((wD.setCell ⟨wf.heap.size, 0, none⟩ (.int .i64 (doP B E).1)).setCell ⟨wf.heap.size, 1, none⟩ (.int .i64 (doP B E).2.n)).setCell ⟨wf.heap.size, 2, none⟩ (.slice ao9 (doP B E).2.orders.length co9)).setCell ⟨wf.heap.size, 3, none⟩ (.slice al9 (doP B E).2.locked.length cl9)).setCell ⟨wf.heap.size, 4, none⟩ (.slice ac9 (doP B E).2.occ.length cc9))) := doneBox_put yD HD0.out.1 (Nat.le_refl _) HD0.out.2 bD
        clear yD
        refine wpAnyH_ready (rs := [6]) (by kernel_rfl) (by simp) ?_
        refine AllReadyH.cons rfl (fun Kx hK => ?_) (AllReadyH.nil)
        go_simp
        obtain ⟨hcx, -⟩ := bcell (HZ.out.2)
        refine hK.out _ _ ⟨(hcx _ _ zq0).trans c0, (hcx _ _ zq0).trans c1, (hcx _ _ zq0).trans c2, (hcx _ _ zq0).trans c3, (hcx _ _ zq1).trans e0, (hcx _ _ zq1).trans e1, (hcx _ _ zq1).trans e2, (hcx _ _ zq1).trans e3, (hcx _ _ zq1).trans e4, (hcx _ _ zq1).trans e5⟩ (fun _ => ?_)
        clear hK Kx hcx
        refine wpAnyH_done (by kernel_rfl) ?_ _
        go_simp
        refine hK0 _ _ (Met.intro (hJ0 _ _ ?_))
        (repeat apply Exists.intro)
        refine ⟨?rel, rfl⟩
        case rel => exact ⟨_, _, rfl, HZ.out.1, HZ.out.2⟩
    case rest =>
      obtain ⟨P9, K9, rfl, hD9, hbg⟩ := hcut
      obtain ⟨wg, hwg⟩ : ∃ x, x = wc := ⟨_, rfl⟩
      subst hwg
      have Hg : Hid (St w wg B E ao co al cl ac cc ad ca w2.heap.size P0 (doP B E).1 (doP B E).2 K0 w3.heap.size ∧ XD wg (doP B E).1 (doP B E).2 aoD coD alD clD acD ccD w6.heap.size ∧ DoneBox wg wf.heap.size P9 (doP B E).1 (doP B E).2 K9) := ⟨Hf.out.1.below hbg, Hf.out.2.below hbg, hD9⟩
      clear hD9 hbg Hf bwf c0 c1 c2 c3 e0 e1 e2 e3 e4 e5 zq0 zq1
      obtain ⟨ao9, co9, al9, cl9, ac9, cc9, y9, o9⟩ := Hg.out.2.2.open
      obtain ⟨ao0, co0, al0, cl0, ac0, cc0, y0, o0⟩ := Hg.out.1.D.open
      have HY : Hid (BookAt wg (.agg #[.int .i64 (doP B E).2.n, .slice ao9 (doP B E).2.orders.length co9, .slice al9 (doP B E).2.locked.length cl9, .slice ac9 (doP B E).2.occ.length cc9]) (doP B E).2 ∧ BookAt wg (.agg #[.int .i64 (doP B E).2.n, .slice ao0 (doP B E).2.orders.length co0, .slice al0 (doP B E).2.locked.length cl0, .slice ac0 (doP B E).2.occ.length cc0]) (doP B E).2) := ⟨o9.bookAt, o0.bookAt⟩
      obtain ⟨p0, p1, p2, p3, p4⟩ := done_cells y0
      obtain ⟨q0, q1, q2, q3, q4⟩ := done_cells y9
      clear y0 o0 y9 o9
      go_wp2_with fail
      refine (eqDone_same _ _ _ _ _ _ _ _ _ (doP B E).2 _ HQ.out.1 HQ.out.2.1 HQ.out.2.2.1 HQ.out.2.2.2.1 HY.out.1 HY.out.2).mono ?_
      rintro e wh ⟨rfl, hb⟩
      have Hh : Hid (St w wh B E ao co al cl ac cc ad ca w2.heap.size P0 (doP B E).1 (doP B E).2 K0 w3.heap.size ∧ XD wh (doP B E).1 (doP B E).2 aoD coD alD clD acD ccD w6.heap.size) := ⟨Hg.out.1.below hb, Hg.out.2.1.below hb⟩
      clear hb Hg HY p0 p1 p2 p3 p4 q0 q1 q2 q3 q4
      obtain ⟨q0, q1, q2, q3, q4⟩ := done_cells Hh.out.2.box
      go_wp2_with fail
      have hm := heldDone_any (doP B E).1 _ _ _ _ (doP B E).2 1 wh (by omega) HQ.out.2.2.2.2 HQ.out.1 Hh.out.2.at_
      refine hm.mono ?_
      clear hm
      rintro e wi ⟨rfl, hb⟩
      have HW : Hid (Below w.heap.size w wi) := (Hh.out.1.below hb).bw
      clear hb Hh q0 q1 q2 q3 q4
      go_wp2
      go_ret
      exact ⟨rfl, HW.out⟩
end Go.Proofs.YtbgmgfnhmlpehabGreatDoor

/-
  The cell 'laid' of Do and Run: the program's eight errors, and the table of powers. Mine, by template (wip/gen.py; written by wip/plaid.py).
-/
namespace Go.Proofs.YtbgmgfnhmlpehabGreatDoor
open Go.RowKit Go.ChangeShapes Go.WideShapes

theorem gTab : Tryz.prog.globalNamed "internal/strconv.uint64pow10" = some 10 := by kernel_rfl
theorem gTabType : (Tryz.prog.globals[10]?).map (·.type) = some 207 := by kernel_rfl
theorem cellsT : Tryz.prog.cellsOf 207 = 20 := by kernel_rfl
theorem cellsE : Tryz.prog.cellsOf 198 = 1 := by kernel_rfl
theorem datumTab : (Rows.laid_internal_strconv_uint64pow10 : DataW Unit) = Lib.tabData .u64 Lib.pow10Tab := by kernel_rfl
theorem errStar : "*" ++ "errors.errorString" = "*errors.errorString" := by decide
theorem errCells : Tryz.prog.cellsOf 228 = 1 := by kernel_rfl
theorem strCells : Tryz.prog.cellsOf 9 = 1 := by kernel_rfl
theorem errRow (u : TypeId) (h : Tryz.prog.typeName? 3 u = some "*errors.errorString") : u = 226 :=
  typeName_ptr_named (nm := "errors.errorString") (by rw [errStar]; kernel_rfl) (by kernel_rfl) (by decide) u (by rw [errStar]; exact h)

set_option maxRecDepth 100000 in
theorem laid_err {n : String} {text : List UInt8} {r : List (String × DataW Unit)} {W : World} {g : Nat} (h : laidMet Tryz.prog ((n, .iface "*errors.errorString" (.ptr (.agg [.lit (.string text)]))) :: r) W)
    (hg : Tryz.prog.globalNamed n = some g) (ht : (Tryz.prog.globals[g]?).map (·.type) = some 73) :
    ∃ a : Addr, W.cell? ⟨g, 0, none⟩ = some (.iface 226 (.pointer (some a))) ∧ (∃ s : ByteArray, W.cell? a = some (.string s) ∧ s.data.toList = text) ∧ ∃ c t, W.heap[a.block]? = some (.cells c t (0, 0)) := by
  obtain ⟨ps, ⟨g0, t0, cs0, f0, p0, q0, hg0, ht0, hv0, hd0, _, e0⟩, _, hrows⟩ := h
  obtain rfl := Option.some.inj (hg.symm.trans hg0)
  obtain rfl := Option.some.inj (ht.symm.trans ht0)
  subst e0
  obtain ⟨l0⟩ := cs0
  have ok0 : ∀ u v, l0 = [.iface u v] → Value.okWide Tryz.prog W .any 0 u v := fun u v e => by
    subst e
    exact (hrows g 0 (by simp [MemPlace.row])).2 u v (by simpa using World.var?_cell hg0 hv0 0)
  obtain ⟨a0, s0, rfl, hc0, hs0, hz0, rfl⟩ := errorString_of_trod Tryz.underlying73 errRow Tryz.underlying226 Tryz.underlying228 rfl rfl Tryz.underlying9 errCells strCells hd0 ok0
  exact ⟨a0, by simpa using World.var?_cell hg0 hv0 0, ⟨s0, hc0, hs0⟩, (hrows a0.block a0.off (by simp [MemPlace.row])).1⟩

def textOf : DataW Unit → List UInt8
  | .iface _ (.ptr (.agg [.lit (.string t)])) => t
  | _ => []

/-- The errors' texts. -/
def errT : Nat → List UInt8
  | 0 => textOf Rows.laid_loop_example_handsignal_impl_errNoEvent
  | 1 => textOf Rows.laid_loop_example_handsignal_impl_errBookFull
  | 2 => textOf Rows.laid_loop_example_handsignal_impl_errState
  | 3 => textOf Rows.laid_loop_example_handsignal_impl_errTaken
  | 4 => textOf Rows.laid_loop_example_handsignal_impl_errNotHolder
  | 5 => textOf Rows.laid_loop_example_handsignal_impl_errLocked
  | 6 => textOf Rows.laid_loop_example_handsignal_impl_errMisheard
  | _ => textOf Rows.laid_loop_example_handsignal_impl_errSomebody

theorem errT_ne : ∀ i, i < 8 → ∀ j, j < 8 → i ≠ j → errT i ≠ errT j := by decide +kernel

theorem errN0 : Tryz.prog.globalNamed "loop.example/handsignal/impl.errNoEvent" = some 0 := by kernel_rfl
theorem errY0 : (Tryz.prog.globals[0]?).map (·.type) = some 73 := by kernel_rfl
theorem errN1 : Tryz.prog.globalNamed "loop.example/handsignal/impl.errBookFull" = some 1 := by kernel_rfl
theorem errY1 : (Tryz.prog.globals[1]?).map (·.type) = some 73 := by kernel_rfl
theorem errN2 : Tryz.prog.globalNamed "loop.example/handsignal/impl.errState" = some 2 := by kernel_rfl
theorem errY2 : (Tryz.prog.globals[2]?).map (·.type) = some 73 := by kernel_rfl
theorem errN3 : Tryz.prog.globalNamed "loop.example/handsignal/impl.errTaken" = some 3 := by kernel_rfl
theorem errY3 : (Tryz.prog.globals[3]?).map (·.type) = some 73 := by kernel_rfl
theorem errN4 : Tryz.prog.globalNamed "loop.example/handsignal/impl.errNotHolder" = some 4 := by kernel_rfl
theorem errY4 : (Tryz.prog.globals[4]?).map (·.type) = some 73 := by kernel_rfl
theorem errN5 : Tryz.prog.globalNamed "loop.example/handsignal/impl.errLocked" = some 5 := by kernel_rfl
theorem errY5 : (Tryz.prog.globals[5]?).map (·.type) = some 73 := by kernel_rfl
theorem errN6 : Tryz.prog.globalNamed "loop.example/handsignal/impl.errMisheard" = some 6 := by kernel_rfl
theorem errY6 : (Tryz.prog.globals[6]?).map (·.type) = some 73 := by kernel_rfl
theorem errN7 : Tryz.prog.globalNamed "loop.example/handsignal/impl.errSomebody" = some 7 := by kernel_rfl
theorem errY7 : (Tryz.prog.globals[7]?).map (·.type) = some 73 := by kernel_rfl

abbrev laidAll : List (String × DataW Unit) := Rows.fnExactDoRow.laid

theorem table_of {W : World} (h : laidMet Tryz.prog laidAll W) : Lib.TabIs Tryz.prog W "internal/strconv.uint64pow10" .u64 Lib.pow10Tab := by
  have h2 := laidMet.tail (laidMet.tail h)
  rw [datumTab] at h2
  exact Lib.tabIs_of_head gTab gTabType Tryz.underlying207 Tryz.underlying198 cellsE cellsT h2

def pick (a0 a1 a2 a3 a4 a5 a6 a7 : Addr) : Nat → Addr
  | 0 => a0
  | 1 => a1
  | 2 => a2
  | 3 => a3
  | 4 => a4
  | 5 => a5
  | 6 => a6
  | _ => a7

theorem errs_of {W : World} (h : laidMet Tryz.prog laidAll W) : ∃ A, Errs W A := by
  have h0 := laidMet.tail (laidMet.tail (laidMet.tail h))
  obtain ⟨a0, v0, s0, b0⟩ := laid_err (text := errT 0) h0 errN0 errY0
  have h1 := laidMet.tail h0
  obtain ⟨a1, v1, s1, b1⟩ := laid_err (text := errT 1) h1 errN1 errY1
  have h2 := laidMet.tail h1
  obtain ⟨a2, v2, s2, b2⟩ := laid_err (text := errT 2) h2 errN2 errY2
  have h3 := laidMet.tail h2
  obtain ⟨a3, v3, s3, b3⟩ := laid_err (text := errT 3) h3 errN3 errY3
  have h4 := laidMet.tail h3
  obtain ⟨a4, v4, s4, b4⟩ := laid_err (text := errT 4) h4 errN4 errY4
  have h5 := laidMet.tail h4
  obtain ⟨a5, v5, s5, b5⟩ := laid_err (text := errT 5) h5 errN5 errY5
  have h6 := laidMet.tail h5
  obtain ⟨a6, v6, s6, b6⟩ := laid_err (text := errT 6) h6 errN6 errY6
  have h7 := laidMet.tail h6
  obtain ⟨a7, v7, s7, b7⟩ := laid_err (text := errT 7) h7 errN7 errY7
  have hs : ∀ k, k < 8 → ∃ s : ByteArray, W.cell? ((pick a0 a1 a2 a3 a4 a5 a6 a7) k) = some (.string s) ∧ s.data.toList = errT k := fun k hk => by
    match k, hk with
    | 0, _ => exact s0
    | 1, _ => exact s1
    | 2, _ => exact s2
    | 3, _ => exact s3
    | 4, _ => exact s4
    | 5, _ => exact s5
    | 6, _ => exact s6
    | 7, _ => exact s7
  refine ⟨(pick a0 a1 a2 a3 a4 a5 a6 a7), fun k hk => ?_, fun k hk => ?_, fun i j hi hj ne e => ?_⟩
  · match k, hk with
    | 0, _ => exact v0
    | 1, _ => exact v1
    | 2, _ => exact v2
    | 3, _ => exact v3
    | 4, _ => exact v4
    | 5, _ => exact v5
    | 6, _ => exact v6
    | 7, _ => exact v7
  · match k, hk with
    | 0, _ => exact b0
    | 1, _ => exact b1
    | 2, _ => exact b2
    | 3, _ => exact b3
    | 4, _ => exact b4
    | 5, _ => exact b5
    | 6, _ => exact b6
    | 7, _ => exact b7
  · obtain ⟨s, hs1, hs2⟩ := hs i hi
    obtain ⟨t, ht1, ht2⟩ := hs j hj
    rw [e] at hs1
    obtain rfl : s = t := by
      have := Option.some.inj (hs1.symm.trans ht1)
      cases this
      rfl
    exact errT_ne i hi j hj ne (hs2.symm.trans ht2)

/-! ### A world for the witness -/

/-- What a listed table holds, as cells. -/
def valsOf : DataW Unit → Array Value
  | .agg ds => (ds.map fun d => match d with | .lit (.int k z) => Value.int k z | _ => Value.bool false).toArray
  | _ => #[]
def putTab (d : DataW Unit) : Obj → Obj
  | .cells _ t frozen => .cells (valsOf d) t frozen
  | o => o
noncomputable def low : Nat := (World.holding Tryz.prog default ⟨#[], #[], []⟩).heap.size
noncomputable def putErr (k : Nat) : Obj → Obj
  | .cells _ t frozen => .cells #[.iface 226 (.pointer (some ⟨low + k, 0, none⟩))] t frozen
  | o => o
def errB (k : Nat) : Obj := .cells #[.string ⟨(errT k).toArray⟩] 228
noncomputable def w0 (os : Os) : World := World.holding Tryz.prog os ⟨#[errB 0, errB 1, errB 2, errB 3, errB 4, errB 5, errB 6, errB 7], #[], []⟩
/-- A world in which the listed variables hold what their initialisers lay. -/
noncomputable def laidWorld (os : Os) : World :=
  { w0 os with heap := ((((((((((((w0 os).heap).modify 0 (putErr 0)).modify 1 (putErr 1)).modify 2 (putErr 2)).modify 3 (putErr 3)).modify 4 (putErr 4)).modify 5 (putErr 5)).modify 6 (putErr 6)).modify 7 (putErr 7)).modify 10 (putTab Rows.laid_internal_strconv_uint64pow10)).modify 11 (putTab Rows.laid_math_bits_deBruijn32tab)).modify 12 (putTab Rows.laid_math_bits_deBruijn64tab) }

theorem trodVars_length {H : Type} {enc : TypeId × Value → H} {P : Program} {w : World} {sp : Nat → Bool} : ∀ {ns : List String} {gs : List (DataW H)} {ps : List MemPlace}, DataW.TrodVars enc P w sp ns gs ps → gs.length = ns.length
  | [], [], _, _ => rfl
  | [], _ :: _, _, h => h.elim
  | _ :: _, [], _, h => h.elim
  | _ :: _, _ :: _, _, ⟨_, _, _, _, _, _, _, _, _, _, hs, _⟩ => by simp [trodVars_length hs]

theorem list8 {α : Type} {l : List α} (h : l.length = 8) : ∃ a b c d e f g i, l = [a, b, c, d, e, f, g, i] := by
  match l, h with
  | [a, b, c, d, e, f, g, i], _ => exact ⟨a, b, c, d, e, f, g, i, rfl⟩

end Go.Proofs.YtbgmgfnhmlpehabGreatDoor

/-
  The row of laws.FnExactDo, and its card. By template (wip/gen.py).
-/
namespace Go.Proofs.YtbgmgfnhmlpehabGreatDoor.fnExactDo
open Go.ChangeShapes Go.WideShapes Go.ChangeAt Go.RowKit

theorem own : ownKnob Tryz.prog.godebug = none := by kernel_rfl
theorem laidOut : laidOutB Tryz.prog = true := by kernel_rfl

abbrev wargs : Array Value := #[.agg #[.int .i64 0, .slice none 0 0, .slice none 0 0, .slice none 0 0], .agg #[.int .i64 0, .int .i64 0, .string ByteArray.empty, .int .i64 0, .slice none 0 0, .string ByteArray.empty]]

theorem laid_met (os : Os) : laidMet Tryz.prog Rows.fnExactDoRow.laid ((laidWorld os).forCall (fun _ _ => 0) ⟨#[], wargs, []⟩).memory :=
  laidMet_of_run' 8 (by kernel_rfl) (by kernel_rfl)
theorem reads (os : Os) {H : Type} (enc : TypeId × Value → H) : ∃ x, DataW.whole enc Tryz.prog ((laidWorld os).forCall (fun _ _ => 0) ⟨#[], wargs, []⟩).memory Tryz.f3.params.toList Rows.fnExactDoSpec.vars false wargs.toList 8 = some x :=
  Option.isSome_iff_exists.1 (by kernel_rfl)

set_option maxRecDepth 100000 in
theorem contract (H : Type) (enc : TypeId × Value → H) (W : World) (base : Nat) (args : Array Value) (ds gs : List (DataW H)) (before : List MemPlace)
    (hval0 : ∀ (j : Nat) t v, Tryz.f3.params[j]? = some t → args[j]? = some v → Value.okWide Tryz.prog W .any base t v)
    (hW : DataW.Whole enc Tryz.prog Tryz.f3.params.toList Rows.fnExactDoSpec.vars false W args.toList ds gs before) (hL : laidMetH Tryz.prog Rows.fnExactDoRow.laid W) :
    Calls Tryz.prog 3 args W fun e W' => ∃ v, e = .returned v ∧ Rows.fnExactDoSpec.post enc Tryz.prog Tryz.f3 false true false false W args v W' := by
  have hval : ∀ (j : Nat) t v, Tryz.f3.params[j]? = some t → args[j]? = some v → Value.okWide Tryz.prog W .any base t v := hval0
  have hW' := hW
  obtain ⟨p, q, hA0, hV, rfl, hfz, hnd⟩ := hW
  have hA : DataW.TrodAll enc Tryz.prog W 0 (fun _ => true) true Tryz.f3.params.toList args.toList ds p := hA0
  rw [Tryz.params3] at hA hval
  obtain ⟨v0, vs0, d0, ds0, p0, q0, hargs, rfl, rfl, h0, r0⟩ := trodAll_cons hA
  obtain ⟨v1, vs1, d1, ds1, p1, q1, rfl, rfl, rfl, h1, r1⟩ := trodAll_cons r0
  obtain ⟨rfl, rfl, rfl⟩ := trodAll_nil r1
  obtain rfl : args = #[v0, v1] := by cases args; simp_all
  have hV1 : DataW.TrodVars enc Tryz.prog W (fun _ => true) Rows.fnExactDoSpec.vars gs q := hV
  obtain ⟨g1, g2, g3, g4, g5, g6, g7, g8, rfl⟩ := list8 (trodVars_length hV1)
  have hL1 : laidMet Tryz.prog laidAll W := hL
  obtain ⟨A, hErr⟩ := errs_of hL1
  have k0 := h0
  have lt0 : ∀ x ∈ p0, x.block < W.heap.size := by obtain ⟨m, hm⟩ := k0; exact DataW.trod_lt m _ _ _ hm
  obtain ⟨B, hB, hwf⟩ := open_book (hval 0 25 v0 rfl rfl) h0
  have k1 := h1
  have lt1 : ∀ x ∈ p1, x.block < W.heap.size := by obtain ⟨m, hm⟩ := k1; exact DataW.trod_lt m _ _ _ hm
  obtain ⟨E, hE, hw⟩ := open_event (hval 1 28 v1 rfl rfl) h1
  clear hA0 hval0
  refine (fnExactDo_walk A v0 v1 B E W hErr (table_of hL1) hwf ⟨hw.1, hw.2.1, hw.2.2⟩ hB hE).mono fun e W' ⟨he, bel⟩ => ?_
  subst he
  exact ⟨_, rfl, _, _, _, [], _, _, hW', trodAll_mk1 (shut_bool Tryz.underlying4 _), (trodAll_cons_mk (Below.trod laidOut (by kernel_rfl) (of_decide_eq_true (by kernel_rfl)) k0 bel lt0) (trodAll_cons_mk (Below.trod laidOut (by kernel_rfl) (of_decide_eq_true (by kernel_rfl)) k1 bel lt1) trodAll_mk0)), Below.trodVars laidOut bel (by kernel_rfl) hV1, bel.frame _, fun h => by cases h⟩

set_option maxRecDepth 100000 in
theorem lifted (os : Os) (started : os.Started) (H : Type) (enc : TypeId × Value → H) (F : Stop.Interp) :
    ReturnsInHanded {} Tryz.checked os 3 .any ((OpenSpec.ofChange Rows.fnExactDoSpec).preRow enc Tryz.prog Tryz.f3 Rows.fnExactDoRow.domain false Rows.fnExactDoRow.laid) (((OpenSpec.ofChange Rows.fnExactDoSpec).at F).post enc Tryz.prog Tryz.f3 false true false false) := by
  obtain ⟨x, hx⟩ := reads os enc
  refine returnsInHanded_of_row (C := Tryz.checked) (s := OpenSpec.ofChange Rows.fnExactDoSpec) own started (by kernel_rfl) Tryz.func3
    (witness_row_at (enc := enc) (C := Tryz.checked) false (laidWorld os) wargs rfl (by kernel_rfl) (by kernel_rfl) (by kernel_rfl)
      (OpenSpec.preRow_of_cond 8 hx rfl (fun k hk => by cases hk) (by kernel_rfl) (laid_met os))) ?_
  intro W base args ds gs before hval hW _ _ _ hL _ _
  exact contract H enc W base args ds gs before hval hW hL

theorem over : Rows.fnExactDoRow.holds Tryz.pinned (OpenSpec.ofChange Rows.fnExactDoSpec) :=
  OpenClaim.holds_of_cond 3 Tryz.f3 rfl rfl rfl rfl rfl rfl rfl ⟨rfl, rfl, rfl, rfl, rfl⟩ rfl rfl rfl rfl rfl (by kernel_rfl) Tryz.func3 (by kernel_rfl)
    (of_decide_eq_true (by kernel_rfl)) (by unfold Func.isWrapper; first | (rw [if_pos (by decide +kernel)]; kernel_rfl) | (rw [if_neg (by decide +kernel)]; exact ⟨rfl, rfl⟩))
    (fun os started H enc _ F => by rw [OpenClaim.pre_eq_preRow]; exact lifted os started H enc F)

/-- No parameter wants a stand-in. -/
theorem plain (f : FuncId) (fn : Func) (hf : Tryz.pinned.checked.prog.funcNamed "loop.example/handsignal/laws.FnExactDo" = some f) (hfn : Tryz.pinned.checked.prog.funcs[f]? = some fn) :
    true = Tryz.pinned.checked.prog.looks [] ∧ ∀ (j : Nat) t, fn.params[j]? = some t → Tryz.pinned.checked.prog.wantsStandIn t = false := by
  obtain rfl : f = 3 := Option.some.inj ((show Tryz.prog.funcNamed "loop.example/handsignal/laws.FnExactDo" = some 3 by kernel_rfl).symm.trans hf) |>.symm
  obtain rfl : fn = Tryz.f3 := (Option.some.inj (Tryz.func3.symm.trans hfn)).symm
  refine ⟨by kernel_rfl, fun j t ht => ?_⟩
  rw [Tryz.params3] at ht
  have hm : t ∈ [25, 28] := by simpa using Array.mem_of_getElem? ht
  have hall : ([25, 28].all fun u => !Tryz.prog.wantsStandIn u) = true := by kernel_rfl
  exact (show Tryz.prog.wantsStandIn t = false by simpa using List.all_eq_true.1 hall t hm)

theorem card : Rows.FnExactDoCardSaid :=
  Claim7.holds_tied_plain_at .later [] _ _ _ _ over (fun _ h => by cases h) (by kernel_rfl) (fun _ h => by cases h) fnExactDo_row_tie rfl ⟨rfl, rfl⟩ (by kernel_rfl) rfl plain (by kernel_rfl)

end Go.Proofs.YtbgmgfnhmlpehabGreatDoor.fnExactDo
namespace Go.Proofs.YtbgmgfnhmlpehabGreatDoor
theorem fnExactDo_card : Rows.FnExactDoCardSaid := fnExactDo.card
#print axioms fnExactDo_card
end Go.Proofs.YtbgmgfnhmlpehabGreatDoor
