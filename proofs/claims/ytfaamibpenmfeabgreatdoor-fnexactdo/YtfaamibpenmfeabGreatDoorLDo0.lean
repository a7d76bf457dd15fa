/-
  laws.FnExactDo: what is kept along its walk. Mine, by template (wip/gen.py).
-/
import Derived.Test.YtfaamibpenmfeabGreatDoorSDo2
import Derived.Test.YtfaamibpenmfeabGreatDoorDoEq
import Derived.Test.YtfaamibpenmfeabGreatDoorSmall
import Derived.Test.YtfaamibpenmfeabGreatDoorOpenE
namespace Go.Proofs.YtfaamibpenmfeabGreatDoor
open Go.RowKit

structure EvWf (E : Ev) : Prop where
  h : E.holder.size ≤ maxLen
  t : E.text.size ≤ maxLen
  s : E.secs.length ≤ maxLen

theorem kAt_bulk' (xs : List Ord) (k n : Nat) (h : n ≤ xs.length) : kAt (fun i => xs.getD i Ord.zero) k n ≤ k + 3 * n + wOrds (xs.take n) := by
  induction n with
  | zero => simp [kAt]
  | succ n ih =>
    have h1 := ih (by omega)
    have h2 := wOrds_take xs n (by omega)
    simp only [kAt]
    unfold wOrd at h2
    omega

theorem bEnd_small' {B : Bk} (h : wBk B ≤ 1048576) : bEnd B 1 ≤ 2305843009213693952 := by
  have h1 := kAt_bulk' B.orders 1 B.orders.length (Nat.le_refl _)
  rw [List.take_length] at h1
  have h2 : bK B 1 = kAt (fun i => B.orders.getD i Ord.zero) 1 B.orders.length := rfl
  unfold wBk at h
  unfold bEnd
  omega

/-- A variable that holds what Do has answered, its book its own. -/
def DoneBox (w : World) (lo P : Nat) (c : Int) (R : Bk) (K : Blk) : Prop :=
  ∃ a b c' d, w.heap[P]? = some (.cells #[.int .i64 c, a, b, c', d] 35 (0, 0)) ∧ OwnBook w lo (.agg #[a, b, c', d]) R K ∧ lo ≤ P ∧ ∀ x, bookBlocks R K x → x ≠ P

theorem heap_lt {w : World} {P : Nat} {o : Obj} (h : w.heap[P]? = some o) : P < w.heap.size := by
  rcases Nat.lt_or_ge P w.heap.size with h1 | h1
  · exact h1
  · rw [Array.getElem?_eq_none h1] at h; cases h

theorem doneBox_new {W wD : World} {n lo : Nat} {c : Int} {R : Bk} {K : Blk} {a b c' d : Value} (h : OwnBook wD lo (.agg #[a, b, c', d]) R K) (hl : n ≤ lo) (hb : Below n W wD) (hn : n ≤ wD.heap.size) : DoneBox (wD.alloc (.cells #[.int .i64 c, a, b, c', d] 35)) n wD.heap.size c R K ∧ Below n W (wD.alloc (.cells #[.int .i64 c, a, b, c', d] 35)) :=
  ⟨⟨a, b, c', d, Deep.blk_alloc_new _ _, (h.below (below1 _ _)).mono hl, hn, fun x hx => by have := h.blocks_lt hx; omega⟩, hb.alloc hn _⟩

theorem fr_at {a w : World} {P i : Nat} {u : Value} (h : Fr (fun x => x = P) a w) : Fr (fun x => x = P) a (w.setCell ⟨P, i, none⟩ u) := h.setCell (p := ⟨P, i, none⟩) rfl u

theorem doneBox_put {W wD : World} {n lo P : Nat} {c : Int} {R : Bk} {K : Blk} {a b c' d z0 z1 z2 z3 z4 : Value} (y : wD.heap[P]? = some (.cells #[z0, z1, z2, z3, z4] 35 (0, 0))) (h : OwnBook wD lo (.agg #[a, b, c', d]) R K) (hn : n ≤ P) (hp : P < lo) (hb : Below n W wD) :
    DoneBox (((((wD.setCell ⟨P, 0, none⟩ (.int .i64 c)).setCell ⟨P, 1, none⟩ a).setCell ⟨P, 2, none⟩ b).setCell ⟨P, 3, none⟩ c').setCell ⟨P, 4, none⟩ d) n P c R K ∧ Below n W (((((wD.setCell ⟨P, 0, none⟩ (.int .i64 c)).setCell ⟨P, 1, none⟩ a).setCell ⟨P, 2, none⟩ b).setCell ⟨P, 3, none⟩ c').setCell ⟨P, 4, none⟩ d) := by
  have hf : Fr (fun x => x = P) wD (((((wD.setCell ⟨P, 0, none⟩ (.int .i64 c)).setCell ⟨P, 1, none⟩ a).setCell ⟨P, 2, none⟩ b).setCell ⟨P, 3, none⟩ c').setCell ⟨P, 4, none⟩ d) := fr_at (fr_at (fr_at (fr_at (fr_at (Fr.refl _ _)))))
  have hx : ∀ x, bookBlocks R K x → x ≠ P := fun x hx => by have := h.blocks_low hx; omega
  refine ⟨⟨a, b, c', d, (box_set (box_set (box_set (box_set (box_set y _) _) _) _) _).trans rfl, (h.fr hf hx).mono (by omega), hn, hx⟩, ?_⟩
  exact below_set (below_set (below_set (below_set (below_set hb _ _ hn _) _ _ hn _) _ _ hn _) _ _ hn _) _ _ hn _

theorem DoneBox.fr {w w' : World} {lo P : Nat} {c : Int} {R : Bk} {K : Blk} (h : DoneBox w lo P c R K) {S : Nat → Prop} (hf : Fr S w w') (hp : ¬ S P) (hs : ∀ x, bookBlocks R K x → ¬ S x) : DoneBox w' lo P c R K := by
  obtain ⟨a, b, c', d, h1, h2, h3, h4⟩ := h
  exact ⟨a, b, c', d, (hf.block _ (heap_lt h1) hp).trans h1, h2.fr hf hs, h3, h4⟩

theorem DoneBox.below {w w' : World} {lo P : Nat} {c : Int} {R : Bk} {K : Blk} (h : DoneBox w lo P c R K) (hb : Below w.heap.size w w') : DoneBox w' lo P c R K :=
  h.fr (S := fun _ => False) (Fr.of_below hb) (fun h => h) (fun _ _ h => h)

theorem DoneBox.open {w : World} {lo P : Nat} {c : Int} {R : Bk} {K : Blk} (h : DoneBox w lo P c R K) : ∃ ao co al cl ac cc, w.heap[P]? = some (.cells #[.int .i64 c, .int .i64 R.n, .slice ao R.orders.length co, .slice al R.locked.length cl, .slice ac R.occ.length cc] 35 (0, 0)) ∧ OwnBook w lo (.agg #[.int .i64 R.n, .slice ao R.orders.length co, .slice al R.locked.length cl, .slice ac R.occ.length cc]) R K := by
  obtain ⟨a, b, c', d, h1, h2, -⟩ := h
  obtain ⟨ao, co, al, cl, ac, cc, rfl, rfl, rfl, rfl⟩ := bookAt_shape h2.bookAt
  exact ⟨ao, co, al, cl, ac, cc, h1, h2⟩

theorem DoneBox.lt {w : World} {lo P : Nat} {c : Int} {R : Bk} {K : Blk} (h : DoneBox w lo P c R K) : P < w.heap.size ∧ ∀ x, bookBlocks R K x → lo ≤ x ∧ x < w.heap.size := by
  obtain ⟨a, b, c', d, h1, h2, -⟩ := h
  exact ⟨heap_lt h1, fun x hx => ⟨h2.blocks_low hx, h2.blocks_lt hx⟩⟩

theorem done_cells {w : World} {p : Nat} {a b c d e : Value} {t : TypeId} (h : w.heap[p]? = some (.cells #[a, b, c, d, e] t (0, 0))) :
    w.cell? ⟨p, 0, none⟩ = some a ∧ w.cell? ⟨p, 1, none⟩ = some b ∧ w.cell? ⟨p, 2, none⟩ = some c ∧ w.cell? ⟨p, 3, none⟩ = some d ∧ w.cell? ⟨p, 4, none⟩ = some e := by
  simp [World.cell?, h]

/-- What is kept to the end: the law's arguments' boxes, and what the model answered. -/
structure St (w wX : World) (B : Bk) (E : Ev) (ao : Option Addr) (co : Nat) (al : Option Addr) (cl : Nat) (ac : Option Addr) (cc : Nat) (ad : Option Addr) (ca : Nat) (lo P0 : Nat) (n : Int) (R : Bk) (K0 : Blk) (h0 : Nat) : Prop where
  lb : wX.heap[w.heap.size]? = some (.cells #[.int .i64 B.n, .slice ao B.orders.length co, .slice al B.locked.length cl, .slice ac B.occ.length cc] 25 (0, 0))
  le : wX.heap[w.heap.size + 1]? = some (.cells #[.int .i64 E.op, .int .i64 E.of_, .string E.holder, .int .i64 E.kind, .slice ad E.secs.length ca, .string E.text] 28 (0, 0))
  bw : Below w.heap.size w wX
  z : w.heap.size + 1 < h0
  hz : h0 ≤ wX.heap.size
  D : DoneBox wX lo P0 n R K0
  p0 : P0 < h0
  k0 : ∀ x, bookBlocks R K0 x → x < h0

theorem St.fr {w wX wY : World} {B : Bk} {E : Ev} {ao : Option Addr} {co : Nat} {al : Option Addr} {cl : Nat} {ac : Option Addr} {cc : Nat} {ad : Option Addr} {ca lo P0 : Nat} {n : Int} {R : Bk} {K0 : Blk} {h0 : Nat} (h : St w wX B E ao co al cl ac cc ad ca lo P0 n R K0 h0) {S : Nat → Prop} (hf : Fr S wX wY) (hs : ∀ x, S x → h0 ≤ x) : St w wY B E ao co al cl ac cc ad ca lo P0 n R K0 h0 := by
  have z := h.z
  have hz := h.hz
  have p0 := h.p0
  refine ⟨(hf.block _ (by omega) (fun hx => by have := hs _ hx; omega)).trans h.lb, (hf.block _ (by omega) (fun hx => by have := hs _ hx; omega)).trans h.le, h.bw.trans (hf.below (by omega) (fun x hx => by have := hs _ hx; omega)), z, Nat.le_trans hz hf.size, h.D.fr hf (fun hx => by have := hs _ hx; omega) (fun x hb hx => by have := hs _ hx; have := h.k0 x hb; omega), p0, h.k0⟩

theorem St.below {w wX wY : World} {B : Bk} {E : Ev} {ao : Option Addr} {co : Nat} {al : Option Addr} {cl : Nat} {ac : Option Addr} {cc : Nat} {ad : Option Addr} {ca lo P0 : Nat} {n : Int} {R : Bk} {K0 : Blk} {h0 : Nat} (h : St w wX B E ao co al cl ac cc ad ca lo P0 n R K0 h0) (hb : Below wX.heap.size wX wY) : St w wY B E ao co al cl ac cc ad ca lo P0 n R K0 h0 :=
  h.fr (S := fun _ => False) (Fr.of_below hb) (fun _ h => h.elim)

/-- The event handed to the program, in its variable. -/
structure XE (wX : World) (E : Ev) (lo P2 g : Nat) : Prop where
  box : wX.heap[P2]? = some (.cells #[.int .i64 E.op, .int .i64 E.of_, .string E.holder, .int .i64 E.kind, .slice (some ⟨g, 0, none⟩) E.secs.length E.secs.length, .string E.text] 38 (0, 0))
  own : OwnEv wX lo (.agg #[.int .i64 E.op, .int .i64 E.of_, .string E.holder, .int .i64 E.kind, .slice (some ⟨g, 0, none⟩) E.secs.length E.secs.length, .string E.text]) E g
  g0 : lo ≤ g
  g1 : g < P2

theorem XE.fr {wX wY : World} {E : Ev} {lo P2 g : Nat} (h : XE wX E lo P2 g) {S : Nat → Prop} (hf : Fr S wX wY) (hs : ∀ x, S x → x < lo) : XE wY E lo P2 g := by
  have g0 := h.g0
  have g1 := h.g1
  refine ⟨(hf.block _ (heap_lt h.box) (fun hx => by have := hs _ hx; omega)).trans h.box, ⟨h.own.1, h.own.2.1, hf.row h.own.2.2 (fun hx => by have := hs _ hx; omega)⟩, g0, g1⟩

theorem XE.below {wX wY : World} {E : Ev} {lo P2 g : Nat} (h : XE wX E lo P2 g) (hb : Below wX.heap.size wX wY) : XE wY E lo P2 g :=
  h.fr (S := fun _ => False) (Fr.of_below hb) (fun _ h => h.elim)

/-- The book handed to the program, in its variable. -/
structure XB (wX : World) (B : Bk) (ao : Option Addr) (co : Nat) (al : Option Addr) (cl : Nat) (ac : Option Addr) (cc : Nat) (h0 P1 : Nat) (K : Blk) : Prop where
  box : wX.heap[P1]? = some (.cells #[.int .i64 B.n, .slice ao B.orders.length co, .slice al B.locked.length cl, .slice ac B.occ.length cc] 33 (0, 0))
  own : OwnBook wX h0 (.agg #[.int .i64 B.n, .slice ao B.orders.length co, .slice al B.locked.length cl, .slice ac B.occ.length cc]) B K
  k : ∀ x, bookBlocks B K x → h0 ≤ x ∧ x < P1

theorem XB.below {wX wY : World} {B : Bk} {ao : Option Addr} {co : Nat} {al : Option Addr} {cl : Nat} {ac : Option Addr} {cc : Nat} {h0 P1 : Nat} {K : Blk} (h : XB wX B ao co al cl ac cc h0 P1 K) (hb : Below wX.heap.size wX wY) : XB wY B ao co al cl ac cc h0 P1 K :=
  ⟨(hb.block _ (heap_lt h.box)).trans h.box, h.own.below hb, h.k⟩

/-- What the program answered, written over with marks, in its variable. -/
structure XD (wX : World) (n : Int) (R : Bk) (ao : Option Addr) (co : Nat) (al : Option Addr) (cl : Nat) (ac : Option Addr) (cc : Nat) (P3 : Nat) : Prop where
  box : wX.heap[P3]? = some (.cells #[.int .i64 n, .int .i64 R.n, .slice ao R.orders.length co, .slice al R.locked.length cl, .slice ac R.occ.length cc] 35 (0, 0))
  at_ : BookAt wX (.agg #[.int .i64 R.n, .slice ao R.orders.length co, .slice al R.locked.length cl, .slice ac R.occ.length cc]) (mBk R 1)

theorem XD.below {wX wY : World} {n : Int} {R : Bk} {ao : Option Addr} {co : Nat} {al : Option Addr} {cl : Nat} {ac : Option Addr} {cc : Nat} {P3 : Nat} (h : XD wX n R ao co al cl ac cc P3) (hb : Below wX.heap.size wX wY) : XD wY n R ao co al cl ac cc P3 :=
  ⟨(hb.block _ (heap_lt h.box)).trans h.box, h.at_.below hb⟩

end Go.Proofs.YtfaamibpenmfeabGreatDoor
