/-
  Plain notions: what a book in memory holds, as lists. Mine, by template (wip/gen.py).
-/
import Derived.Test.YtbgmgfnhmlpehaaDoorRows
import Derived.WalkKit
import Derived.WalkSpells
import Derived.WalkLawsBesides
import Derived.Deep.OwnRows
namespace Go.Proofs.YtbgmgfnhmlpehaaDoor
open Go.RowKit

/-- An order's content. -/
structure Ord where
  holder : ByteArray
  kind : Int
  secs : List Int
  state : Int

/-- A book's content. -/
structure Bk where
  n : Int
  orders : List Ord
  locked : List Bool
  occ : List Bool

def Ord.zero : Ord := ⟨ByteArray.empty, 0, [], 0⟩

/-- A book's orders by their numbers. -/
def bX (B : Bk) (i : Nat) : Ord := B.orders.getD i Ord.zero

/-- n cells from where a slice begins. -/
def Cells (w : World) (ad : Option Addr) (n : Nat) (V : Nat → Value) : Prop :=
  ∃ b o, (0 < n → ad = some ⟨b, o, none⟩) ∧ ∀ i, i < n → w.cell? ⟨b, o + i, none⟩ = some (V i)

def bV (xs : List Bool) (i : Nat) : Value := .bool (xs.getD i false)
def iV (xs : List Int) (i : Nat) : Value := .int .i64 (xs.getD i 0)

theorem Cells.below {w w' : World} {ad : Option Addr} {n : Nat} {V : Nat → Value} (h : Cells w ad n V) (hb : Below w.heap.size w w') : Cells w' ad n V := by
  obtain ⟨b, o, h1, h2⟩ := h
  exact ⟨b, o, h1, fun i hi => (hb.cell (p := ⟨b, o + i, none⟩) (World.block_lt_of_cell? _ _ (h2 i hi))).trans (h2 i hi)⟩

/-- The order whose four cells lie at b, o. -/
structure OrdAt (w : World) (b o : Nat) (x : Ord) (ad : Option Addr) (c : Nat) : Prop where
  c0 : w.cell? ⟨b, o, none⟩ = some (.string x.holder)
  c1 : w.cell? ⟨b, o + 1, none⟩ = some (.int .i64 x.kind)
  c2 : w.cell? ⟨b, o + 2, none⟩ = some (.slice ad x.secs.length c)
  c3 : w.cell? ⟨b, o + 3, none⟩ = some (.int .i64 x.state)
  secs : Cells w ad x.secs.length (iV x.secs)

theorem OrdAt.below {w w' : World} {b o : Nat} {x : Ord} {ad : Option Addr} {c : Nat} (h : OrdAt w b o x ad c) (hb : Below w.heap.size w w') : OrdAt w' b o x ad c := by
  have hl : b < w.heap.size := World.block_lt_of_cell? _ _ h.c0
  exact ⟨(hb.cell (p := ⟨b, o, none⟩) hl).trans h.c0, (hb.cell (p := ⟨b, o + 1, none⟩) hl).trans h.c1, (hb.cell (p := ⟨b, o + 2, none⟩) hl).trans h.c2, (hb.cell (p := ⟨b, o + 3, none⟩) hl).trans h.c3, h.secs.below hb⟩

/-- A slice of orders. -/
def OrdersAt (w : World) (ad : Option Addr) (xs : List Ord) : Prop :=
  ∃ b o, (0 < xs.length → ad = some ⟨b, o, none⟩) ∧ ∀ i, i < xs.length → ∃ sa sc, OrdAt w b (o + i * 4) (xs.getD i Ord.zero) sa sc

theorem OrdersAt.below {w w' : World} {ad : Option Addr} {xs : List Ord} (h : OrdersAt w ad xs) (hb : Below w.heap.size w w') : OrdersAt w' ad xs := by
  obtain ⟨b, o, h1, h2⟩ := h
  exact ⟨b, o, h1, fun i hi => by obtain ⟨sa, sc, h3⟩ := h2 i hi; exact ⟨sa, sc, h3.below hb⟩⟩

/-- A book by value. -/
def BookAt (w : World) (v : Value) (B : Bk) : Prop :=
  ∃ ao co al cl ac cc, v = .agg #[.int .i64 B.n, .slice ao B.orders.length co, .slice al B.locked.length cl, .slice ac B.occ.length cc] ∧
    OrdersAt w ao B.orders ∧ Cells w al B.locked.length (bV B.locked) ∧ Cells w ac B.occ.length (bV B.occ)

theorem BookAt.below {w w' : World} {v : Value} {B : Bk} (h : BookAt w v B) (hb : Below w.heap.size w w') : BookAt w' v B := by
  obtain ⟨ao, co, al, cl, ac, cc, e, h1, h2, h3⟩ := h
  exact ⟨ao, co, al, cl, ac, cc, e, h1.below hb, h2.below hb, h3.below hb⟩

/-- Two steps, each of which leaves what is there. -/
theorem below_trans {B : Nat} {a b c : World} (h : Below B a b) (hB : B ≤ b.heap.size) (k : Below b.heap.size b c) : Below B a c := h.trans (k.mono hB)

theorem Below.le_size {B : Nat} {a b : World} (h : Below B a b) (hB : B ≤ a.heap.size) : B ≤ b.heap.size := Nat.le_trans hB h.size

theorem bcell {W w1 : World} (hb : Below W.heap.size W w1) : (∀ b o, b < W.heap.size → w1.cell? ⟨b, o, none⟩ = W.cell? ⟨b, o, none⟩) ∧ (∀ b o, b < W.heap.size → w1.frozen? ⟨b, o, none⟩ = W.frozen? ⟨b, o, none⟩) :=
  ⟨fun b o h => hb.cell (p := ⟨b, o, none⟩) h, fun b o h => hb.frozen (p := ⟨b, o, none⟩) h⟩

theorem below2 (w : World) (x y : Obj) : Below w.heap.size w ((w.alloc x).alloc y) := ((Below.refl _ _).alloc (Nat.le_refl _) _).alloc (by simp) _
theorem below1 (w : World) (x : Obj) : Below w.heap.size w (w.alloc x) := (Below.refl _ _).alloc (Nat.le_refl _) _

/-- A store into one block and a step that leaves all else: a cell of another block. -/
theorem cell_step {B : Nat} {w1 w2 : World} {a : Addr} {u : Value} (hb : Below B (w1.setCell a u) w2) {b o : Nat} (h1 : b < B) (hne : b ≠ a.block) : w2.cell? ⟨b, o, none⟩ = w1.cell? ⟨b, o, none⟩ :=
  (hb.cell (p := ⟨b, o, none⟩) h1).trans (World.cell?_of_block (w := w1) (Below.heap_setCell _ _ _ _ hne))

theorem below3 (w : World) (x y z : Obj) : Below w.heap.size w (((w.alloc x).alloc y).alloc z) := (below2 w x y).alloc (by simp; omega) _

end Go.Proofs.YtbgmgfnhmlpehaaDoor
