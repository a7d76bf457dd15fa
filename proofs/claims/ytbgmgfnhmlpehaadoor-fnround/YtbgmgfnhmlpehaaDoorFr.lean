/-
  What has turned: only these blocks. Mine, by template (wip/gen.py).
-/
import Derived.Test.YtbgmgfnhmlpehaaDoorOwn
namespace Go.Proofs.YtbgmgfnhmlpehaaDoor
open Go.RowKit

/-- Of what was there only blocks of S have turned. -/
structure Fr (S : Nat → Prop) (w w' : World) : Prop where
  os : w'.os = w.os
  tape : w'.tape = w.tape
  output : w'.output = w.output
  size : w.heap.size ≤ w'.heap.size
  block : ∀ b, b < w.heap.size → ¬ S b → w'.heap[b]? = w.heap[b]?

theorem Fr.refl (S : Nat → Prop) (w : World) : Fr S w w := ⟨rfl, rfl, rfl, Nat.le_refl _, fun _ _ _ => rfl⟩
theorem Fr.trans {S : Nat → Prop} {a b c : World} (h : Fr S a b) (k : Fr S b c) : Fr S a c :=
  ⟨k.os.trans h.os, k.tape.trans h.tape, k.output.trans h.output, Nat.le_trans h.size k.size, fun i hi hs => (k.block i (Nat.lt_of_lt_of_le hi h.size) hs).trans (h.block i hi hs)⟩
theorem Fr.of_below {S : Nat → Prop} {a b : World} (h : Below a.heap.size a b) : Fr S a b := ⟨h.os, h.tape, h.output, h.size, fun i hi _ => h.block i hi⟩
theorem Fr.mono {S T : Nat → Prop} {a b : World} (h : Fr S a b) (hs : ∀ i, S i → T i) : Fr T a b := ⟨h.os, h.tape, h.output, h.size, fun i hi ht => h.block i hi (fun hsi => ht (hs i hsi))⟩
theorem Fr.setCell {S : Nat → Prop} {a w : World} (h : Fr S a w) {p : Addr} (hp : S p.block) (u : Value) : Fr S a (w.setCell p u) :=
  h.trans ⟨rfl, rfl, rfl, by simp [World.setCell], fun k _ hk => Below.heap_setCell _ _ _ _ (fun e => hk (e ▸ hp))⟩
theorem Fr.alloc {S : Nat → Prop} {a w : World} (h : Fr S a w) (o : Obj) : Fr S a (w.alloc o) :=
  h.trans (Fr.of_below (below1 w o))
/-- Where S lies wholly from B on, all below B is as it was. -/
theorem Fr.below {S : Nat → Prop} {a b : World} (h : Fr S a b) {B : Nat} (hB : B ≤ a.heap.size) (hs : ∀ i, S i → B ≤ i) : Below B a b :=
  ⟨h.os, h.tape, h.output, h.size, fun i hi => h.block i (by omega) (fun hsi => by have := hs i hsi; omega)⟩
theorem Fr.row {S : Nat → Prop} {a b : World} (h : Fr S a b) {g : Nat} {t : TypeId} {n : Nat} {f : Nat → Value} (hr : Pre a g t n f) (hs : ¬ S g) : Pre b g t n f := hr.of_block (h.block _ hr.lt hs)

def ordBlocks (n : Nat) (X : Nat → Ord) (G : Nat) (gs : Nat → Nat) (b : Nat) : Prop := (0 < n ∧ b = G) ∨ ∃ i, i < n ∧ 0 < (X i).secs.length ∧ b = gs i

theorem getD_range_map {α : Type} (n : Nat) (f : Nat → α) (d : α) (i : Nat) (h : i < n) : ((List.range n).map f).getD i d = f i := by simp [h]

theorem OwnOrds.congr {w : World} {lo : Nat} {ad : Option Addr} {n : Nat} {X Y : Nat → Ord} {G : Nat} {gs : Nat → Nat} {sa : Nat → Option Addr} {sc : Nat → Nat} (h : OwnOrds w lo ad n X G gs sa sc) (e : ∀ i, i < n → X i = Y i) : OwnOrds w lo ad n Y G gs sa sc :=
  ⟨h.head, fun hp => (h.row hp).congr (fun j hj => by unfold ordCells; rw [e (j / 4) (by omega)]), h.low, fun i hi hp => by rw [← e i hi] at hp ⊢; exact h.sec i hi hp, fun i hi hp => by rw [← e i hi] at hp; exact h.slow i hi hp,
    fun i j hi hj hp hp' => by rw [← e i hi] at hp; rw [← e j hj] at hp'; exact h.inj i j hi hj hp hp'⟩

theorem OwnOrds.fr {w w' : World} {lo : Nat} {ad : Option Addr} {n : Nat} {X : Nat → Ord} {G : Nat} {gs : Nat → Nat} {sa : Nat → Option Addr} {sc : Nat → Nat} (h : OwnOrds w lo ad n X G gs sa sc) {S : Nat → Prop} (hf : Fr S w w') (hs : ∀ b, ordBlocks n X G gs b → ¬ S b) : OwnOrds w' lo ad n X G gs sa sc :=
  ⟨h.head, fun hp => hf.row (h.row hp) (hs _ (Or.inl ⟨hp, rfl⟩)), h.low, fun i hi hp => ⟨(h.sec i hi hp).1, hf.row (h.sec i hi hp).2 (hs _ (Or.inr ⟨i, hi, hp, rfl⟩))⟩, h.slow, h.inj⟩

theorem OwnBools.fr {w w' : World} {lo : Nat} {ad : Option Addr} {n : Nat} {V : Nat → Bool} {G : Nat} (h : OwnBools w lo ad n V G) {S : Nat → Prop} (hf : Fr S w w') (hs : 0 < n → ¬ S G) : OwnBools w' lo ad n V G :=
  ⟨h.head, fun hp => hf.row (h.row hp) (hs hp), h.low⟩

def bookBlocks (B : Bk) (K : Blk) (b : Nat) : Prop := ordBlocks B.orders.length (bX B) K.G K.gs b ∨ (0 < B.locked.length ∧ b = K.L) ∨ (0 < B.occ.length ∧ b = K.C)

theorem OwnBook.blocks_low {w : World} {lo : Nat} {v : Value} {B : Bk} {K : Blk} (h : OwnBook w lo v B K) {b : Nat} (hb : bookBlocks B K b) : lo ≤ b := by
  obtain ⟨ao, co, al, cl, ac, cc, _, h1, h2, h3⟩ := h.shape
  rcases hb with (⟨hp, rfl⟩ | ⟨i, hi, hp, rfl⟩) | ⟨hp, rfl⟩ | ⟨hp, rfl⟩
  · exact h1.low hp
  · exact (h1.slow i hi hp).1
  · exact h2.low hp
  · exact h3.low hp

theorem OwnBook.blocks_lt {w : World} {lo : Nat} {v : Value} {B : Bk} {K : Blk} (h : OwnBook w lo v B K) {b : Nat} (hb : bookBlocks B K b) : b < w.heap.size := by
  obtain ⟨ao, co, al, cl, ac, cc, _, h1, h2, h3⟩ := h.shape
  rcases hb with (⟨hp, rfl⟩ | ⟨i, hi, hp, rfl⟩) | ⟨hp, rfl⟩ | ⟨hp, rfl⟩
  · exact (h1.row hp).lt
  · exact (h1.sec i hi hp).2.lt
  · exact (h2.row hp).lt
  · exact (h3.row hp).lt

theorem OwnBook.fr {w w' : World} {lo : Nat} {v : Value} {B : Bk} {K : Blk} (h : OwnBook w lo v B K) {S : Nat → Prop} (hf : Fr S w w') (hs : ∀ b, bookBlocks B K b → ¬ S b) : OwnBook w' lo v B K := by
  obtain ⟨⟨ao, co, al, cl, ac, cc, e, h1, h2, h3⟩, q1, q2, q3, q4, q5⟩ := h
  exact ⟨⟨ao, co, al, cl, ac, cc, e, h1.fr hf (fun b hb => hs b (Or.inl hb)), h2.fr hf (fun hp => hs _ (Or.inr (Or.inl ⟨hp, rfl⟩))), h3.fr hf (fun hp => hs _ (Or.inr (Or.inr ⟨hp, rfl⟩)))⟩, q1, q2, q3, q4, q5⟩

/-- A variable that holds a book. -/
theorem box_cells {w : World} {p : Nat} {a b c d : Value} {t : TypeId} (h : w.heap[p]? = some (.cells #[a, b, c, d] t (0, 0))) :
    w.cell? ⟨p, 0, none⟩ = some a ∧ w.cell? ⟨p, 1, none⟩ = some b ∧ w.cell? ⟨p, 2, none⟩ = some c ∧ w.cell? ⟨p, 3, none⟩ = some d := by
  simp [World.cell?, h]

theorem box_new (w : World) (o : Obj) : (w.alloc o).heap[w.heap.size]? = some o := Deep.blk_alloc_new _ _

end Go.Proofs.YtbgmgfnhmlpehaaDoor
