/-
  What BookOk says, as propositions; the contract of spec.BookOk. Mine, by template (wip/gen.py).
-/
import Derived.Test.YtbcfmehcghkpiaaDoorOk2
import Derived.Deep.RegionHeld3
import Derived.Deep.RegionWith
import Derived.Deep.DrawnRows
namespace Go.Proofs.YtbcfmehcghkpiaaDoor
open Go.RowKit

def AllOrd (B : Bk) : Prop := ∀ i, i < B.orders.length → OrdOk (bX B i) B.n
def Clash (x y : Ord) : Prop := OpenP x.state ∧ OpenP y.state ∧ Meet x.secs.length y.secs.length (sV x) (sV y)
def NoClash (B : Bk) : Prop := ∀ i, i < B.orders.length → ∀ j, j < i → ¬ Clash (bX B i) (bX B j)
def LockedAt (B : Bk) (x : Ord) : Prop := OpenP x.state ∧ ∃ q, q < x.secs.length ∧ B.locked.getD (sV x q).toNat false = true
def NoLock (B : Bk) : Prop := ∀ i, i < B.orders.length → ¬ LockedAt B (bX B i)

/-- The code of a book. -/
def BCode (B : Bk) (c : Int) : Prop :=
  (¬ SizesOk B ∧ c = 1) ∨ (SizesOk B ∧ ¬ AllOrd B ∧ c = 2) ∨ (SizesOk B ∧ AllOrd B ∧ ¬ NoClash B ∧ c = 3) ∨ (SizesOk B ∧ AllOrd B ∧ NoClash B ∧ ¬ NoLock B ∧ c = 4) ∨ (SizesOk B ∧ AllOrd B ∧ NoClash B ∧ NoLock B ∧ c = 0)

theorem BCode.det {B : Bk} {c d : Int} (h : BCode B c) (k : BCode B d) : c = d := by
  unfold BCode at h k
  rcases h with h | h | h | h | h <;> rcases k with k | k | k | k | k <;> first | (exact h.2.trans k.2.symm) | (exact absurd k.1 h.1) | (exact absurd h.1 k.1) | (exact h.2.2.trans k.2.2.symm) | (exact absurd k.2.1 h.2.1) | (exact absurd h.2.1 k.2.1) | (exact h.2.2.2.trans k.2.2.2.symm) | (exact absurd k.2.2.1 h.2.2.1) | (exact absurd h.2.2.1 k.2.2.1) | (exact h.2.2.2.2.trans k.2.2.2.2.symm) | (exact absurd k.2.2.2.1 h.2.2.2.1) | (exact absurd h.2.2.2.1 k.2.2.2.1)

/-- The answer is the book's code. -/
def RetC (e : Ending) (B : Bk) : Prop := ∃ c, e = .returned (.int .i64 c) ∧ BCode B c

theorem RetC.one {B : Bk} (h : ¬ SizesOk B) : RetC (.returned (.int .i64 1)) B := ⟨1, rfl, Or.inl ⟨h, rfl⟩⟩
theorem RetC.two {B : Bk} (h : SizesOk B) (h2 : ¬ AllOrd B) : RetC (.returned (.int .i64 2)) B := ⟨2, rfl, Or.inr (Or.inl ⟨h, h2, rfl⟩)⟩
theorem RetC.three {B : Bk} (h : SizesOk B) (h2 : AllOrd B) (h3 : ¬ NoClash B) : RetC (.returned (.int .i64 3)) B := ⟨3, rfl, Or.inr (Or.inr (Or.inl ⟨h, h2, h3, rfl⟩))⟩
theorem RetC.four {B : Bk} (h : SizesOk B) (h2 : AllOrd B) (h3 : NoClash B) (h4 : ¬ NoLock B) : RetC (.returned (.int .i64 4)) B := ⟨4, rfl, Or.inr (Or.inr (Or.inr (Or.inl ⟨h, h2, h3, h4, rfl⟩)))⟩
theorem RetC.zero {B : Bk} (h : SizesOk B) (h2 : AllOrd B) (h3 : NoClash B) (h4 : NoLock B) : RetC (.returned (.int .i64 0)) B := ⟨0, rfl, Or.inr (Or.inr (Or.inr (Or.inr ⟨h, h2, h3, h4, rfl⟩)))⟩

/-- A region that has come to its end. -/
theorem wpAny_end {P : Program} {md : Region.Mode} {ops : Array Oper} {Q : Exit → Act → World → Prop} {fuel : Nat} {listed : Array Bool} {a : Act} {w : World} (hr : Region.ready md ops listed = []) (h : Q .normal a w) : wpAny P md ops Q fuel listed a w := wpAny_done hr h fuel

/-- Whether an order is open, as a bool. -/
def Dec (t : Int) (r : Bool) : Prop := r = true ↔ OpenP t
theorem dec_ex (t : Int) : ∃ r, Dec t r := by
  by_cases h : OpenP t
  · exact ⟨true, ⟨fun _ => h, fun _ => rfl⟩⟩
  · exact ⟨false, ⟨fun e => (by cases e), fun q => absurd q h⟩⟩

end Go.Proofs.YtbcfmehcghkpiaaDoor
