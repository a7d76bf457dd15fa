/-
  The contract of impl.BookOk. Mine, by template (wip/gen.py).
-/
import Derived.Test.YtbcfmehcghkpiaaDoorOwners
namespace Go.Proofs.YtbcfmehcghkpiaaDoor
open Go.RowKit

theorem ListOk.mono {n : Nat} {V : Nat → Int} {a b : Int} (h : ListOk n V a) (hab : a ≤ b) : ListOk n V b :=
  ⟨fun i hi => ⟨(h.1 i hi).1, by have := (h.1 i hi).2.1; omega, (h.1 i hi).2.2⟩, h.2⟩

theorem noClash_of {B : Bk} {F : Int → Option Int} (h : Inv (bX B) B.orders.length 0 F) : NoClash B := fun _ hi _ hj => h.alone hi hj

theorem lock_four {B : Bk} {F : Int → Option Int} {j : Nat} {v : Int} (h : Inv (bX B) B.orders.length 0 F) (e : F (j : Int) = some v) (hl : B.locked.getD j false = true) : ¬ NoLock B := by
  obtain ⟨i, _, p1, p2⟩ := h.1 _ _ e
  rcases p2 with ⟨a, q, b, c⟩ | ⟨_, q, b, _⟩
  · intro hn
    refine hn i a ⟨p1, q, b, ?_⟩
    rw [c]
    simpa using hl
  · omega

theorem lock_none {B : Bk} {F : Int → Option Int} (hs : SizesOk B) (ha : AllOrd B) (h : Inv (bX B) B.orders.length 0 F) (hl : ∀ j, j < B.locked.length → ¬ ((F (j : Int)).isSome = true ∧ B.locked.getD j false = true)) : NoLock B := by
  rintro i hi ⟨o1, q, hq, e⟩
  have hb := (ha i hi).2.2.1.1 q hq
  have hL := hs.2.1
  have hF := h.2 (sV (bX B i) q) i ⟨o1, Or.inl ⟨hi, q, hq, rfl⟩⟩
  refine hl (sV (bX B i) q).toNat (by omega) ⟨?_, e⟩
  rw [show (((sV (bX B i) q).toNat : Nat) : Int) = sV (bX B i) q by omega, hF]
  rfl

end Go.Proofs.YtbcfmehcghkpiaaDoor
