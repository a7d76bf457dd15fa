/-
  A book of no great bulk. Mine, by template (wip/gen.py).
-/
import Derived.Test.YtbgmgfnhmlpehaaDoorTo
import Derived.Test.YtbgmgfnhmlpehaaDoorOpen
namespace Go.Proofs.YtbgmgfnhmlpehaaDoor
open Go.RowKit

/-- A book of no great bulk. -/
structure Small (B : Bk) : Prop where
  o : B.orders.length ≤ 1048576
  s : ∀ i, i < B.orders.length → (bX B i).secs.length ≤ 1048576 ∧ (bX B i).holder.size ≤ 1048576
  e : ∀ i, i < B.orders.length → (B.orders.getD i Ord.zero).secs.length ≤ 4294967296
  l : B.locked.length ≤ 4294967296
  c : B.occ.length ≤ 4294967296

theorem small_of {B : Bk} (h : wBk B ≤ 1048576) : Small B := by
  have h1 : ∀ i, i < B.orders.length → wOrd (B.orders.getD i Ord.zero) ≤ wOrds B.orders := fun i hi => wOrds_mem B.orders i hi
  unfold wBk at h
  refine ⟨by omega, fun i hi => ?_, fun i hi => ?_, by omega, by omega⟩
  · have := h1 i hi
    unfold wOrd at this
    unfold bX
    omega
  · have := h1 i hi
    unfold wOrd at this
    omega

end Go.Proofs.YtbgmgfnhmlpehaaDoor
