/-
  The contract of impl.anyMarked. Mine, by template (wip/gen.py).
-/
import Derived.Test.YtbcfmehcghkpiaaDoorRight
namespace Go.Proofs.YtbcfmehcghkpiaaDoor
open Go.RowKit

/-- One of an order's first k sections is marked. -/
def MarkedTo (bs : List Bool) (x : Ord) (k : Nat) : Prop := ∃ q, q < k ∧ bs.getD (sV x q).toNat false = true
def Marked (bs : List Bool) (x : Ord) : Prop := MarkedTo bs x x.secs.length

end Go.Proofs.YtbcfmehcghkpiaaDoor
