/-
  The contracts of laws.heldIntS, heldBoolS, heldOrderS, heldBook: where the marks stand, they are found. Mine, by template (wip/gen.py).
-/
import Derived.Test.YtbgmgfnhmlpehaaDoorMark2
import Derived.Deep.QuietTactic
import Derived.BigQuiet
import Derived.Deep.RegionHeld3
import Derived.Deep.DrawnRows
namespace Go.Proofs.YtbgmgfnhmlpehaaDoor
open Go.RowKit
end Go.Proofs.YtbgmgfnhmlpehaaDoor
