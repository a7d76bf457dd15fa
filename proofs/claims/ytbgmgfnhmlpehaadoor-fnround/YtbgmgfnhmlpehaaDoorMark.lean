/-
  The contracts of laws.markIntS, markBoolS, markText, markOrderS, markBook: what owns its memory is overwritten, nothing else. Mine, by template (wip/gen.py).
-/
import Derived.Test.YtbgmgfnhmlpehaaDoorFr
import Derived.Test.YtbgmgfnhmlpehaaDoorDec
namespace Go.Proofs.YtbgmgfnhmlpehaaDoor
open Go.RowKit
/-- What a flag is marked with. -/
def mb (k : Int) : Bool := k % 3 == 0

end Go.Proofs.YtbgmgfnhmlpehaaDoor
