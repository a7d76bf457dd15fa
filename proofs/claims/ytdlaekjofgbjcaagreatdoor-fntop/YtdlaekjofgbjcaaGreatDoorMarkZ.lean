import Derived.Test.YtdlaekjofgbjcaaGreatDoorBaseZ
import Derived.Test.YtdlaekjofgbjcaaGreatDoorTextZ
import Derived.Deep.QuietTactic
import Derived.BigQuiet
import Derived.Deep.RegionHeld3
import Derived.Deep.DrawnRows
/-
 The contracts of laws.markIntS, markBoolS, markText, markOrderS, markBook: what owns its memory is overwritten, nothing else. Mine, by template (wip/gen.py).
-/
namespace Go.Proofs.YtdlaekjofgbjcaaGreatDoor
open Go.RowKit
end Go.Proofs.YtdlaekjofgbjcaaGreatDoor
/-
 The contracts of laws.markOrderS, markBook. Mine, by template (wip/gen.py).
-/
namespace Go.Proofs.YtdlaekjofgbjcaaGreatDoor
open Go.RowKit
def kAt (X : Nat → Ord) (k : Nat) : Nat → Nat
 | 0 => k
 | i + 1 => kAt X k i + 3 + (X i).secs.length
def bK (B : Bk) (k : Nat) : Nat := kAt (bX B) k B.orders.length
def bEnd (B : Bk) (k : Nat) : Nat := bK B k + B.locked.length + B.occ.length
end Go.Proofs.YtdlaekjofgbjcaaGreatDoor
/-
 The contracts of laws.heldIntS, heldBoolS, heldOrderS, heldBook: where the marks stand, they are found. Mine, by template (wip/gen.py).
-/
namespace Go.Proofs.YtdlaekjofgbjcaaGreatDoor
open Go.RowKit
end Go.Proofs.YtdlaekjofgbjcaaGreatDoor
