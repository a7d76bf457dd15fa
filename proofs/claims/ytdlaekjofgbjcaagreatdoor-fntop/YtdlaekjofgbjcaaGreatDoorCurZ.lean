import Derived.Test.YtdlaekjofgbjcaaGreatDoorOkZ
/-
 The bytes that a law draws from, and laws.wByte. Mine, by template (wip/gen.py).
-/
namespace Go.Proofs.YtdlaekjofgbjcaaGreatDoor
open Go.RowKit
def BytesAt (w : World) (ad : Option Addr) (n : Nat) (V : Nat → UInt8) : Prop := Cells w ad n (fun i => .int .u8 ((V i).toNat : Int))
end Go.Proofs.YtdlaekjofgbjcaaGreatDoor
