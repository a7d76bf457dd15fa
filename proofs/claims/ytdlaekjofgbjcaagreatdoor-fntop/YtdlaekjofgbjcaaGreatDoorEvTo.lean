/-
 The contracts of laws.szEvent, toEvent, eqEvent. Mine, by template (wip/gen.py).
-/
import Derived.Test.YtdlaekjofgbjcaaGreatDoorEvZ
import Derived.Test.YtdlaekjofgbjcaaGreatDoorBaseZ
namespace Go.Proofs.YtdlaekjofgbjcaaGreatDoor
open Go.RowKit
def OwnEv (w : World) (lo : Nat) (v : Value) (E : Ev) (g : Nat) : Prop :=
 v = .agg #[.int .i64 E.op, .int .i64 E.of_, .string E.holder, .int .i64 E.kind, .slice (some ⟨g, 0, none⟩) E.secs.length E.secs.length, .string E.text] ∧ lo ≤ g ∧ Pre w g 3 E.secs.length (iV E.secs)
theorem OwnEv.below {w w' : World} {lo : Nat} {v : Value} {E : Ev} {g : Nat} (h : OwnEv w lo v E g) (hb : Below w.heap.size w w') : OwnEv w' lo v E g :=
 ⟨h.1, h.2.1, h.2.2.of_block (hb.block _ h.2.2.lt)⟩
theorem below_set {B : Nat} {a w : World} (h : Below B a w) (b o : Nat) (hb : B ≤ b) (u : Value) : Below B a (w.setCell ⟨b, o, none⟩ u) := h.setCell hb u
end Go.Proofs.YtdlaekjofgbjcaaGreatDoor
