/-
  The contracts of laws.szEvent, toEvent, eqEvent. Mine, by template (wip/gen.py).
-/
import Derived.Test.YteifekoiognhmaaGreatDoorEvZ
import Derived.Test.YteifekoiognhmaaGreatDoorBaseZ
namespace Go.Proofs.YteifekoiognhmaaGreatDoor
open Go.RowKit
/-- An event by value that owns its sections, in block g. -/
def OwnEv (w : World) (lo : Nat) (v : Value) (E : Ev) (g : Nat) : Prop :=
  v = .agg #[.int .i64 E.op, .int .i64 E.of_, .string E.holder, .int .i64 E.kind, .slice (some ⟨g, 0, none⟩) E.secs.length E.secs.length, .string E.text] ∧ lo ≤ g ∧ Pre w g 3 E.secs.length (iV E.secs)

theorem OwnEv.evAt {w : World} {lo : Nat} {v : Value} {E : Ev} {g : Nat} (h : OwnEv w lo v E g) : EvAt w v E :=
  ⟨_, _, h.1, g, 0, fun _ => rfl, fun i hi => by rw [Nat.zero_add]; exact h.2.2.cell hi⟩
theorem OwnEv.below {w w' : World} {lo : Nat} {v : Value} {E : Ev} {g : Nat} (h : OwnEv w lo v E g) (hb : Below w.heap.size w w') : OwnEv w' lo v E g :=
  ⟨h.1, h.2.1, h.2.2.of_block (hb.block _ h.2.2.lt)⟩

theorem row_other {w : World} {g : Nat} {t : TypeId} {n : Nat} {f : Nat → Value} (h : w.rowIs g t n f) (b o : Nat) (hb : g ≠ b) (u : Value) : (w.setCell ⟨b, o, none⟩ u).rowIs g t n f := h.setOther hb u
theorem below_set {B : Nat} {a w : World} (h : Below B a w) (b o : Nat) (hb : B ≤ b) (u : Value) : Below B a (w.setCell ⟨b, o, none⟩ u) := h.setCell hb u

end Go.Proofs.YteifekoiognhmaaGreatDoor
