/-
  The contract of spec.EventOk. Mine, by program (wip/evs.py), by template (wip/gen.py).
-/
import Derived.Test.YtbcfmehcghkpiaaDoorEvZ
namespace Go.Proofs.YtbcfmehcghkpiaaDoor
open Go.RowKit

/-- The two variables that hold the book and the event. -/
theorem ev_cells {w : World} {p : Nat} {a b c d e f : Value} {t : TypeId} (h : w.heap[p]? = some (.cells #[a, b, c, d, e, f] t (0, 0))) :
    w.cell? ⟨p, 0, none⟩ = some a ∧ w.cell? ⟨p, 1, none⟩ = some b ∧ w.cell? ⟨p, 2, none⟩ = some c ∧ w.cell? ⟨p, 3, none⟩ = some d ∧ w.cell? ⟨p, 4, none⟩ = some e ∧ w.cell? ⟨p, 5, none⟩ = some f := by
  simp [World.cell?, h]

/-- What spec.EventOk's body asks, of an event laid open. -/
structure EvBounds (op of_ : Int) (holder : ByteArray) (kind : Int) (secs : List Int) (text : ByteArray) : Prop where
  h : holder.size ≤ 4294967296
  t : text.size ≤ 4294967296
  s : secs.length ≤ 4294967296

end Go.Proofs.YtbcfmehcghkpiaaDoor
