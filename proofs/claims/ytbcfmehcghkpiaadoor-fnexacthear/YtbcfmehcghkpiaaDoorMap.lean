/-
  A map[int]int that the call made, as a plain function; laws for its look-up and its store. Mine, by template (wip/gen.py).
-/
import Derived.Test.YtbcfmehcghkpiaaDoorBaseZ
import Derived.Maps.Own
import Derived.Maps.OwnSet
import Derived.Maps.OwnOps
import Derived.Maps.Views
namespace Go.Proofs.YtbcfmehcghkpiaaDoor
open Go.RowKit Go.Maps

theorem lawInt : Keyed Tryd.prog 3 := int_keyed Tryd.underlying3
theorem zeroInt (w : World) : (zeroValue 3).run Tryd.prog w = .ok (.int .i64 0) w := by kernel_rfl

/-- Block b is a map of at most n entries that holds F. -/
def MapIs (w : World) (b n : Nat) (F : Int → Option Int) : Prop :=
  ∃ D : DataW Unit, w.ownsMap Tryd.prog 3 (plainElem Tryd.prog 3) b n D ∧ IsMap D ∧ ∀ s, Maps.has D (.int .i64 s) = (F s).isSome ∧ D.atKey (.int .i64 s) (.lit (.int .i64 0)) = .lit (.int .i64 ((F s).getD 0))

theorem MapIs.of_block {w w' : World} {b n : Nat} {F : Int → Option Int} (h : MapIs w b n F) (e : w'.heap[b]? = w.heap[b]?) : MapIs w' b n F := by
  obtain ⟨D, ⟨es, clock, h1, h2⟩, h3⟩ := h
  exact ⟨D, ⟨es, clock, e.trans h1, h2⟩, h3⟩

theorem MapIs.lt {w : World} {b n : Nat} {F : Int → Option Int} (h : MapIs w b n F) : b < w.heap.size := by
  obtain ⟨D, ⟨es, clock, h1, h2⟩, h3⟩ := h
  obtain ⟨hlt, _⟩ := Array.getElem?_eq_some_iff.1 h1
  exact hlt

theorem MapIs.below {w w' : World} {b n : Nat} {F : Int → Option Int} (h : MapIs w b n F) (hb : Below w.heap.size w w') : MapIs w' b n F := h.of_block (hb.block _ h.lt)

theorem MapIs.made (w : World) : MapIs (w.alloc (.map #[] 0)) w.heap.size 0 (fun _ => none) :=
  ⟨.map [], World.ownsMap_made _ _ _ _, isMap_empty, fun _ => ⟨rfl, rfl⟩⟩

end Go.Proofs.YtbcfmehcghkpiaaDoor
