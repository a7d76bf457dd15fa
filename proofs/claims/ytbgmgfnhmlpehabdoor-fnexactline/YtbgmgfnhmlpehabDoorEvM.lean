/-
  The contracts of the happenings' methods. Mine, by template (wip/gen.py).
-/
import Derived.Test.YtbgmgfnhmlpehabDoorEvI
namespace Go.Proofs.YtbgmgfnhmlpehabDoor
open Go.RowKit

theorem named_writing (v : Value) (a b c d : Value) (hv : v = .agg #[a, b, c, d]) (w : World) : Calls Tryd.prog 107 #[v] w fun e w' => e = .returned (.int .i64 14) ∧ Below w.heap.size w w' := by
  subst hv
  go_enter Tryd.func107, Tryd.ntmps107
  go_wp2
  go_ret
  exact ⟨rfl, below1 _ _⟩
theorem named_ofOrder (a : Value) (w : World) : Calls Tryd.prog 103 #[.agg #[a]] w fun e w' => e = .returned (.int .i64 1) ∧ Below w.heap.size w w' := by
  go_enter Tryd.func103, Tryd.ntmps103
  go_wp2
  go_ret
  exact ⟨rfl, below1 _ _⟩
theorem named_ofSection (a : Value) (w : World) : Calls Tryd.prog 105 #[.agg #[a]] w fun e w' => e = .returned (.int .i64 1) ∧ Below w.heap.size w w' := by
  go_enter Tryd.func105, Tryd.ntmps105
  go_wp2
  go_ret
  exact ⟨rfl, below1 _ _⟩
theorem named_givingBack (a b : Value) (w : World) : Calls Tryd.prog 111 #[.agg #[a, b]] w fun e w' => e = .returned (.int .i64 3) ∧ Below w.heap.size w w' := by
  go_enter Tryd.func111, Tryd.ntmps111
  go_wp2
  go_ret
  exact ⟨rfl, below1 _ _⟩
theorem named_repeating (a b c : Value) (w : World) : Calls Tryd.prog 109 #[.agg #[a, b, c]] w fun e w' => e = .returned (.int .i64 19) ∧ Below w.heap.size w w' := by
  go_enter Tryd.func109, Tryd.ntmps109
  go_wp2
  go_ret
  exact ⟨rfl, below1 _ _⟩

end Go.Proofs.YtbgmgfnhmlpehabDoor
