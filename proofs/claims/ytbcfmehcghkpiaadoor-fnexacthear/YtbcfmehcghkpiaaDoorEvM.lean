/-
  The contracts of the happenings' methods. Mine, by template (wip/gen.py).
-/
import Derived.Test.YtbcfmehcghkpiaaDoorEvI
namespace Go.Proofs.YtbcfmehcghkpiaaDoor
open Go.RowKit

theorem named_writing (v : Value) (a b c d : Value) (hv : v = .agg #[a, b, c, d]) (w : World) : Calls Tryd.prog 102 #[v] w fun e w' => e = .returned (.int .i64 14) ∧ Below w.heap.size w w' := by
  subst hv
  go_enter Tryd.func102, Tryd.ntmps102
  go_wp2
  go_ret
  exact ⟨rfl, below1 _ _⟩
theorem named_ofOrder (a : Value) (w : World) : Calls Tryd.prog 98 #[.agg #[a]] w fun e w' => e = .returned (.int .i64 1) ∧ Below w.heap.size w w' := by
  go_enter Tryd.func98, Tryd.ntmps98
  go_wp2
  go_ret
  exact ⟨rfl, below1 _ _⟩
theorem named_ofSection (a : Value) (w : World) : Calls Tryd.prog 100 #[.agg #[a]] w fun e w' => e = .returned (.int .i64 1) ∧ Below w.heap.size w w' := by
  go_enter Tryd.func100, Tryd.ntmps100
  go_wp2
  go_ret
  exact ⟨rfl, below1 _ _⟩
theorem named_givingBack (a b : Value) (w : World) : Calls Tryd.prog 106 #[.agg #[a, b]] w fun e w' => e = .returned (.int .i64 3) ∧ Below w.heap.size w w' := by
  go_enter Tryd.func106, Tryd.ntmps106
  go_wp2
  go_ret
  exact ⟨rfl, below1 _ _⟩
theorem named_repeating (a b c : Value) (w : World) : Calls Tryd.prog 104 #[.agg #[a, b, c]] w fun e w' => e = .returned (.int .i64 19) ∧ Below w.heap.size w w' := by
  go_enter Tryd.func104, Tryd.ntmps104
  go_wp2
  go_ret
  exact ⟨rfl, below1 _ _⟩

end Go.Proofs.YtbcfmehcghkpiaaDoor
