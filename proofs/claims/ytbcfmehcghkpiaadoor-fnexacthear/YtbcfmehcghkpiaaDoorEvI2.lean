/-
  The contract of impl.EventOk. Mine, by template (wip/gen.py).
-/
import Derived.Test.YtbcfmehcghkpiaaDoorEvM
import Derived.Test.YtbcfmehcghkpiaaDoorEvS
import Derived.Test.YtbcfmehcghkpiaaDoorEvF
namespace Go.Proofs.YtbcfmehcghkpiaaDoor
open Go.RowKit

/-- The fields that a row does not name are empty. -/
def LeftOk (m : Int) (of_ : Int) (holder : ByteArray) (kind : Int) (n : Nat) (text : ByteArray) : Prop := (m = 14 → of_ = 0) ∧ (m = 1 → holder.size = 0) ∧ (m ≠ 14 → kind = 0 ∧ n = 0) ∧ (m ≠ 19 → text.size = 0)

/-- What is left of the filled fields when the named ones are taken away: nothing, or something. -/
theorem fbit_cases (m : Int) (of_ : Int) (holder : ByteArray) (kind : Int) (n : Nat) (text : ByteArray) (hm : m = 14 ∨ m = 1 ∨ m = 3 ∨ m = 19) :
    (bits .andNot .i64 (fbits of_ holder kind n text : Nat) m = 0 ↔ LeftOk m of_ holder kind n text) := by
  unfold LeftOk
  have e1 : (of_ != 0) = false ↔ of_ = 0 := by simp
  have e2 : (!holder.toList.isEmpty) = false ↔ holder.size = 0 := by
    by_cases h : holder.size = 0
    · rw [isE_t h]; simp [h]
    · rw [isE_f h]; simp [h]
  have e3 : (kind != 0) = false ↔ kind = 0 := by simp
  have e4 : decide (0 < n) = false ↔ n = 0 := by rw [decide_eq_false_iff_not]; omega
  have e5 : (!text.toList.isEmpty) = false ↔ text.size = 0 := by
    by_cases h : text.size = 0
    · rw [isE_t h]; simp [h]
    · rw [isE_f h]; simp [h]
  rw [← e1, ← e2, ← e3, ← e4, ← e5]
  unfold fbits
  generalize (of_ != 0) = b1
  generalize (!holder.toList.isEmpty) = b2
  generalize (kind != 0) = b3
  generalize decide (0 < n) = b4
  generalize (!text.toList.isEmpty) = b5
  rcases hm with rfl | rfl | rfl | rfl <;> cases b1 <;> cases b2 <;> cases b3 <;> cases b4 <;> cases b5 <;> decide

end Go.Proofs.YtbcfmehcghkpiaaDoor
