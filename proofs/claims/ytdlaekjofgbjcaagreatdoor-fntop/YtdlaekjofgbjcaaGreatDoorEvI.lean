/-
 The contracts of impl.happeningOf, filledFields, and of the happenings' methods. Mine, by program (wip/evi.py), by template (wip/gen.py).
-/
import Derived.Test.YtdlaekjofgbjcaaGreatDoorEvZ
import Derived.Test.YtdlaekjofgbjcaaGreatDoorMapZ
namespace Go.Proofs.YtdlaekjofgbjcaaGreatDoor
open Go.RowKit
def hapV (op of_ : Int) (holder : ByteArray) (kind : Int) (ad : Option Addr) (n c : Nat) (text : ByteArray) : Value :=
 if op = 1 then .iface 134 (.agg #[.string holder, .int .i64 kind, .slice ad n c, .int .i64 1])
 else if op = 2 then .iface 139 (.agg #[.int .i64 of_])
 else if op = 3 then .iface 142 (.agg #[.int .i64 of_, .string holder, .string text])
 else if op = 4 then .iface 145 (.agg #[.int .i64 of_, .string holder])
 else if op = 5 then .iface 147 (.agg #[.int .i64 of_])
 else if op = 6 then .iface 152 (.agg #[.int .i64 of_])
 else if op = 7 then .iface 153 (.agg #[.int .i64 of_])
 else if op = 8 then .iface 154 (.agg #[.int .i64 of_])
 else if op = 9 then .iface 155 (.agg #[.int .i64 of_])
 else .nilIface
set_option maxHeartbeats 4000000 in
theorem happeningOf_any (op of_ : Int) (holder : ByteArray) (kind : Int) (ad : Option Addr) (n c : Nat) (text : ByteArray) (w : World) :
  Calls Tryz.prog 61 #[.agg #[.int .i64 op, .int .i64 of_, .string holder, .int .i64 kind, .slice ad n c, .string text]] w fun e w' => e = .returned (hapV op of_ holder kind ad n c text) ∧ Below w.heap.size w w' := by
 go_enter Tryz.func61, Tryz.ntmps61
 go_wp2; go_region
 ·
  by_cases o1 : op = 1
  ·
   subst o1; go_wp2; go_ret; exact ⟨rfl, (below3 _ _ _ _).drew⟩
  by_cases o2 : op = 2
  ·
   subst o2; clear o1; go_wp2; go_ret; exact ⟨rfl, (below3 _ _ _ _).drew⟩
  by_cases o3 : op = 3
  ·
   subst o3; clear o1 o2; go_wp2; go_ret; exact ⟨rfl, (below3 _ _ _ _).drew⟩
  by_cases o4 : op = 4
  ·
   subst o4; clear o1 o2 o3; go_wp2; go_ret; exact ⟨rfl, (below3 _ _ _ _).drew⟩
  by_cases o5 : op = 5
  ·
   subst o5; clear o1 o2 o3 o4; go_wp2; go_ret; exact ⟨rfl, (below3 _ _ _ _).drew⟩
  by_cases o6 : op = 6
  ·
   subst o6; clear o1 o2 o3 o4 o5; go_wp2; go_ret; exact ⟨rfl, (below3 _ _ _ _).drew⟩
  by_cases o7 : op = 7
  ·
   subst o7; clear o1 o2 o3 o4 o5 o6; go_wp2; go_ret; exact ⟨rfl, (below3 _ _ _ _).drew⟩
  by_cases o8 : op = 8
  ·
   subst o8; clear o1 o2 o3 o4 o5 o6 o7; go_wp2; go_ret; exact ⟨rfl, (below3 _ _ _ _).drew⟩
  by_cases o9 : op = 9
  ·
   subst o9; clear o1 o2 o3 o4 o5 o6 o7 o8; go_wp2; go_ret; exact ⟨rfl, (below3 _ _ _ _).drew⟩
  have t1 : (op == 1) = false := by simpa using o1
  have t2 : (op == 2) = false := by simpa using o2
  have t3 : (op == 3) = false := by simpa using o3
  have t4 : (op == 4) = false := by simpa using o4
  have t5 : (op == 5) = false := by simpa using o5
  have t6 : (op == 6) = false := by simpa using o6
  have t7 : (op == 7) = false := by simpa using o7
  have t8 : (op == 8) = false := by simpa using o8
  have t9 : (op == 9) = false := by simpa using o9
  have hv : hapV op of_ holder kind ad n c text = .nilIface := by unfold hapV; rw [if_neg o1, if_neg o2, if_neg o3, if_neg o4, if_neg o5, if_neg o6, if_neg o7, if_neg o8, if_neg o9]
  have HV : Hid (hapV op of_ holder kind ad n c text = .nilIface) := hv; clear hv o1 o2 o3 o4 o5 o6 o7 o8 o9; go_wp2; go_ret; exact ⟨by rw [HV.out]; rfl, (below3 _ _ _ _).drew⟩
 ·
  by_cases o1 : op = 1
  ·
   subst o1; go_wp2; go_ret; exact ⟨rfl, (below3 _ _ _ _).drew⟩
  by_cases o2 : op = 2
  ·
   subst o2; clear o1; go_wp2; go_ret; exact ⟨rfl, (below3 _ _ _ _).drew⟩
  by_cases o3 : op = 3
  ·
   subst o3; clear o1 o2; go_wp2; go_ret; exact ⟨rfl, (below3 _ _ _ _).drew⟩
  by_cases o4 : op = 4
  ·
   subst o4; clear o1 o2 o3; go_wp2; go_ret; exact ⟨rfl, (below3 _ _ _ _).drew⟩
  by_cases o5 : op = 5
  ·
   subst o5; clear o1 o2 o3 o4; go_wp2; go_ret; exact ⟨rfl, (below3 _ _ _ _).drew⟩
  by_cases o6 : op = 6
  ·
   subst o6; clear o1 o2 o3 o4 o5; go_wp2; go_ret; exact ⟨rfl, (below3 _ _ _ _).drew⟩
  by_cases o7 : op = 7
  ·
   subst o7; clear o1 o2 o3 o4 o5 o6; go_wp2; go_ret; exact ⟨rfl, (below3 _ _ _ _).drew⟩
  by_cases o8 : op = 8
  ·
   subst o8; clear o1 o2 o3 o4 o5 o6 o7; go_wp2; go_ret; exact ⟨rfl, (below3 _ _ _ _).drew⟩
  by_cases o9 : op = 9
  ·
   subst o9; clear o1 o2 o3 o4 o5 o6 o7 o8; go_wp2; go_ret; exact ⟨rfl, (below3 _ _ _ _).drew⟩
  have t1 : (op == 1) = false := by simpa using o1
  have t2 : (op == 2) = false := by simpa using o2
  have t3 : (op == 3) = false := by simpa using o3
  have t4 : (op == 4) = false := by simpa using o4
  have t5 : (op == 5) = false := by simpa using o5
  have t6 : (op == 6) = false := by simpa using o6
  have t7 : (op == 7) = false := by simpa using o7
  have t8 : (op == 8) = false := by simpa using o8
  have t9 : (op == 9) = false := by simpa using o9
  have hv : hapV op of_ holder kind ad n c text = .nilIface := by unfold hapV; rw [if_neg o1, if_neg o2, if_neg o3, if_neg o4, if_neg o5, if_neg o6, if_neg o7, if_neg o8, if_neg o9]
  have HV : Hid (hapV op of_ holder kind ad n c text = .nilIface) := hv; clear hv o1 o2 o3 o4 o5 o6 o7 o8 o9; go_wp2; go_ret; exact ⟨by rw [HV.out]; rfl, (below3 _ _ _ _).drew⟩
/-! ### Which fields are filled -/
def bit (k : Nat) (p : Bool) : Nat := if p then k else 0
def fbits (of_ : Int) (holder : ByteArray) (kind : Int) (n : Nat) (text : ByteArray) : Nat :=
 bit 1 (of_ != 0) + bit 2 (!holder.toList.isEmpty) + bit 4 (kind != 0) + bit 8 (decide (0 < n)) + bit 16 (!text.toList.isEmpty)
set_option maxHeartbeats 4000000 in
theorem filledFields_any (op of_ : Int) (holder : ByteArray) (kind : Int) (ad : Option Addr) (n c : Nat) (text : ByteArray) (w : World) :
  Calls Tryz.prog 70 #[.agg #[.int .i64 op, .int .i64 of_, .string holder, .int .i64 kind, .slice ad n c, .string text]] w fun e w' => e = .returned (.int .i64 (fbits of_ holder kind n text : Nat)) ∧ Below w.heap.size w w' := by
 unfold fbits; generalize h1 : (of_ != 0) = b1; generalize h2 : holder.toList.isEmpty = b2; generalize h3 : (kind != 0) = b3; generalize h4 : decide (0 < n) = b4; generalize h5 : text.toList.isEmpty = b5
 cases b1 <;> cases b2 <;> cases b3 <;> cases b4 <;> cases b5 <;> (go_enter Tryz.func70, Tryz.ntmps70; go_wp2; go_ret; exact ⟨rfl, below1 _ _⟩)
end Go.Proofs.YtdlaekjofgbjcaaGreatDoor
