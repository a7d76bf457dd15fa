/-
  What the type switch finds: closed facts. Mine, by program (wip/ido5.py), by template (wip/gen.py).
-/
import Derived.Test.YteifekoiognhmaaGreatDoorEvZ
namespace Go.Proofs.YteifekoiognhmaaGreatDoor
open Go.RowKit

theorem Tryz.as_writing_writing (a b c d : Value) (w : World) : (Instr.typeAssert (.iface 110 (.agg #[a, b, c, d])) 80 110 true).run Tryz.prog w = .ok (.tuple #[.agg #[a, b, c, d], .bool true]) w := by kernel_rfl
theorem Tryz.as_giving_writing (a : Value) (w : World) : (Instr.typeAssert (.iface 112 (.agg #[a])) 80 110 true).run Tryz.prog w = .ok (.tuple #[.agg #[.string ByteArray.empty, .int .i64 0, .slice none 0 0, .int .i64 0], .bool false]) w := by kernel_rfl
theorem Tryz.as_giving_giving (a : Value) (w : World) : (Instr.typeAssert (.iface 112 (.agg #[a])) 80 112 true).run Tryz.prog w = .ok (.tuple #[.agg #[a], .bool true]) w := by kernel_rfl
theorem Tryz.as_repeating_writing (a b c : Value) (w : World) : (Instr.typeAssert (.iface 114 (.agg #[a, b, c])) 80 110 true).run Tryz.prog w = .ok (.tuple #[.agg #[.string ByteArray.empty, .int .i64 0, .slice none 0 0, .int .i64 0], .bool false]) w := by kernel_rfl
theorem Tryz.as_repeating_giving (a b c : Value) (w : World) : (Instr.typeAssert (.iface 114 (.agg #[a, b, c])) 80 112 true).run Tryz.prog w = .ok (.tuple #[.agg #[.int .i64 0], .bool false]) w := by kernel_rfl
theorem Tryz.as_repeating_repeating (a b c : Value) (w : World) : (Instr.typeAssert (.iface 114 (.agg #[a, b, c])) 80 114 true).run Tryz.prog w = .ok (.tuple #[.agg #[a, b, c], .bool true]) w := by kernel_rfl
theorem Tryz.as_givingBack_writing (a b : Value) (w : World) : (Instr.typeAssert (.iface 116 (.agg #[a, b])) 80 110 true).run Tryz.prog w = .ok (.tuple #[.agg #[.string ByteArray.empty, .int .i64 0, .slice none 0 0, .int .i64 0], .bool false]) w := by kernel_rfl
theorem Tryz.as_givingBack_giving (a b : Value) (w : World) : (Instr.typeAssert (.iface 116 (.agg #[a, b])) 80 112 true).run Tryz.prog w = .ok (.tuple #[.agg #[.int .i64 0], .bool false]) w := by kernel_rfl
theorem Tryz.as_givingBack_repeating (a b : Value) (w : World) : (Instr.typeAssert (.iface 116 (.agg #[a, b])) 80 114 true).run Tryz.prog w = .ok (.tuple #[.agg #[.int .i64 0, .string ByteArray.empty, .string ByteArray.empty], .bool false]) w := by kernel_rfl
theorem Tryz.as_givingBack_givingBack (a b : Value) (w : World) : (Instr.typeAssert (.iface 116 (.agg #[a, b])) 80 116 true).run Tryz.prog w = .ok (.tuple #[.agg #[a, b], .bool true]) w := by kernel_rfl
theorem Tryz.as_cancelling_writing (a : Value) (w : World) : (Instr.typeAssert (.iface 117 (.agg #[a])) 80 110 true).run Tryz.prog w = .ok (.tuple #[.agg #[.string ByteArray.empty, .int .i64 0, .slice none 0 0, .int .i64 0], .bool false]) w := by kernel_rfl
theorem Tryz.as_cancelling_giving (a : Value) (w : World) : (Instr.typeAssert (.iface 117 (.agg #[a])) 80 112 true).run Tryz.prog w = .ok (.tuple #[.agg #[.int .i64 0], .bool false]) w := by kernel_rfl
theorem Tryz.as_cancelling_repeating (a : Value) (w : World) : (Instr.typeAssert (.iface 117 (.agg #[a])) 80 114 true).run Tryz.prog w = .ok (.tuple #[.agg #[.int .i64 0, .string ByteArray.empty, .string ByteArray.empty], .bool false]) w := by kernel_rfl
theorem Tryz.as_cancelling_givingBack (a : Value) (w : World) : (Instr.typeAssert (.iface 117 (.agg #[a])) 80 116 true).run Tryz.prog w = .ok (.tuple #[.agg #[.int .i64 0, .string ByteArray.empty], .bool false]) w := by kernel_rfl
theorem Tryz.as_cancelling_cancelling (a : Value) (w : World) : (Instr.typeAssert (.iface 117 (.agg #[a])) 80 117 true).run Tryz.prog w = .ok (.tuple #[.agg #[a], .bool true]) w := by kernel_rfl
theorem Tryz.as_locking_writing (a : Value) (w : World) : (Instr.typeAssert (.iface 119 (.agg #[a])) 80 110 true).run Tryz.prog w = .ok (.tuple #[.agg #[.string ByteArray.empty, .int .i64 0, .slice none 0 0, .int .i64 0], .bool false]) w := by kernel_rfl
theorem Tryz.as_locking_giving (a : Value) (w : World) : (Instr.typeAssert (.iface 119 (.agg #[a])) 80 112 true).run Tryz.prog w = .ok (.tuple #[.agg #[.int .i64 0], .bool false]) w := by kernel_rfl
theorem Tryz.as_locking_repeating (a : Value) (w : World) : (Instr.typeAssert (.iface 119 (.agg #[a])) 80 114 true).run Tryz.prog w = .ok (.tuple #[.agg #[.int .i64 0, .string ByteArray.empty, .string ByteArray.empty], .bool false]) w := by kernel_rfl
theorem Tryz.as_locking_givingBack (a : Value) (w : World) : (Instr.typeAssert (.iface 119 (.agg #[a])) 80 116 true).run Tryz.prog w = .ok (.tuple #[.agg #[.int .i64 0, .string ByteArray.empty], .bool false]) w := by kernel_rfl
theorem Tryz.as_locking_cancelling (a : Value) (w : World) : (Instr.typeAssert (.iface 119 (.agg #[a])) 80 117 true).run Tryz.prog w = .ok (.tuple #[.agg #[.int .i64 0], .bool false]) w := by kernel_rfl
theorem Tryz.as_locking_locking (a : Value) (w : World) : (Instr.typeAssert (.iface 119 (.agg #[a])) 80 119 true).run Tryz.prog w = .ok (.tuple #[.agg #[a], .bool true]) w := by kernel_rfl
theorem Tryz.as_unlocking_writing (a : Value) (w : World) : (Instr.typeAssert (.iface 120 (.agg #[a])) 80 110 true).run Tryz.prog w = .ok (.tuple #[.agg #[.string ByteArray.empty, .int .i64 0, .slice none 0 0, .int .i64 0], .bool false]) w := by kernel_rfl
theorem Tryz.as_unlocking_giving (a : Value) (w : World) : (Instr.typeAssert (.iface 120 (.agg #[a])) 80 112 true).run Tryz.prog w = .ok (.tuple #[.agg #[.int .i64 0], .bool false]) w := by kernel_rfl
theorem Tryz.as_unlocking_repeating (a : Value) (w : World) : (Instr.typeAssert (.iface 120 (.agg #[a])) 80 114 true).run Tryz.prog w = .ok (.tuple #[.agg #[.int .i64 0, .string ByteArray.empty, .string ByteArray.empty], .bool false]) w := by kernel_rfl
theorem Tryz.as_unlocking_givingBack (a : Value) (w : World) : (Instr.typeAssert (.iface 120 (.agg #[a])) 80 116 true).run Tryz.prog w = .ok (.tuple #[.agg #[.int .i64 0, .string ByteArray.empty], .bool false]) w := by kernel_rfl
theorem Tryz.as_unlocking_cancelling (a : Value) (w : World) : (Instr.typeAssert (.iface 120 (.agg #[a])) 80 117 true).run Tryz.prog w = .ok (.tuple #[.agg #[.int .i64 0], .bool false]) w := by kernel_rfl
theorem Tryz.as_unlocking_locking (a : Value) (w : World) : (Instr.typeAssert (.iface 120 (.agg #[a])) 80 119 true).run Tryz.prog w = .ok (.tuple #[.agg #[.int .i64 0], .bool false]) w := by kernel_rfl
theorem Tryz.as_unlocking_unlocking (a : Value) (w : World) : (Instr.typeAssert (.iface 120 (.agg #[a])) 80 120 true).run Tryz.prog w = .ok (.tuple #[.agg #[a], .bool true]) w := by kernel_rfl
theorem Tryz.as_coming_writing (a : Value) (w : World) : (Instr.typeAssert (.iface 121 (.agg #[a])) 80 110 true).run Tryz.prog w = .ok (.tuple #[.agg #[.string ByteArray.empty, .int .i64 0, .slice none 0 0, .int .i64 0], .bool false]) w := by kernel_rfl
theorem Tryz.as_coming_giving (a : Value) (w : World) : (Instr.typeAssert (.iface 121 (.agg #[a])) 80 112 true).run Tryz.prog w = .ok (.tuple #[.agg #[.int .i64 0], .bool false]) w := by kernel_rfl
theorem Tryz.as_coming_repeating (a : Value) (w : World) : (Instr.typeAssert (.iface 121 (.agg #[a])) 80 114 true).run Tryz.prog w = .ok (.tuple #[.agg #[.int .i64 0, .string ByteArray.empty, .string ByteArray.empty], .bool false]) w := by kernel_rfl
theorem Tryz.as_coming_givingBack (a : Value) (w : World) : (Instr.typeAssert (.iface 121 (.agg #[a])) 80 116 true).run Tryz.prog w = .ok (.tuple #[.agg #[.int .i64 0, .string ByteArray.empty], .bool false]) w := by kernel_rfl
theorem Tryz.as_coming_cancelling (a : Value) (w : World) : (Instr.typeAssert (.iface 121 (.agg #[a])) 80 117 true).run Tryz.prog w = .ok (.tuple #[.agg #[.int .i64 0], .bool false]) w := by kernel_rfl
theorem Tryz.as_coming_locking (a : Value) (w : World) : (Instr.typeAssert (.iface 121 (.agg #[a])) 80 119 true).run Tryz.prog w = .ok (.tuple #[.agg #[.int .i64 0], .bool false]) w := by kernel_rfl
theorem Tryz.as_coming_unlocking (a : Value) (w : World) : (Instr.typeAssert (.iface 121 (.agg #[a])) 80 120 true).run Tryz.prog w = .ok (.tuple #[.agg #[.int .i64 0], .bool false]) w := by kernel_rfl
theorem Tryz.as_coming_coming (a : Value) (w : World) : (Instr.typeAssert (.iface 121 (.agg #[a])) 80 121 true).run Tryz.prog w = .ok (.tuple #[.agg #[a], .bool true]) w := by kernel_rfl
theorem Tryz.as_leaving_writing (a : Value) (w : World) : (Instr.typeAssert (.iface 122 (.agg #[a])) 80 110 true).run Tryz.prog w = .ok (.tuple #[.agg #[.string ByteArray.empty, .int .i64 0, .slice none 0 0, .int .i64 0], .bool false]) w := by kernel_rfl
theorem Tryz.as_leaving_giving (a : Value) (w : World) : (Instr.typeAssert (.iface 122 (.agg #[a])) 80 112 true).run Tryz.prog w = .ok (.tuple #[.agg #[.int .i64 0], .bool false]) w := by kernel_rfl
theorem Tryz.as_leaving_repeating (a : Value) (w : World) : (Instr.typeAssert (.iface 122 (.agg #[a])) 80 114 true).run Tryz.prog w = .ok (.tuple #[.agg #[.int .i64 0, .string ByteArray.empty, .string ByteArray.empty], .bool false]) w := by kernel_rfl
theorem Tryz.as_leaving_givingBack (a : Value) (w : World) : (Instr.typeAssert (.iface 122 (.agg #[a])) 80 116 true).run Tryz.prog w = .ok (.tuple #[.agg #[.int .i64 0, .string ByteArray.empty], .bool false]) w := by kernel_rfl
theorem Tryz.as_leaving_cancelling (a : Value) (w : World) : (Instr.typeAssert (.iface 122 (.agg #[a])) 80 117 true).run Tryz.prog w = .ok (.tuple #[.agg #[.int .i64 0], .bool false]) w := by kernel_rfl
theorem Tryz.as_leaving_locking (a : Value) (w : World) : (Instr.typeAssert (.iface 122 (.agg #[a])) 80 119 true).run Tryz.prog w = .ok (.tuple #[.agg #[.int .i64 0], .bool false]) w := by kernel_rfl
theorem Tryz.as_leaving_unlocking (a : Value) (w : World) : (Instr.typeAssert (.iface 122 (.agg #[a])) 80 120 true).run Tryz.prog w = .ok (.tuple #[.agg #[.int .i64 0], .bool false]) w := by kernel_rfl
theorem Tryz.as_leaving_coming (a : Value) (w : World) : (Instr.typeAssert (.iface 122 (.agg #[a])) 80 121 true).run Tryz.prog w = .ok (.tuple #[.agg #[.int .i64 0], .bool false]) w := by kernel_rfl
theorem Tryz.as_leaving_leaving (a : Value) (w : World) : (Instr.typeAssert (.iface 122 (.agg #[a])) 80 122 true).run Tryz.prog w = .ok (.tuple #[.agg #[a], .bool true]) w := by kernel_rfl

end Go.Proofs.YteifekoiognhmaaGreatDoor
