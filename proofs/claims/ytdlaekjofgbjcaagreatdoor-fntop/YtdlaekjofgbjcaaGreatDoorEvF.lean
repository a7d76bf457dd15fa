/-
 Which method an event's row has: closed facts. Mine, by template (wip/gen.py).
-/
import Derived.Test.YtdlaekjofgbjcaaGreatDoorEvZ
namespace Go.Proofs.YtdlaekjofgbjcaaGreatDoor
open Go.RowKit
theorem Tryz.m_writing_namedFields (a b c d : Value) (w : World) : (Go.method 340 134 (.agg #[a, b, c, d]) "loop.example/handsignal/impl.namedFields").run Tryz.prog w = .ok (155, .agg #[a, b, c, d]) w := by kernel_rfl
theorem Tryz.n_writing_namedFields (a b c d : Value) (w : World) : (Go.nilAhead 340 134 (.agg #[a, b, c, d]) "loop.example/handsignal/impl.namedFields").run Tryz.prog w = .ok (some false) w := by kernel_rfl
theorem Tryz.m_writing_fits (a b c d : Value) (w : World) : (Go.method 340 134 (.agg #[a, b, c, d]) "loop.example/handsignal/impl.fits").run Tryz.prog w = .ok (154, .agg #[a, b, c, d]) w := by kernel_rfl
theorem Tryz.n_writing_fits (a b c d : Value) (w : World) : (Go.nilAhead 340 134 (.agg #[a, b, c, d]) "loop.example/handsignal/impl.fits").run Tryz.prog w = .ok (some false) w := by kernel_rfl
theorem Tryz.m_giving_namedFields (a : Value) (w : World) : (Go.method 340 139 (.agg #[a]) "loop.example/handsignal/impl.namedFields").run Tryz.prog w = .ok (157, .agg #[a]) w := by kernel_rfl
theorem Tryz.n_giving_namedFields (a : Value) (w : World) : (Go.nilAhead 340 139 (.agg #[a]) "loop.example/handsignal/impl.namedFields").run Tryz.prog w = .ok (some false) w := by kernel_rfl
theorem Tryz.m_giving_fits (a : Value) (w : World) : (Go.method 340 139 (.agg #[a]) "loop.example/handsignal/impl.fits").run Tryz.prog w = .ok (156, .agg #[a]) w := by kernel_rfl
theorem Tryz.n_giving_fits (a : Value) (w : World) : (Go.nilAhead 340 139 (.agg #[a]) "loop.example/handsignal/impl.fits").run Tryz.prog w = .ok (some false) w := by kernel_rfl
theorem Tryz.m_repeating_namedFields (a b c : Value) (w : World) : (Go.method 340 142 (.agg #[a, b, c]) "loop.example/handsignal/impl.namedFields").run Tryz.prog w = .ok (159, .agg #[a, b, c]) w := by kernel_rfl
theorem Tryz.n_repeating_namedFields (a b c : Value) (w : World) : (Go.nilAhead 340 142 (.agg #[a, b, c]) "loop.example/handsignal/impl.namedFields").run Tryz.prog w = .ok (some false) w := by kernel_rfl
theorem Tryz.m_repeating_fits (a b c : Value) (w : World) : (Go.method 340 142 (.agg #[a, b, c]) "loop.example/handsignal/impl.fits").run Tryz.prog w = .ok (158, .agg #[a, b, c]) w := by kernel_rfl
theorem Tryz.n_repeating_fits (a b c : Value) (w : World) : (Go.nilAhead 340 142 (.agg #[a, b, c]) "loop.example/handsignal/impl.fits").run Tryz.prog w = .ok (some false) w := by kernel_rfl
theorem Tryz.m_givingBack_namedFields (a b : Value) (w : World) : (Go.method 340 145 (.agg #[a, b]) "loop.example/handsignal/impl.namedFields").run Tryz.prog w = .ok (161, .agg #[a, b]) w := by kernel_rfl
theorem Tryz.n_givingBack_namedFields (a b : Value) (w : World) : (Go.nilAhead 340 145 (.agg #[a, b]) "loop.example/handsignal/impl.namedFields").run Tryz.prog w = .ok (some false) w := by kernel_rfl
theorem Tryz.m_givingBack_fits (a b : Value) (w : World) : (Go.method 340 145 (.agg #[a, b]) "loop.example/handsignal/impl.fits").run Tryz.prog w = .ok (160, .agg #[a, b]) w := by kernel_rfl
theorem Tryz.n_givingBack_fits (a b : Value) (w : World) : (Go.nilAhead 340 145 (.agg #[a, b]) "loop.example/handsignal/impl.fits").run Tryz.prog w = .ok (some false) w := by kernel_rfl
theorem Tryz.m_cancelling_namedFields (a : Value) (w : World) : (Go.method 340 147 (.agg #[a]) "loop.example/handsignal/impl.namedFields").run Tryz.prog w = .ok (157, .agg #[a]) w := by kernel_rfl
theorem Tryz.n_cancelling_namedFields (a : Value) (w : World) : (Go.nilAhead 340 147 (.agg #[a]) "loop.example/handsignal/impl.namedFields").run Tryz.prog w = .ok (some false) w := by kernel_rfl
theorem Tryz.m_cancelling_fits (a : Value) (w : World) : (Go.method 340 147 (.agg #[a]) "loop.example/handsignal/impl.fits").run Tryz.prog w = .ok (156, .agg #[a]) w := by kernel_rfl
theorem Tryz.n_cancelling_fits (a : Value) (w : World) : (Go.nilAhead 340 147 (.agg #[a]) "loop.example/handsignal/impl.fits").run Tryz.prog w = .ok (some false) w := by kernel_rfl
theorem Tryz.m_locking_namedFields (a : Value) (w : World) : (Go.method 340 152 (.agg #[a]) "loop.example/handsignal/impl.namedFields").run Tryz.prog w = .ok (163, .agg #[a]) w := by kernel_rfl
theorem Tryz.n_locking_namedFields (a : Value) (w : World) : (Go.nilAhead 340 152 (.agg #[a]) "loop.example/handsignal/impl.namedFields").run Tryz.prog w = .ok (some false) w := by kernel_rfl
theorem Tryz.m_locking_fits (a : Value) (w : World) : (Go.method 340 152 (.agg #[a]) "loop.example/handsignal/impl.fits").run Tryz.prog w = .ok (162, .agg #[a]) w := by kernel_rfl
theorem Tryz.n_locking_fits (a : Value) (w : World) : (Go.nilAhead 340 152 (.agg #[a]) "loop.example/handsignal/impl.fits").run Tryz.prog w = .ok (some false) w := by kernel_rfl
theorem Tryz.m_unlocking_namedFields (a : Value) (w : World) : (Go.method 340 153 (.agg #[a]) "loop.example/handsignal/impl.namedFields").run Tryz.prog w = .ok (163, .agg #[a]) w := by kernel_rfl
theorem Tryz.n_unlocking_namedFields (a : Value) (w : World) : (Go.nilAhead 340 153 (.agg #[a]) "loop.example/handsignal/impl.namedFields").run Tryz.prog w = .ok (some false) w := by kernel_rfl
theorem Tryz.m_unlocking_fits (a : Value) (w : World) : (Go.method 340 153 (.agg #[a]) "loop.example/handsignal/impl.fits").run Tryz.prog w = .ok (162, .agg #[a]) w := by kernel_rfl
theorem Tryz.n_unlocking_fits (a : Value) (w : World) : (Go.nilAhead 340 153 (.agg #[a]) "loop.example/handsignal/impl.fits").run Tryz.prog w = .ok (some false) w := by kernel_rfl
theorem Tryz.m_coming_namedFields (a : Value) (w : World) : (Go.method 340 154 (.agg #[a]) "loop.example/handsignal/impl.namedFields").run Tryz.prog w = .ok (163, .agg #[a]) w := by kernel_rfl
theorem Tryz.n_coming_namedFields (a : Value) (w : World) : (Go.nilAhead 340 154 (.agg #[a]) "loop.example/handsignal/impl.namedFields").run Tryz.prog w = .ok (some false) w := by kernel_rfl
theorem Tryz.m_coming_fits (a : Value) (w : World) : (Go.method 340 154 (.agg #[a]) "loop.example/handsignal/impl.fits").run Tryz.prog w = .ok (162, .agg #[a]) w := by kernel_rfl
theorem Tryz.n_coming_fits (a : Value) (w : World) : (Go.nilAhead 340 154 (.agg #[a]) "loop.example/handsignal/impl.fits").run Tryz.prog w = .ok (some false) w := by kernel_rfl
theorem Tryz.m_leaving_namedFields (a : Value) (w : World) : (Go.method 340 155 (.agg #[a]) "loop.example/handsignal/impl.namedFields").run Tryz.prog w = .ok (163, .agg #[a]) w := by kernel_rfl
theorem Tryz.n_leaving_namedFields (a : Value) (w : World) : (Go.nilAhead 340 155 (.agg #[a]) "loop.example/handsignal/impl.namedFields").run Tryz.prog w = .ok (some false) w := by kernel_rfl
theorem Tryz.m_leaving_fits (a : Value) (w : World) : (Go.method 340 155 (.agg #[a]) "loop.example/handsignal/impl.fits").run Tryz.prog w = .ok (162, .agg #[a]) w := by kernel_rfl
theorem Tryz.n_leaving_fits (a : Value) (w : World) : (Go.nilAhead 340 155 (.agg #[a]) "loop.example/handsignal/impl.fits").run Tryz.prog w = .ok (some false) w := by kernel_rfl
end Go.Proofs.YtdlaekjofgbjcaaGreatDoor
