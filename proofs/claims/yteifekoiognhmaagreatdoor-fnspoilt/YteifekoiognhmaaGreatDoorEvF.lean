/-
  Which method an event's row has: closed facts. Mine, by template (wip/gen.py).
-/
import Derived.Test.YteifekoiognhmaaGreatDoorEvZ
namespace Go.Proofs.YteifekoiognhmaaGreatDoor
open Go.RowKit

theorem Tryz.m_writing_namedFields (a b c d : Value) (w : World) : (Go.method 292 110 (.agg #[a, b, c, d]) "loop.example/handsignal/impl.namedFields").run Tryz.prog w = .ok (112, .agg #[a, b, c, d]) w := by kernel_rfl
theorem Tryz.n_writing_namedFields (a b c d : Value) (w : World) : (Go.nilAhead 292 110 (.agg #[a, b, c, d]) "loop.example/handsignal/impl.namedFields").run Tryz.prog w = .ok (some false) w := by kernel_rfl
theorem Tryz.m_writing_fits (a b c d : Value) (w : World) : (Go.method 292 110 (.agg #[a, b, c, d]) "loop.example/handsignal/impl.fits").run Tryz.prog w = .ok (111, .agg #[a, b, c, d]) w := by kernel_rfl
theorem Tryz.n_writing_fits (a b c d : Value) (w : World) : (Go.nilAhead 292 110 (.agg #[a, b, c, d]) "loop.example/handsignal/impl.fits").run Tryz.prog w = .ok (some false) w := by kernel_rfl
theorem Tryz.m_giving_namedFields (a : Value) (w : World) : (Go.method 292 112 (.agg #[a]) "loop.example/handsignal/impl.namedFields").run Tryz.prog w = .ok (108, .agg #[a]) w := by kernel_rfl
theorem Tryz.n_giving_namedFields (a : Value) (w : World) : (Go.nilAhead 292 112 (.agg #[a]) "loop.example/handsignal/impl.namedFields").run Tryz.prog w = .ok (some false) w := by kernel_rfl
theorem Tryz.m_giving_fits (a : Value) (w : World) : (Go.method 292 112 (.agg #[a]) "loop.example/handsignal/impl.fits").run Tryz.prog w = .ok (107, .agg #[a]) w := by kernel_rfl
theorem Tryz.n_giving_fits (a : Value) (w : World) : (Go.nilAhead 292 112 (.agg #[a]) "loop.example/handsignal/impl.fits").run Tryz.prog w = .ok (some false) w := by kernel_rfl
theorem Tryz.m_repeating_namedFields (a b c : Value) (w : World) : (Go.method 292 114 (.agg #[a, b, c]) "loop.example/handsignal/impl.namedFields").run Tryz.prog w = .ok (114, .agg #[a, b, c]) w := by kernel_rfl
theorem Tryz.n_repeating_namedFields (a b c : Value) (w : World) : (Go.nilAhead 292 114 (.agg #[a, b, c]) "loop.example/handsignal/impl.namedFields").run Tryz.prog w = .ok (some false) w := by kernel_rfl
theorem Tryz.m_repeating_fits (a b c : Value) (w : World) : (Go.method 292 114 (.agg #[a, b, c]) "loop.example/handsignal/impl.fits").run Tryz.prog w = .ok (113, .agg #[a, b, c]) w := by kernel_rfl
theorem Tryz.n_repeating_fits (a b c : Value) (w : World) : (Go.nilAhead 292 114 (.agg #[a, b, c]) "loop.example/handsignal/impl.fits").run Tryz.prog w = .ok (some false) w := by kernel_rfl
theorem Tryz.m_givingBack_namedFields (a b : Value) (w : World) : (Go.method 292 116 (.agg #[a, b]) "loop.example/handsignal/impl.namedFields").run Tryz.prog w = .ok (116, .agg #[a, b]) w := by kernel_rfl
theorem Tryz.n_givingBack_namedFields (a b : Value) (w : World) : (Go.nilAhead 292 116 (.agg #[a, b]) "loop.example/handsignal/impl.namedFields").run Tryz.prog w = .ok (some false) w := by kernel_rfl
theorem Tryz.m_givingBack_fits (a b : Value) (w : World) : (Go.method 292 116 (.agg #[a, b]) "loop.example/handsignal/impl.fits").run Tryz.prog w = .ok (115, .agg #[a, b]) w := by kernel_rfl
theorem Tryz.n_givingBack_fits (a b : Value) (w : World) : (Go.nilAhead 292 116 (.agg #[a, b]) "loop.example/handsignal/impl.fits").run Tryz.prog w = .ok (some false) w := by kernel_rfl
theorem Tryz.m_cancelling_namedFields (a : Value) (w : World) : (Go.method 292 117 (.agg #[a]) "loop.example/handsignal/impl.namedFields").run Tryz.prog w = .ok (108, .agg #[a]) w := by kernel_rfl
theorem Tryz.n_cancelling_namedFields (a : Value) (w : World) : (Go.nilAhead 292 117 (.agg #[a]) "loop.example/handsignal/impl.namedFields").run Tryz.prog w = .ok (some false) w := by kernel_rfl
theorem Tryz.m_cancelling_fits (a : Value) (w : World) : (Go.method 292 117 (.agg #[a]) "loop.example/handsignal/impl.fits").run Tryz.prog w = .ok (107, .agg #[a]) w := by kernel_rfl
theorem Tryz.n_cancelling_fits (a : Value) (w : World) : (Go.nilAhead 292 117 (.agg #[a]) "loop.example/handsignal/impl.fits").run Tryz.prog w = .ok (some false) w := by kernel_rfl
theorem Tryz.m_locking_namedFields (a : Value) (w : World) : (Go.method 292 119 (.agg #[a]) "loop.example/handsignal/impl.namedFields").run Tryz.prog w = .ok (110, .agg #[a]) w := by kernel_rfl
theorem Tryz.n_locking_namedFields (a : Value) (w : World) : (Go.nilAhead 292 119 (.agg #[a]) "loop.example/handsignal/impl.namedFields").run Tryz.prog w = .ok (some false) w := by kernel_rfl
theorem Tryz.m_locking_fits (a : Value) (w : World) : (Go.method 292 119 (.agg #[a]) "loop.example/handsignal/impl.fits").run Tryz.prog w = .ok (109, .agg #[a]) w := by kernel_rfl
theorem Tryz.n_locking_fits (a : Value) (w : World) : (Go.nilAhead 292 119 (.agg #[a]) "loop.example/handsignal/impl.fits").run Tryz.prog w = .ok (some false) w := by kernel_rfl
theorem Tryz.m_unlocking_namedFields (a : Value) (w : World) : (Go.method 292 120 (.agg #[a]) "loop.example/handsignal/impl.namedFields").run Tryz.prog w = .ok (110, .agg #[a]) w := by kernel_rfl
theorem Tryz.n_unlocking_namedFields (a : Value) (w : World) : (Go.nilAhead 292 120 (.agg #[a]) "loop.example/handsignal/impl.namedFields").run Tryz.prog w = .ok (some false) w := by kernel_rfl
theorem Tryz.m_unlocking_fits (a : Value) (w : World) : (Go.method 292 120 (.agg #[a]) "loop.example/handsignal/impl.fits").run Tryz.prog w = .ok (109, .agg #[a]) w := by kernel_rfl
theorem Tryz.n_unlocking_fits (a : Value) (w : World) : (Go.nilAhead 292 120 (.agg #[a]) "loop.example/handsignal/impl.fits").run Tryz.prog w = .ok (some false) w := by kernel_rfl
theorem Tryz.m_coming_namedFields (a : Value) (w : World) : (Go.method 292 121 (.agg #[a]) "loop.example/handsignal/impl.namedFields").run Tryz.prog w = .ok (110, .agg #[a]) w := by kernel_rfl
theorem Tryz.n_coming_namedFields (a : Value) (w : World) : (Go.nilAhead 292 121 (.agg #[a]) "loop.example/handsignal/impl.namedFields").run Tryz.prog w = .ok (some false) w := by kernel_rfl
theorem Tryz.m_coming_fits (a : Value) (w : World) : (Go.method 292 121 (.agg #[a]) "loop.example/handsignal/impl.fits").run Tryz.prog w = .ok (109, .agg #[a]) w := by kernel_rfl
theorem Tryz.n_coming_fits (a : Value) (w : World) : (Go.nilAhead 292 121 (.agg #[a]) "loop.example/handsignal/impl.fits").run Tryz.prog w = .ok (some false) w := by kernel_rfl
theorem Tryz.m_leaving_namedFields (a : Value) (w : World) : (Go.method 292 122 (.agg #[a]) "loop.example/handsignal/impl.namedFields").run Tryz.prog w = .ok (110, .agg #[a]) w := by kernel_rfl
theorem Tryz.n_leaving_namedFields (a : Value) (w : World) : (Go.nilAhead 292 122 (.agg #[a]) "loop.example/handsignal/impl.namedFields").run Tryz.prog w = .ok (some false) w := by kernel_rfl
theorem Tryz.m_leaving_fits (a : Value) (w : World) : (Go.method 292 122 (.agg #[a]) "loop.example/handsignal/impl.fits").run Tryz.prog w = .ok (109, .agg #[a]) w := by kernel_rfl
theorem Tryz.n_leaving_fits (a : Value) (w : World) : (Go.nilAhead 292 122 (.agg #[a]) "loop.example/handsignal/impl.fits").run Tryz.prog w = .ok (some false) w := by kernel_rfl

end Go.Proofs.YteifekoiognhmaaGreatDoor
