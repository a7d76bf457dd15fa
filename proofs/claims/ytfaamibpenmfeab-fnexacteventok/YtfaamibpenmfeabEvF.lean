/-
  Which method an event's row has: closed facts. Mine, by template (wip/gen.py).
-/
import Derived.Test.YtfaamibpenmfeabEv
namespace Go.Proofs.Ytfaamibpenmfeab
open Go.RowKit

theorem Try.m_writing_namedFields (a b c d : Value) (w : World) : (Go.method 222 85 (.agg #[a, b, c, d]) "loop.example/handsignal/impl.namedFields").run Try.prog w = .ok (77, .agg #[a, b, c, d]) w := by kernel_rfl
theorem Try.n_writing_namedFields (a b c d : Value) (w : World) : (Go.nilAhead 222 85 (.agg #[a, b, c, d]) "loop.example/handsignal/impl.namedFields").run Try.prog w = .ok (some false) w := by kernel_rfl
theorem Try.m_writing_fits (a b c d : Value) (w : World) : (Go.method 222 85 (.agg #[a, b, c, d]) "loop.example/handsignal/impl.fits").run Try.prog w = .ok (76, .agg #[a, b, c, d]) w := by kernel_rfl
theorem Try.n_writing_fits (a b c d : Value) (w : World) : (Go.nilAhead 222 85 (.agg #[a, b, c, d]) "loop.example/handsignal/impl.fits").run Try.prog w = .ok (some false) w := by kernel_rfl
theorem Try.m_giving_namedFields (a : Value) (w : World) : (Go.method 222 87 (.agg #[a]) "loop.example/handsignal/impl.namedFields").run Try.prog w = .ok (73, .agg #[a]) w := by kernel_rfl
theorem Try.n_giving_namedFields (a : Value) (w : World) : (Go.nilAhead 222 87 (.agg #[a]) "loop.example/handsignal/impl.namedFields").run Try.prog w = .ok (some false) w := by kernel_rfl
theorem Try.m_giving_fits (a : Value) (w : World) : (Go.method 222 87 (.agg #[a]) "loop.example/handsignal/impl.fits").run Try.prog w = .ok (72, .agg #[a]) w := by kernel_rfl
theorem Try.n_giving_fits (a : Value) (w : World) : (Go.nilAhead 222 87 (.agg #[a]) "loop.example/handsignal/impl.fits").run Try.prog w = .ok (some false) w := by kernel_rfl
theorem Try.m_repeating_namedFields (a b c : Value) (w : World) : (Go.method 222 89 (.agg #[a, b, c]) "loop.example/handsignal/impl.namedFields").run Try.prog w = .ok (79, .agg #[a, b, c]) w := by kernel_rfl
theorem Try.n_repeating_namedFields (a b c : Value) (w : World) : (Go.nilAhead 222 89 (.agg #[a, b, c]) "loop.example/handsignal/impl.namedFields").run Try.prog w = .ok (some false) w := by kernel_rfl
theorem Try.m_repeating_fits (a b c : Value) (w : World) : (Go.method 222 89 (.agg #[a, b, c]) "loop.example/handsignal/impl.fits").run Try.prog w = .ok (78, .agg #[a, b, c]) w := by kernel_rfl
theorem Try.n_repeating_fits (a b c : Value) (w : World) : (Go.nilAhead 222 89 (.agg #[a, b, c]) "loop.example/handsignal/impl.fits").run Try.prog w = .ok (some false) w := by kernel_rfl
theorem Try.m_givingBack_namedFields (a b : Value) (w : World) : (Go.method 222 91 (.agg #[a, b]) "loop.example/handsignal/impl.namedFields").run Try.prog w = .ok (81, .agg #[a, b]) w := by kernel_rfl
theorem Try.n_givingBack_namedFields (a b : Value) (w : World) : (Go.nilAhead 222 91 (.agg #[a, b]) "loop.example/handsignal/impl.namedFields").run Try.prog w = .ok (some false) w := by kernel_rfl
theorem Try.m_givingBack_fits (a b : Value) (w : World) : (Go.method 222 91 (.agg #[a, b]) "loop.example/handsignal/impl.fits").run Try.prog w = .ok (80, .agg #[a, b]) w := by kernel_rfl
theorem Try.n_givingBack_fits (a b : Value) (w : World) : (Go.nilAhead 222 91 (.agg #[a, b]) "loop.example/handsignal/impl.fits").run Try.prog w = .ok (some false) w := by kernel_rfl
theorem Try.m_cancelling_namedFields (a : Value) (w : World) : (Go.method 222 92 (.agg #[a]) "loop.example/handsignal/impl.namedFields").run Try.prog w = .ok (73, .agg #[a]) w := by kernel_rfl
theorem Try.n_cancelling_namedFields (a : Value) (w : World) : (Go.nilAhead 222 92 (.agg #[a]) "loop.example/handsignal/impl.namedFields").run Try.prog w = .ok (some false) w := by kernel_rfl
theorem Try.m_cancelling_fits (a : Value) (w : World) : (Go.method 222 92 (.agg #[a]) "loop.example/handsignal/impl.fits").run Try.prog w = .ok (72, .agg #[a]) w := by kernel_rfl
theorem Try.n_cancelling_fits (a : Value) (w : World) : (Go.nilAhead 222 92 (.agg #[a]) "loop.example/handsignal/impl.fits").run Try.prog w = .ok (some false) w := by kernel_rfl
theorem Try.m_locking_namedFields (a : Value) (w : World) : (Go.method 222 94 (.agg #[a]) "loop.example/handsignal/impl.namedFields").run Try.prog w = .ok (75, .agg #[a]) w := by kernel_rfl
theorem Try.n_locking_namedFields (a : Value) (w : World) : (Go.nilAhead 222 94 (.agg #[a]) "loop.example/handsignal/impl.namedFields").run Try.prog w = .ok (some false) w := by kernel_rfl
theorem Try.m_locking_fits (a : Value) (w : World) : (Go.method 222 94 (.agg #[a]) "loop.example/handsignal/impl.fits").run Try.prog w = .ok (74, .agg #[a]) w := by kernel_rfl
theorem Try.n_locking_fits (a : Value) (w : World) : (Go.nilAhead 222 94 (.agg #[a]) "loop.example/handsignal/impl.fits").run Try.prog w = .ok (some false) w := by kernel_rfl
theorem Try.m_unlocking_namedFields (a : Value) (w : World) : (Go.method 222 95 (.agg #[a]) "loop.example/handsignal/impl.namedFields").run Try.prog w = .ok (75, .agg #[a]) w := by kernel_rfl
theorem Try.n_unlocking_namedFields (a : Value) (w : World) : (Go.nilAhead 222 95 (.agg #[a]) "loop.example/handsignal/impl.namedFields").run Try.prog w = .ok (some false) w := by kernel_rfl
theorem Try.m_unlocking_fits (a : Value) (w : World) : (Go.method 222 95 (.agg #[a]) "loop.example/handsignal/impl.fits").run Try.prog w = .ok (74, .agg #[a]) w := by kernel_rfl
theorem Try.n_unlocking_fits (a : Value) (w : World) : (Go.nilAhead 222 95 (.agg #[a]) "loop.example/handsignal/impl.fits").run Try.prog w = .ok (some false) w := by kernel_rfl
theorem Try.m_coming_namedFields (a : Value) (w : World) : (Go.method 222 96 (.agg #[a]) "loop.example/handsignal/impl.namedFields").run Try.prog w = .ok (75, .agg #[a]) w := by kernel_rfl
theorem Try.n_coming_namedFields (a : Value) (w : World) : (Go.nilAhead 222 96 (.agg #[a]) "loop.example/handsignal/impl.namedFields").run Try.prog w = .ok (some false) w := by kernel_rfl
theorem Try.m_coming_fits (a : Value) (w : World) : (Go.method 222 96 (.agg #[a]) "loop.example/handsignal/impl.fits").run Try.prog w = .ok (74, .agg #[a]) w := by kernel_rfl
theorem Try.n_coming_fits (a : Value) (w : World) : (Go.nilAhead 222 96 (.agg #[a]) "loop.example/handsignal/impl.fits").run Try.prog w = .ok (some false) w := by kernel_rfl
theorem Try.m_leaving_namedFields (a : Value) (w : World) : (Go.method 222 97 (.agg #[a]) "loop.example/handsignal/impl.namedFields").run Try.prog w = .ok (75, .agg #[a]) w := by kernel_rfl
theorem Try.n_leaving_namedFields (a : Value) (w : World) : (Go.nilAhead 222 97 (.agg #[a]) "loop.example/handsignal/impl.namedFields").run Try.prog w = .ok (some false) w := by kernel_rfl
theorem Try.m_leaving_fits (a : Value) (w : World) : (Go.method 222 97 (.agg #[a]) "loop.example/handsignal/impl.fits").run Try.prog w = .ok (74, .agg #[a]) w := by kernel_rfl
theorem Try.n_leaving_fits (a : Value) (w : World) : (Go.nilAhead 222 97 (.agg #[a]) "loop.example/handsignal/impl.fits").run Try.prog w = .ok (some false) w := by kernel_rfl

end Go.Proofs.Ytfaamibpenmfeab
