/-
  Which method an event's row has: closed facts. Mine, by template (wip/gen.py).
-/
import Derived.Test.YtbgmgfnhmlpehabEv
namespace Go.Proofs.Ytbgmgfnhmlpehab
open Go.RowKit

theorem Try.m_writing_namedFields (a b c d : Value) (w : World) : (Go.method 207 71 (.agg #[a, b, c, d]) "loop.example/handsignal/impl.namedFields").run Try.prog w = .ok (61, .agg #[a, b, c, d]) w := by kernel_rfl
theorem Try.n_writing_namedFields (a b c d : Value) (w : World) : (Go.nilAhead 207 71 (.agg #[a, b, c, d]) "loop.example/handsignal/impl.namedFields").run Try.prog w = .ok (some false) w := by kernel_rfl
theorem Try.m_writing_fits (a b c d : Value) (w : World) : (Go.method 207 71 (.agg #[a, b, c, d]) "loop.example/handsignal/impl.fits").run Try.prog w = .ok (60, .agg #[a, b, c, d]) w := by kernel_rfl
theorem Try.n_writing_fits (a b c d : Value) (w : World) : (Go.nilAhead 207 71 (.agg #[a, b, c, d]) "loop.example/handsignal/impl.fits").run Try.prog w = .ok (some false) w := by kernel_rfl
theorem Try.m_giving_namedFields (a : Value) (w : World) : (Go.method 207 73 (.agg #[a]) "loop.example/handsignal/impl.namedFields").run Try.prog w = .ok (57, .agg #[a]) w := by kernel_rfl
theorem Try.n_giving_namedFields (a : Value) (w : World) : (Go.nilAhead 207 73 (.agg #[a]) "loop.example/handsignal/impl.namedFields").run Try.prog w = .ok (some false) w := by kernel_rfl
theorem Try.m_giving_fits (a : Value) (w : World) : (Go.method 207 73 (.agg #[a]) "loop.example/handsignal/impl.fits").run Try.prog w = .ok (56, .agg #[a]) w := by kernel_rfl
theorem Try.n_giving_fits (a : Value) (w : World) : (Go.nilAhead 207 73 (.agg #[a]) "loop.example/handsignal/impl.fits").run Try.prog w = .ok (some false) w := by kernel_rfl
theorem Try.m_repeating_namedFields (a b c : Value) (w : World) : (Go.method 207 75 (.agg #[a, b, c]) "loop.example/handsignal/impl.namedFields").run Try.prog w = .ok (63, .agg #[a, b, c]) w := by kernel_rfl
theorem Try.n_repeating_namedFields (a b c : Value) (w : World) : (Go.nilAhead 207 75 (.agg #[a, b, c]) "loop.example/handsignal/impl.namedFields").run Try.prog w = .ok (some false) w := by kernel_rfl
theorem Try.m_repeating_fits (a b c : Value) (w : World) : (Go.method 207 75 (.agg #[a, b, c]) "loop.example/handsignal/impl.fits").run Try.prog w = .ok (62, .agg #[a, b, c]) w := by kernel_rfl
theorem Try.n_repeating_fits (a b c : Value) (w : World) : (Go.nilAhead 207 75 (.agg #[a, b, c]) "loop.example/handsignal/impl.fits").run Try.prog w = .ok (some false) w := by kernel_rfl
theorem Try.m_givingBack_namedFields (a b : Value) (w : World) : (Go.method 207 77 (.agg #[a, b]) "loop.example/handsignal/impl.namedFields").run Try.prog w = .ok (65, .agg #[a, b]) w := by kernel_rfl
theorem Try.n_givingBack_namedFields (a b : Value) (w : World) : (Go.nilAhead 207 77 (.agg #[a, b]) "loop.example/handsignal/impl.namedFields").run Try.prog w = .ok (some false) w := by kernel_rfl
theorem Try.m_givingBack_fits (a b : Value) (w : World) : (Go.method 207 77 (.agg #[a, b]) "loop.example/handsignal/impl.fits").run Try.prog w = .ok (64, .agg #[a, b]) w := by kernel_rfl
theorem Try.n_givingBack_fits (a b : Value) (w : World) : (Go.nilAhead 207 77 (.agg #[a, b]) "loop.example/handsignal/impl.fits").run Try.prog w = .ok (some false) w := by kernel_rfl
theorem Try.m_cancelling_namedFields (a : Value) (w : World) : (Go.method 207 78 (.agg #[a]) "loop.example/handsignal/impl.namedFields").run Try.prog w = .ok (57, .agg #[a]) w := by kernel_rfl
theorem Try.n_cancelling_namedFields (a : Value) (w : World) : (Go.nilAhead 207 78 (.agg #[a]) "loop.example/handsignal/impl.namedFields").run Try.prog w = .ok (some false) w := by kernel_rfl
theorem Try.m_cancelling_fits (a : Value) (w : World) : (Go.method 207 78 (.agg #[a]) "loop.example/handsignal/impl.fits").run Try.prog w = .ok (56, .agg #[a]) w := by kernel_rfl
theorem Try.n_cancelling_fits (a : Value) (w : World) : (Go.nilAhead 207 78 (.agg #[a]) "loop.example/handsignal/impl.fits").run Try.prog w = .ok (some false) w := by kernel_rfl
theorem Try.m_locking_namedFields (a : Value) (w : World) : (Go.method 207 80 (.agg #[a]) "loop.example/handsignal/impl.namedFields").run Try.prog w = .ok (59, .agg #[a]) w := by kernel_rfl
theorem Try.n_locking_namedFields (a : Value) (w : World) : (Go.nilAhead 207 80 (.agg #[a]) "loop.example/handsignal/impl.namedFields").run Try.prog w = .ok (some false) w := by kernel_rfl
theorem Try.m_locking_fits (a : Value) (w : World) : (Go.method 207 80 (.agg #[a]) "loop.example/handsignal/impl.fits").run Try.prog w = .ok (58, .agg #[a]) w := by kernel_rfl
theorem Try.n_locking_fits (a : Value) (w : World) : (Go.nilAhead 207 80 (.agg #[a]) "loop.example/handsignal/impl.fits").run Try.prog w = .ok (some false) w := by kernel_rfl
theorem Try.m_unlocking_namedFields (a : Value) (w : World) : (Go.method 207 81 (.agg #[a]) "loop.example/handsignal/impl.namedFields").run Try.prog w = .ok (59, .agg #[a]) w := by kernel_rfl
theorem Try.n_unlocking_namedFields (a : Value) (w : World) : (Go.nilAhead 207 81 (.agg #[a]) "loop.example/handsignal/impl.namedFields").run Try.prog w = .ok (some false) w := by kernel_rfl
theorem Try.m_unlocking_fits (a : Value) (w : World) : (Go.method 207 81 (.agg #[a]) "loop.example/handsignal/impl.fits").run Try.prog w = .ok (58, .agg #[a]) w := by kernel_rfl
theorem Try.n_unlocking_fits (a : Value) (w : World) : (Go.nilAhead 207 81 (.agg #[a]) "loop.example/handsignal/impl.fits").run Try.prog w = .ok (some false) w := by kernel_rfl
theorem Try.m_coming_namedFields (a : Value) (w : World) : (Go.method 207 82 (.agg #[a]) "loop.example/handsignal/impl.namedFields").run Try.prog w = .ok (59, .agg #[a]) w := by kernel_rfl
theorem Try.n_coming_namedFields (a : Value) (w : World) : (Go.nilAhead 207 82 (.agg #[a]) "loop.example/handsignal/impl.namedFields").run Try.prog w = .ok (some false) w := by kernel_rfl
theorem Try.m_coming_fits (a : Value) (w : World) : (Go.method 207 82 (.agg #[a]) "loop.example/handsignal/impl.fits").run Try.prog w = .ok (58, .agg #[a]) w := by kernel_rfl
theorem Try.n_coming_fits (a : Value) (w : World) : (Go.nilAhead 207 82 (.agg #[a]) "loop.example/handsignal/impl.fits").run Try.prog w = .ok (some false) w := by kernel_rfl
theorem Try.m_leaving_namedFields (a : Value) (w : World) : (Go.method 207 83 (.agg #[a]) "loop.example/handsignal/impl.namedFields").run Try.prog w = .ok (59, .agg #[a]) w := by kernel_rfl
theorem Try.n_leaving_namedFields (a : Value) (w : World) : (Go.nilAhead 207 83 (.agg #[a]) "loop.example/handsignal/impl.namedFields").run Try.prog w = .ok (some false) w := by kernel_rfl
theorem Try.m_leaving_fits (a : Value) (w : World) : (Go.method 207 83 (.agg #[a]) "loop.example/handsignal/impl.fits").run Try.prog w = .ok (58, .agg #[a]) w := by kernel_rfl
theorem Try.n_leaving_fits (a : Value) (w : World) : (Go.nilAhead 207 83 (.agg #[a]) "loop.example/handsignal/impl.fits").run Try.prog w = .ok (some false) w := by kernel_rfl

end Go.Proofs.Ytbgmgfnhmlpehab
