/-
  Which method an event's row has: closed facts. Mine, by template (wip/gen.py).
-/
import Derived.Test.YtbcfmehcghkpiaaDoorEvZ
namespace Go.Proofs.YtbcfmehcghkpiaaDoor
open Go.RowKit

theorem Tryd.m_writing_namedFields (a b c d : Value) (w : World) : (Go.method 252 80 (.agg #[a, b, c, d]) "loop.example/handsignal/impl.namedFields").run Tryd.prog w = .ok (102, .agg #[a, b, c, d]) w := by kernel_rfl
theorem Tryd.n_writing_namedFields (a b c d : Value) (w : World) : (Go.nilAhead 252 80 (.agg #[a, b, c, d]) "loop.example/handsignal/impl.namedFields").run Tryd.prog w = .ok (some false) w := by kernel_rfl
theorem Tryd.m_writing_fits (a b c d : Value) (w : World) : (Go.method 252 80 (.agg #[a, b, c, d]) "loop.example/handsignal/impl.fits").run Tryd.prog w = .ok (101, .agg #[a, b, c, d]) w := by kernel_rfl
theorem Tryd.n_writing_fits (a b c d : Value) (w : World) : (Go.nilAhead 252 80 (.agg #[a, b, c, d]) "loop.example/handsignal/impl.fits").run Tryd.prog w = .ok (some false) w := by kernel_rfl
theorem Tryd.m_giving_namedFields (a : Value) (w : World) : (Go.method 252 82 (.agg #[a]) "loop.example/handsignal/impl.namedFields").run Tryd.prog w = .ok (98, .agg #[a]) w := by kernel_rfl
theorem Tryd.n_giving_namedFields (a : Value) (w : World) : (Go.nilAhead 252 82 (.agg #[a]) "loop.example/handsignal/impl.namedFields").run Tryd.prog w = .ok (some false) w := by kernel_rfl
theorem Tryd.m_giving_fits (a : Value) (w : World) : (Go.method 252 82 (.agg #[a]) "loop.example/handsignal/impl.fits").run Tryd.prog w = .ok (97, .agg #[a]) w := by kernel_rfl
theorem Tryd.n_giving_fits (a : Value) (w : World) : (Go.nilAhead 252 82 (.agg #[a]) "loop.example/handsignal/impl.fits").run Tryd.prog w = .ok (some false) w := by kernel_rfl
theorem Tryd.m_repeating_namedFields (a b c : Value) (w : World) : (Go.method 252 84 (.agg #[a, b, c]) "loop.example/handsignal/impl.namedFields").run Tryd.prog w = .ok (104, .agg #[a, b, c]) w := by kernel_rfl
theorem Tryd.n_repeating_namedFields (a b c : Value) (w : World) : (Go.nilAhead 252 84 (.agg #[a, b, c]) "loop.example/handsignal/impl.namedFields").run Tryd.prog w = .ok (some false) w := by kernel_rfl
theorem Tryd.m_repeating_fits (a b c : Value) (w : World) : (Go.method 252 84 (.agg #[a, b, c]) "loop.example/handsignal/impl.fits").run Tryd.prog w = .ok (103, .agg #[a, b, c]) w := by kernel_rfl
theorem Tryd.n_repeating_fits (a b c : Value) (w : World) : (Go.nilAhead 252 84 (.agg #[a, b, c]) "loop.example/handsignal/impl.fits").run Tryd.prog w = .ok (some false) w := by kernel_rfl
theorem Tryd.m_givingBack_namedFields (a b : Value) (w : World) : (Go.method 252 86 (.agg #[a, b]) "loop.example/handsignal/impl.namedFields").run Tryd.prog w = .ok (106, .agg #[a, b]) w := by kernel_rfl
theorem Tryd.n_givingBack_namedFields (a b : Value) (w : World) : (Go.nilAhead 252 86 (.agg #[a, b]) "loop.example/handsignal/impl.namedFields").run Tryd.prog w = .ok (some false) w := by kernel_rfl
theorem Tryd.m_givingBack_fits (a b : Value) (w : World) : (Go.method 252 86 (.agg #[a, b]) "loop.example/handsignal/impl.fits").run Tryd.prog w = .ok (105, .agg #[a, b]) w := by kernel_rfl
theorem Tryd.n_givingBack_fits (a b : Value) (w : World) : (Go.nilAhead 252 86 (.agg #[a, b]) "loop.example/handsignal/impl.fits").run Tryd.prog w = .ok (some false) w := by kernel_rfl
theorem Tryd.m_cancelling_namedFields (a : Value) (w : World) : (Go.method 252 87 (.agg #[a]) "loop.example/handsignal/impl.namedFields").run Tryd.prog w = .ok (98, .agg #[a]) w := by kernel_rfl
theorem Tryd.n_cancelling_namedFields (a : Value) (w : World) : (Go.nilAhead 252 87 (.agg #[a]) "loop.example/handsignal/impl.namedFields").run Tryd.prog w = .ok (some false) w := by kernel_rfl
theorem Tryd.m_cancelling_fits (a : Value) (w : World) : (Go.method 252 87 (.agg #[a]) "loop.example/handsignal/impl.fits").run Tryd.prog w = .ok (97, .agg #[a]) w := by kernel_rfl
theorem Tryd.n_cancelling_fits (a : Value) (w : World) : (Go.nilAhead 252 87 (.agg #[a]) "loop.example/handsignal/impl.fits").run Tryd.prog w = .ok (some false) w := by kernel_rfl
theorem Tryd.m_locking_namedFields (a : Value) (w : World) : (Go.method 252 89 (.agg #[a]) "loop.example/handsignal/impl.namedFields").run Tryd.prog w = .ok (100, .agg #[a]) w := by kernel_rfl
theorem Tryd.n_locking_namedFields (a : Value) (w : World) : (Go.nilAhead 252 89 (.agg #[a]) "loop.example/handsignal/impl.namedFields").run Tryd.prog w = .ok (some false) w := by kernel_rfl
theorem Tryd.m_locking_fits (a : Value) (w : World) : (Go.method 252 89 (.agg #[a]) "loop.example/handsignal/impl.fits").run Tryd.prog w = .ok (99, .agg #[a]) w := by kernel_rfl
theorem Tryd.n_locking_fits (a : Value) (w : World) : (Go.nilAhead 252 89 (.agg #[a]) "loop.example/handsignal/impl.fits").run Tryd.prog w = .ok (some false) w := by kernel_rfl
theorem Tryd.m_unlocking_namedFields (a : Value) (w : World) : (Go.method 252 90 (.agg #[a]) "loop.example/handsignal/impl.namedFields").run Tryd.prog w = .ok (100, .agg #[a]) w := by kernel_rfl
theorem Tryd.n_unlocking_namedFields (a : Value) (w : World) : (Go.nilAhead 252 90 (.agg #[a]) "loop.example/handsignal/impl.namedFields").run Tryd.prog w = .ok (some false) w := by kernel_rfl
theorem Tryd.m_unlocking_fits (a : Value) (w : World) : (Go.method 252 90 (.agg #[a]) "loop.example/handsignal/impl.fits").run Tryd.prog w = .ok (99, .agg #[a]) w := by kernel_rfl
theorem Tryd.n_unlocking_fits (a : Value) (w : World) : (Go.nilAhead 252 90 (.agg #[a]) "loop.example/handsignal/impl.fits").run Tryd.prog w = .ok (some false) w := by kernel_rfl
theorem Tryd.m_coming_namedFields (a : Value) (w : World) : (Go.method 252 91 (.agg #[a]) "loop.example/handsignal/impl.namedFields").run Tryd.prog w = .ok (100, .agg #[a]) w := by kernel_rfl
theorem Tryd.n_coming_namedFields (a : Value) (w : World) : (Go.nilAhead 252 91 (.agg #[a]) "loop.example/handsignal/impl.namedFields").run Tryd.prog w = .ok (some false) w := by kernel_rfl
theorem Tryd.m_coming_fits (a : Value) (w : World) : (Go.method 252 91 (.agg #[a]) "loop.example/handsignal/impl.fits").run Tryd.prog w = .ok (99, .agg #[a]) w := by kernel_rfl
theorem Tryd.n_coming_fits (a : Value) (w : World) : (Go.nilAhead 252 91 (.agg #[a]) "loop.example/handsignal/impl.fits").run Tryd.prog w = .ok (some false) w := by kernel_rfl
theorem Tryd.m_leaving_namedFields (a : Value) (w : World) : (Go.method 252 92 (.agg #[a]) "loop.example/handsignal/impl.namedFields").run Tryd.prog w = .ok (100, .agg #[a]) w := by kernel_rfl
theorem Tryd.n_leaving_namedFields (a : Value) (w : World) : (Go.nilAhead 252 92 (.agg #[a]) "loop.example/handsignal/impl.namedFields").run Tryd.prog w = .ok (some false) w := by kernel_rfl
theorem Tryd.m_leaving_fits (a : Value) (w : World) : (Go.method 252 92 (.agg #[a]) "loop.example/handsignal/impl.fits").run Tryd.prog w = .ok (99, .agg #[a]) w := by kernel_rfl
theorem Tryd.n_leaving_fits (a : Value) (w : World) : (Go.nilAhead 252 92 (.agg #[a]) "loop.example/handsignal/impl.fits").run Tryd.prog w = .ok (some false) w := by kernel_rfl

end Go.Proofs.YtbcfmehcghkpiaaDoor
