/-
  Which method an event's row has: closed facts. Mine, by template (wip/gen.py).
-/
import Derived.Test.YtbgmgfnhmlpehaaDoorEv
namespace Go.Proofs.YtbgmgfnhmlpehaaDoor
open Go.RowKit

theorem Tryd.m_writing_namedFields (a b c d : Value) (w : World) : (Go.method 302 117 (.agg #[a, b, c, d]) "loop.example/handsignal/impl.namedFields").run Tryd.prog w = .ok (115, .agg #[a, b, c, d]) w := by kernel_rfl
theorem Tryd.n_writing_namedFields (a b c d : Value) (w : World) : (Go.nilAhead 302 117 (.agg #[a, b, c, d]) "loop.example/handsignal/impl.namedFields").run Tryd.prog w = .ok (some false) w := by kernel_rfl
theorem Tryd.m_writing_fits (a b c d : Value) (w : World) : (Go.method 302 117 (.agg #[a, b, c, d]) "loop.example/handsignal/impl.fits").run Tryd.prog w = .ok (114, .agg #[a, b, c, d]) w := by kernel_rfl
theorem Tryd.n_writing_fits (a b c d : Value) (w : World) : (Go.nilAhead 302 117 (.agg #[a, b, c, d]) "loop.example/handsignal/impl.fits").run Tryd.prog w = .ok (some false) w := by kernel_rfl
theorem Tryd.m_giving_namedFields (a : Value) (w : World) : (Go.method 302 122 (.agg #[a]) "loop.example/handsignal/impl.namedFields").run Tryd.prog w = .ok (117, .agg #[a]) w := by kernel_rfl
theorem Tryd.n_giving_namedFields (a : Value) (w : World) : (Go.nilAhead 302 122 (.agg #[a]) "loop.example/handsignal/impl.namedFields").run Tryd.prog w = .ok (some false) w := by kernel_rfl
theorem Tryd.m_giving_fits (a : Value) (w : World) : (Go.method 302 122 (.agg #[a]) "loop.example/handsignal/impl.fits").run Tryd.prog w = .ok (116, .agg #[a]) w := by kernel_rfl
theorem Tryd.n_giving_fits (a : Value) (w : World) : (Go.nilAhead 302 122 (.agg #[a]) "loop.example/handsignal/impl.fits").run Tryd.prog w = .ok (some false) w := by kernel_rfl
theorem Tryd.m_repeating_namedFields (a b c : Value) (w : World) : (Go.method 302 125 (.agg #[a, b, c]) "loop.example/handsignal/impl.namedFields").run Tryd.prog w = .ok (119, .agg #[a, b, c]) w := by kernel_rfl
theorem Tryd.n_repeating_namedFields (a b c : Value) (w : World) : (Go.nilAhead 302 125 (.agg #[a, b, c]) "loop.example/handsignal/impl.namedFields").run Tryd.prog w = .ok (some false) w := by kernel_rfl
theorem Tryd.m_repeating_fits (a b c : Value) (w : World) : (Go.method 302 125 (.agg #[a, b, c]) "loop.example/handsignal/impl.fits").run Tryd.prog w = .ok (118, .agg #[a, b, c]) w := by kernel_rfl
theorem Tryd.n_repeating_fits (a b c : Value) (w : World) : (Go.nilAhead 302 125 (.agg #[a, b, c]) "loop.example/handsignal/impl.fits").run Tryd.prog w = .ok (some false) w := by kernel_rfl
theorem Tryd.m_givingBack_namedFields (a b : Value) (w : World) : (Go.method 302 128 (.agg #[a, b]) "loop.example/handsignal/impl.namedFields").run Tryd.prog w = .ok (121, .agg #[a, b]) w := by kernel_rfl
theorem Tryd.n_givingBack_namedFields (a b : Value) (w : World) : (Go.nilAhead 302 128 (.agg #[a, b]) "loop.example/handsignal/impl.namedFields").run Tryd.prog w = .ok (some false) w := by kernel_rfl
theorem Tryd.m_givingBack_fits (a b : Value) (w : World) : (Go.method 302 128 (.agg #[a, b]) "loop.example/handsignal/impl.fits").run Tryd.prog w = .ok (120, .agg #[a, b]) w := by kernel_rfl
theorem Tryd.n_givingBack_fits (a b : Value) (w : World) : (Go.nilAhead 302 128 (.agg #[a, b]) "loop.example/handsignal/impl.fits").run Tryd.prog w = .ok (some false) w := by kernel_rfl
theorem Tryd.m_cancelling_namedFields (a : Value) (w : World) : (Go.method 302 130 (.agg #[a]) "loop.example/handsignal/impl.namedFields").run Tryd.prog w = .ok (117, .agg #[a]) w := by kernel_rfl
theorem Tryd.n_cancelling_namedFields (a : Value) (w : World) : (Go.nilAhead 302 130 (.agg #[a]) "loop.example/handsignal/impl.namedFields").run Tryd.prog w = .ok (some false) w := by kernel_rfl
theorem Tryd.m_cancelling_fits (a : Value) (w : World) : (Go.method 302 130 (.agg #[a]) "loop.example/handsignal/impl.fits").run Tryd.prog w = .ok (116, .agg #[a]) w := by kernel_rfl
theorem Tryd.n_cancelling_fits (a : Value) (w : World) : (Go.nilAhead 302 130 (.agg #[a]) "loop.example/handsignal/impl.fits").run Tryd.prog w = .ok (some false) w := by kernel_rfl
theorem Tryd.m_locking_namedFields (a : Value) (w : World) : (Go.method 302 135 (.agg #[a]) "loop.example/handsignal/impl.namedFields").run Tryd.prog w = .ok (123, .agg #[a]) w := by kernel_rfl
theorem Tryd.n_locking_namedFields (a : Value) (w : World) : (Go.nilAhead 302 135 (.agg #[a]) "loop.example/handsignal/impl.namedFields").run Tryd.prog w = .ok (some false) w := by kernel_rfl
theorem Tryd.m_locking_fits (a : Value) (w : World) : (Go.method 302 135 (.agg #[a]) "loop.example/handsignal/impl.fits").run Tryd.prog w = .ok (122, .agg #[a]) w := by kernel_rfl
theorem Tryd.n_locking_fits (a : Value) (w : World) : (Go.nilAhead 302 135 (.agg #[a]) "loop.example/handsignal/impl.fits").run Tryd.prog w = .ok (some false) w := by kernel_rfl
theorem Tryd.m_unlocking_namedFields (a : Value) (w : World) : (Go.method 302 136 (.agg #[a]) "loop.example/handsignal/impl.namedFields").run Tryd.prog w = .ok (123, .agg #[a]) w := by kernel_rfl
theorem Tryd.n_unlocking_namedFields (a : Value) (w : World) : (Go.nilAhead 302 136 (.agg #[a]) "loop.example/handsignal/impl.namedFields").run Tryd.prog w = .ok (some false) w := by kernel_rfl
theorem Tryd.m_unlocking_fits (a : Value) (w : World) : (Go.method 302 136 (.agg #[a]) "loop.example/handsignal/impl.fits").run Tryd.prog w = .ok (122, .agg #[a]) w := by kernel_rfl
theorem Tryd.n_unlocking_fits (a : Value) (w : World) : (Go.nilAhead 302 136 (.agg #[a]) "loop.example/handsignal/impl.fits").run Tryd.prog w = .ok (some false) w := by kernel_rfl
theorem Tryd.m_coming_namedFields (a : Value) (w : World) : (Go.method 302 137 (.agg #[a]) "loop.example/handsignal/impl.namedFields").run Tryd.prog w = .ok (123, .agg #[a]) w := by kernel_rfl
theorem Tryd.n_coming_namedFields (a : Value) (w : World) : (Go.nilAhead 302 137 (.agg #[a]) "loop.example/handsignal/impl.namedFields").run Tryd.prog w = .ok (some false) w := by kernel_rfl
theorem Tryd.m_coming_fits (a : Value) (w : World) : (Go.method 302 137 (.agg #[a]) "loop.example/handsignal/impl.fits").run Tryd.prog w = .ok (122, .agg #[a]) w := by kernel_rfl
theorem Tryd.n_coming_fits (a : Value) (w : World) : (Go.nilAhead 302 137 (.agg #[a]) "loop.example/handsignal/impl.fits").run Tryd.prog w = .ok (some false) w := by kernel_rfl
theorem Tryd.m_leaving_namedFields (a : Value) (w : World) : (Go.method 302 138 (.agg #[a]) "loop.example/handsignal/impl.namedFields").run Tryd.prog w = .ok (123, .agg #[a]) w := by kernel_rfl
theorem Tryd.n_leaving_namedFields (a : Value) (w : World) : (Go.nilAhead 302 138 (.agg #[a]) "loop.example/handsignal/impl.namedFields").run Tryd.prog w = .ok (some false) w := by kernel_rfl
theorem Tryd.m_leaving_fits (a : Value) (w : World) : (Go.method 302 138 (.agg #[a]) "loop.example/handsignal/impl.fits").run Tryd.prog w = .ok (122, .agg #[a]) w := by kernel_rfl
theorem Tryd.n_leaving_fits (a : Value) (w : World) : (Go.nilAhead 302 138 (.agg #[a]) "loop.example/handsignal/impl.fits").run Tryd.prog w = .ok (some false) w := by kernel_rfl

end Go.Proofs.YtbgmgfnhmlpehaaDoor
