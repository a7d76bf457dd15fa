/-
  Which method an event's row has: closed facts. Mine, by template (wip/gen.py).
-/
import Derived.Test.YtbgmgfnhmlpehabDoorEv
namespace Go.Proofs.YtbgmgfnhmlpehabDoor
open Go.RowKit

theorem Tryd.m_writing_namedFields (a b c d : Value) (w : World) : (Go.method 257 77 (.agg #[a, b, c, d]) "loop.example/handsignal/impl.namedFields").run Tryd.prog w = .ok (107, .agg #[a, b, c, d]) w := by kernel_rfl
theorem Tryd.n_writing_namedFields (a b c d : Value) (w : World) : (Go.nilAhead 257 77 (.agg #[a, b, c, d]) "loop.example/handsignal/impl.namedFields").run Tryd.prog w = .ok (some false) w := by kernel_rfl
theorem Tryd.m_writing_fits (a b c d : Value) (w : World) : (Go.method 257 77 (.agg #[a, b, c, d]) "loop.example/handsignal/impl.fits").run Tryd.prog w = .ok (106, .agg #[a, b, c, d]) w := by kernel_rfl
theorem Tryd.n_writing_fits (a b c d : Value) (w : World) : (Go.nilAhead 257 77 (.agg #[a, b, c, d]) "loop.example/handsignal/impl.fits").run Tryd.prog w = .ok (some false) w := by kernel_rfl
theorem Tryd.m_giving_namedFields (a : Value) (w : World) : (Go.method 257 79 (.agg #[a]) "loop.example/handsignal/impl.namedFields").run Tryd.prog w = .ok (103, .agg #[a]) w := by kernel_rfl
theorem Tryd.n_giving_namedFields (a : Value) (w : World) : (Go.nilAhead 257 79 (.agg #[a]) "loop.example/handsignal/impl.namedFields").run Tryd.prog w = .ok (some false) w := by kernel_rfl
theorem Tryd.m_giving_fits (a : Value) (w : World) : (Go.method 257 79 (.agg #[a]) "loop.example/handsignal/impl.fits").run Tryd.prog w = .ok (102, .agg #[a]) w := by kernel_rfl
theorem Tryd.n_giving_fits (a : Value) (w : World) : (Go.nilAhead 257 79 (.agg #[a]) "loop.example/handsignal/impl.fits").run Tryd.prog w = .ok (some false) w := by kernel_rfl
theorem Tryd.m_repeating_namedFields (a b c : Value) (w : World) : (Go.method 257 81 (.agg #[a, b, c]) "loop.example/handsignal/impl.namedFields").run Tryd.prog w = .ok (109, .agg #[a, b, c]) w := by kernel_rfl
theorem Tryd.n_repeating_namedFields (a b c : Value) (w : World) : (Go.nilAhead 257 81 (.agg #[a, b, c]) "loop.example/handsignal/impl.namedFields").run Tryd.prog w = .ok (some false) w := by kernel_rfl
theorem Tryd.m_repeating_fits (a b c : Value) (w : World) : (Go.method 257 81 (.agg #[a, b, c]) "loop.example/handsignal/impl.fits").run Tryd.prog w = .ok (108, .agg #[a, b, c]) w := by kernel_rfl
theorem Tryd.n_repeating_fits (a b c : Value) (w : World) : (Go.nilAhead 257 81 (.agg #[a, b, c]) "loop.example/handsignal/impl.fits").run Tryd.prog w = .ok (some false) w := by kernel_rfl
theorem Tryd.m_givingBack_namedFields (a b : Value) (w : World) : (Go.method 257 83 (.agg #[a, b]) "loop.example/handsignal/impl.namedFields").run Tryd.prog w = .ok (111, .agg #[a, b]) w := by kernel_rfl
theorem Tryd.n_givingBack_namedFields (a b : Value) (w : World) : (Go.nilAhead 257 83 (.agg #[a, b]) "loop.example/handsignal/impl.namedFields").run Tryd.prog w = .ok (some false) w := by kernel_rfl
theorem Tryd.m_givingBack_fits (a b : Value) (w : World) : (Go.method 257 83 (.agg #[a, b]) "loop.example/handsignal/impl.fits").run Tryd.prog w = .ok (110, .agg #[a, b]) w := by kernel_rfl
theorem Tryd.n_givingBack_fits (a b : Value) (w : World) : (Go.nilAhead 257 83 (.agg #[a, b]) "loop.example/handsignal/impl.fits").run Tryd.prog w = .ok (some false) w := by kernel_rfl
theorem Tryd.m_cancelling_namedFields (a : Value) (w : World) : (Go.method 257 84 (.agg #[a]) "loop.example/handsignal/impl.namedFields").run Tryd.prog w = .ok (103, .agg #[a]) w := by kernel_rfl
theorem Tryd.n_cancelling_namedFields (a : Value) (w : World) : (Go.nilAhead 257 84 (.agg #[a]) "loop.example/handsignal/impl.namedFields").run Tryd.prog w = .ok (some false) w := by kernel_rfl
theorem Tryd.m_cancelling_fits (a : Value) (w : World) : (Go.method 257 84 (.agg #[a]) "loop.example/handsignal/impl.fits").run Tryd.prog w = .ok (102, .agg #[a]) w := by kernel_rfl
theorem Tryd.n_cancelling_fits (a : Value) (w : World) : (Go.nilAhead 257 84 (.agg #[a]) "loop.example/handsignal/impl.fits").run Tryd.prog w = .ok (some false) w := by kernel_rfl
theorem Tryd.m_locking_namedFields (a : Value) (w : World) : (Go.method 257 86 (.agg #[a]) "loop.example/handsignal/impl.namedFields").run Tryd.prog w = .ok (105, .agg #[a]) w := by kernel_rfl
theorem Tryd.n_locking_namedFields (a : Value) (w : World) : (Go.nilAhead 257 86 (.agg #[a]) "loop.example/handsignal/impl.namedFields").run Tryd.prog w = .ok (some false) w := by kernel_rfl
theorem Tryd.m_locking_fits (a : Value) (w : World) : (Go.method 257 86 (.agg #[a]) "loop.example/handsignal/impl.fits").run Tryd.prog w = .ok (104, .agg #[a]) w := by kernel_rfl
theorem Tryd.n_locking_fits (a : Value) (w : World) : (Go.nilAhead 257 86 (.agg #[a]) "loop.example/handsignal/impl.fits").run Tryd.prog w = .ok (some false) w := by kernel_rfl
theorem Tryd.m_unlocking_namedFields (a : Value) (w : World) : (Go.method 257 87 (.agg #[a]) "loop.example/handsignal/impl.namedFields").run Tryd.prog w = .ok (105, .agg #[a]) w := by kernel_rfl
theorem Tryd.n_unlocking_namedFields (a : Value) (w : World) : (Go.nilAhead 257 87 (.agg #[a]) "loop.example/handsignal/impl.namedFields").run Tryd.prog w = .ok (some false) w := by kernel_rfl
theorem Tryd.m_unlocking_fits (a : Value) (w : World) : (Go.method 257 87 (.agg #[a]) "loop.example/handsignal/impl.fits").run Tryd.prog w = .ok (104, .agg #[a]) w := by kernel_rfl
theorem Tryd.n_unlocking_fits (a : Value) (w : World) : (Go.nilAhead 257 87 (.agg #[a]) "loop.example/handsignal/impl.fits").run Tryd.prog w = .ok (some false) w := by kernel_rfl
theorem Tryd.m_coming_namedFields (a : Value) (w : World) : (Go.method 257 88 (.agg #[a]) "loop.example/handsignal/impl.namedFields").run Tryd.prog w = .ok (105, .agg #[a]) w := by kernel_rfl
theorem Tryd.n_coming_namedFields (a : Value) (w : World) : (Go.nilAhead 257 88 (.agg #[a]) "loop.example/handsignal/impl.namedFields").run Tryd.prog w = .ok (some false) w := by kernel_rfl
theorem Tryd.m_coming_fits (a : Value) (w : World) : (Go.method 257 88 (.agg #[a]) "loop.example/handsignal/impl.fits").run Tryd.prog w = .ok (104, .agg #[a]) w := by kernel_rfl
theorem Tryd.n_coming_fits (a : Value) (w : World) : (Go.nilAhead 257 88 (.agg #[a]) "loop.example/handsignal/impl.fits").run Tryd.prog w = .ok (some false) w := by kernel_rfl
theorem Tryd.m_leaving_namedFields (a : Value) (w : World) : (Go.method 257 89 (.agg #[a]) "loop.example/handsignal/impl.namedFields").run Tryd.prog w = .ok (105, .agg #[a]) w := by kernel_rfl
theorem Tryd.n_leaving_namedFields (a : Value) (w : World) : (Go.nilAhead 257 89 (.agg #[a]) "loop.example/handsignal/impl.namedFields").run Tryd.prog w = .ok (some false) w := by kernel_rfl
theorem Tryd.m_leaving_fits (a : Value) (w : World) : (Go.method 257 89 (.agg #[a]) "loop.example/handsignal/impl.fits").run Tryd.prog w = .ok (104, .agg #[a]) w := by kernel_rfl
theorem Tryd.n_leaving_fits (a : Value) (w : World) : (Go.nilAhead 257 89 (.agg #[a]) "loop.example/handsignal/impl.fits").run Tryd.prog w = .ok (some false) w := by kernel_rfl

end Go.Proofs.YtbgmgfnhmlpehabDoor
