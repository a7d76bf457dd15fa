/-
  Which method an event's row has: closed facts. Mine, by template (wip/gen.py).
-/
import Derived.Test.YtbgmgfnhmlpehabGreatDoorEv
namespace Go.Proofs.YtbgmgfnhmlpehabGreatDoor
open Go.RowKit

theorem Tryz.m_writing_namedFields (a b c d : Value) (w : World) : (Go.method 358 134 (.agg #[a, b, c, d]) "loop.example/handsignal/impl.namedFields").run Tryz.prog w = .ok (179, .agg #[a, b, c, d]) w := by kernel_rfl
theorem Tryz.n_writing_namedFields (a b c d : Value) (w : World) : (Go.nilAhead 358 134 (.agg #[a, b, c, d]) "loop.example/handsignal/impl.namedFields").run Tryz.prog w = .ok (some false) w := by kernel_rfl
theorem Tryz.m_writing_fits (a b c d : Value) (w : World) : (Go.method 358 134 (.agg #[a, b, c, d]) "loop.example/handsignal/impl.fits").run Tryz.prog w = .ok (178, .agg #[a, b, c, d]) w := by kernel_rfl
theorem Tryz.n_writing_fits (a b c d : Value) (w : World) : (Go.nilAhead 358 134 (.agg #[a, b, c, d]) "loop.example/handsignal/impl.fits").run Tryz.prog w = .ok (some false) w := by kernel_rfl
theorem Tryz.m_giving_namedFields (a : Value) (w : World) : (Go.method 358 139 (.agg #[a]) "loop.example/handsignal/impl.namedFields").run Tryz.prog w = .ok (181, .agg #[a]) w := by kernel_rfl
theorem Tryz.n_giving_namedFields (a : Value) (w : World) : (Go.nilAhead 358 139 (.agg #[a]) "loop.example/handsignal/impl.namedFields").run Tryz.prog w = .ok (some false) w := by kernel_rfl
theorem Tryz.m_giving_fits (a : Value) (w : World) : (Go.method 358 139 (.agg #[a]) "loop.example/handsignal/impl.fits").run Tryz.prog w = .ok (180, .agg #[a]) w := by kernel_rfl
theorem Tryz.n_giving_fits (a : Value) (w : World) : (Go.nilAhead 358 139 (.agg #[a]) "loop.example/handsignal/impl.fits").run Tryz.prog w = .ok (some false) w := by kernel_rfl
theorem Tryz.m_repeating_namedFields (a b c : Value) (w : World) : (Go.method 358 142 (.agg #[a, b, c]) "loop.example/handsignal/impl.namedFields").run Tryz.prog w = .ok (183, .agg #[a, b, c]) w := by kernel_rfl
theorem Tryz.n_repeating_namedFields (a b c : Value) (w : World) : (Go.nilAhead 358 142 (.agg #[a, b, c]) "loop.example/handsignal/impl.namedFields").run Tryz.prog w = .ok (some false) w := by kernel_rfl
theorem Tryz.m_repeating_fits (a b c : Value) (w : World) : (Go.method 358 142 (.agg #[a, b, c]) "loop.example/handsignal/impl.fits").run Tryz.prog w = .ok (182, .agg #[a, b, c]) w := by kernel_rfl
theorem Tryz.n_repeating_fits (a b c : Value) (w : World) : (Go.nilAhead 358 142 (.agg #[a, b, c]) "loop.example/handsignal/impl.fits").run Tryz.prog w = .ok (some false) w := by kernel_rfl
theorem Tryz.m_givingBack_namedFields (a b : Value) (w : World) : (Go.method 358 145 (.agg #[a, b]) "loop.example/handsignal/impl.namedFields").run Tryz.prog w = .ok (185, .agg #[a, b]) w := by kernel_rfl
theorem Tryz.n_givingBack_namedFields (a b : Value) (w : World) : (Go.nilAhead 358 145 (.agg #[a, b]) "loop.example/handsignal/impl.namedFields").run Tryz.prog w = .ok (some false) w := by kernel_rfl
theorem Tryz.m_givingBack_fits (a b : Value) (w : World) : (Go.method 358 145 (.agg #[a, b]) "loop.example/handsignal/impl.fits").run Tryz.prog w = .ok (184, .agg #[a, b]) w := by kernel_rfl
theorem Tryz.n_givingBack_fits (a b : Value) (w : World) : (Go.nilAhead 358 145 (.agg #[a, b]) "loop.example/handsignal/impl.fits").run Tryz.prog w = .ok (some false) w := by kernel_rfl
theorem Tryz.m_cancelling_namedFields (a : Value) (w : World) : (Go.method 358 147 (.agg #[a]) "loop.example/handsignal/impl.namedFields").run Tryz.prog w = .ok (181, .agg #[a]) w := by kernel_rfl
theorem Tryz.n_cancelling_namedFields (a : Value) (w : World) : (Go.nilAhead 358 147 (.agg #[a]) "loop.example/handsignal/impl.namedFields").run Tryz.prog w = .ok (some false) w := by kernel_rfl
theorem Tryz.m_cancelling_fits (a : Value) (w : World) : (Go.method 358 147 (.agg #[a]) "loop.example/handsignal/impl.fits").run Tryz.prog w = .ok (180, .agg #[a]) w := by kernel_rfl
theorem Tryz.n_cancelling_fits (a : Value) (w : World) : (Go.nilAhead 358 147 (.agg #[a]) "loop.example/handsignal/impl.fits").run Tryz.prog w = .ok (some false) w := by kernel_rfl
theorem Tryz.m_locking_namedFields (a : Value) (w : World) : (Go.method 358 152 (.agg #[a]) "loop.example/handsignal/impl.namedFields").run Tryz.prog w = .ok (187, .agg #[a]) w := by kernel_rfl
theorem Tryz.n_locking_namedFields (a : Value) (w : World) : (Go.nilAhead 358 152 (.agg #[a]) "loop.example/handsignal/impl.namedFields").run Tryz.prog w = .ok (some false) w := by kernel_rfl
theorem Tryz.m_locking_fits (a : Value) (w : World) : (Go.method 358 152 (.agg #[a]) "loop.example/handsignal/impl.fits").run Tryz.prog w = .ok (186, .agg #[a]) w := by kernel_rfl
theorem Tryz.n_locking_fits (a : Value) (w : World) : (Go.nilAhead 358 152 (.agg #[a]) "loop.example/handsignal/impl.fits").run Tryz.prog w = .ok (some false) w := by kernel_rfl
theorem Tryz.m_unlocking_namedFields (a : Value) (w : World) : (Go.method 358 153 (.agg #[a]) "loop.example/handsignal/impl.namedFields").run Tryz.prog w = .ok (187, .agg #[a]) w := by kernel_rfl
theorem Tryz.n_unlocking_namedFields (a : Value) (w : World) : (Go.nilAhead 358 153 (.agg #[a]) "loop.example/handsignal/impl.namedFields").run Tryz.prog w = .ok (some false) w := by kernel_rfl
theorem Tryz.m_unlocking_fits (a : Value) (w : World) : (Go.method 358 153 (.agg #[a]) "loop.example/handsignal/impl.fits").run Tryz.prog w = .ok (186, .agg #[a]) w := by kernel_rfl
theorem Tryz.n_unlocking_fits (a : Value) (w : World) : (Go.nilAhead 358 153 (.agg #[a]) "loop.example/handsignal/impl.fits").run Tryz.prog w = .ok (some false) w := by kernel_rfl
theorem Tryz.m_coming_namedFields (a : Value) (w : World) : (Go.method 358 154 (.agg #[a]) "loop.example/handsignal/impl.namedFields").run Tryz.prog w = .ok (187, .agg #[a]) w := by kernel_rfl
theorem Tryz.n_coming_namedFields (a : Value) (w : World) : (Go.nilAhead 358 154 (.agg #[a]) "loop.example/handsignal/impl.namedFields").run Tryz.prog w = .ok (some false) w := by kernel_rfl
theorem Tryz.m_coming_fits (a : Value) (w : World) : (Go.method 358 154 (.agg #[a]) "loop.example/handsignal/impl.fits").run Tryz.prog w = .ok (186, .agg #[a]) w := by kernel_rfl
theorem Tryz.n_coming_fits (a : Value) (w : World) : (Go.nilAhead 358 154 (.agg #[a]) "loop.example/handsignal/impl.fits").run Tryz.prog w = .ok (some false) w := by kernel_rfl
theorem Tryz.m_leaving_namedFields (a : Value) (w : World) : (Go.method 358 155 (.agg #[a]) "loop.example/handsignal/impl.namedFields").run Tryz.prog w = .ok (187, .agg #[a]) w := by kernel_rfl
theorem Tryz.n_leaving_namedFields (a : Value) (w : World) : (Go.nilAhead 358 155 (.agg #[a]) "loop.example/handsignal/impl.namedFields").run Tryz.prog w = .ok (some false) w := by kernel_rfl
theorem Tryz.m_leaving_fits (a : Value) (w : World) : (Go.method 358 155 (.agg #[a]) "loop.example/handsignal/impl.fits").run Tryz.prog w = .ok (186, .agg #[a]) w := by kernel_rfl
theorem Tryz.n_leaving_fits (a : Value) (w : World) : (Go.nilAhead 358 155 (.agg #[a]) "loop.example/handsignal/impl.fits").run Tryz.prog w = .ok (some false) w := by kernel_rfl

end Go.Proofs.YtbgmgfnhmlpehabGreatDoor
