/-
  DERIVED. GIVEN WITH THE SEED: THE PROGRAM's TIES (one call each: nine closed facts by the kernel) AND EACH ROW's TIE, after the 31st guide's Derived/Test/Toyas{Tie, Card}.lean. No idea stands in it: it is a product of the set-up. Laid BY PROGRAM, IN A SANDBOX (cutbox-door.mjs). By AI agents, Wed Nov 11 2026. No macro, syntax, notation, axiom, sorry.
-/
import Derived.Test.YteifekoiognhmaaGreatDoorRows
import Derived.LaidByTextLater
import Derived.SevenTiedAt
import Derived.LaidSub
import Derived.LaidOnce
namespace Go.Proofs.YteifekoiognhmaaGreatDoor
open Go
set_option maxRecDepth 100000
theorem seatTie1 : Tryz.prog.laidByTextLater [("math/bits.deBruijn32tab", Rows.laid_math_bits_deBruijn32tab), ("math/bits.deBruijn64tab", Rows.laid_math_bits_deBruijn64tab), ("internal/strconv.uint64pow10", Rows.laid_internal_strconv_uint64pow10), ("loop.example/handsignal/impl.errNoEvent", Rows.laid_loop_example_handsignal_impl_errNoEvent), ("loop.example/handsignal/impl.errBookFull", Rows.laid_loop_example_handsignal_impl_errBookFull), ("loop.example/handsignal/impl.errState", Rows.laid_loop_example_handsignal_impl_errState), ("loop.example/handsignal/impl.errTaken", Rows.laid_loop_example_handsignal_impl_errTaken), ("loop.example/handsignal/impl.errNotHolder", Rows.laid_loop_example_handsignal_impl_errNotHolder), ("loop.example/handsignal/impl.errLocked", Rows.laid_loop_example_handsignal_impl_errLocked), ("loop.example/handsignal/impl.errMisheard", Rows.laid_loop_example_handsignal_impl_errMisheard), ("loop.example/handsignal/impl.errSomebody", Rows.laid_loop_example_handsignal_impl_errSomebody)] [.data, .data, .data, .sentinel, .sentinel, .sentinel, .sentinel, .sentinel, .sentinel, .sentinel, .sentinel] true :=
  Program.laidByTextLater_by_one 176 8 65 (by kernel_rfl) (by kernel_rfl) (by kernel_rfl) (by kernel_rfl) (by kernel_rfl) (by kernel_rfl) (fun _ _ => by kernel_rfl)
theorem noOwnUnsafe : Tryz.pinned.checked.prog.headLifts.contains "ownunsafe" = false := by kernel_rfl
theorem tie : Tryz.prog.laidByTextLater [("math/bits.deBruijn32tab", Rows.laid_math_bits_deBruijn32tab), ("math/bits.deBruijn64tab", Rows.laid_math_bits_deBruijn64tab), ("internal/strconv.uint64pow10", Rows.laid_internal_strconv_uint64pow10), ("loop.example/handsignal/impl.errNoEvent", Rows.laid_loop_example_handsignal_impl_errNoEvent), ("loop.example/handsignal/impl.errBookFull", Rows.laid_loop_example_handsignal_impl_errBookFull), ("loop.example/handsignal/impl.errState", Rows.laid_loop_example_handsignal_impl_errState), ("loop.example/handsignal/impl.errTaken", Rows.laid_loop_example_handsignal_impl_errTaken), ("loop.example/handsignal/impl.errNotHolder", Rows.laid_loop_example_handsignal_impl_errNotHolder), ("loop.example/handsignal/impl.errLocked", Rows.laid_loop_example_handsignal_impl_errLocked), ("loop.example/handsignal/impl.errMisheard", Rows.laid_loop_example_handsignal_impl_errMisheard), ("loop.example/handsignal/impl.errSomebody", Rows.laid_loop_example_handsignal_impl_errSomebody)] [.data, .data, .data, .sentinel, .sentinel, .sentinel, .sentinel, .sentinel, .sentinel, .sentinel, .sentinel] true :=
  Program.laidByTextLater.sub seatTie1 ["math/bits.deBruijn32tab", "math/bits.deBruijn64tab", "internal/strconv.uint64pow10", "loop.example/handsignal/impl.errNoEvent", "loop.example/handsignal/impl.errBookFull", "loop.example/handsignal/impl.errState", "loop.example/handsignal/impl.errTaken", "loop.example/handsignal/impl.errNotHolder", "loop.example/handsignal/impl.errLocked", "loop.example/handsignal/impl.errMisheard", "loop.example/handsignal/impl.errSomebody"] (by kernel_rfl) (by kernel_rfl)
theorem fnTop_row_tie : Rows.fnTopRow.laidByTextAt .later Tryz.pinned [.data, .data, .data, .sentinel, .sentinel, .sentinel, .sentinel, .sentinel, .sentinel, .sentinel, .sentinel] true :=
  OpenClaim.laidByTextAt_later rfl rfl tie noOwnUnsafe
theorem fnAlone_row_tie : Rows.fnAloneRow.laidByTextAt .later Tryz.pinned [.data, .data, .data, .sentinel, .sentinel, .sentinel, .sentinel, .sentinel, .sentinel, .sentinel, .sentinel] true :=
  OpenClaim.laidByTextAt_later rfl rfl tie noOwnUnsafe
theorem fnSpoilt_row_tie : Rows.fnSpoiltRow.laidByTextAt .later Tryz.pinned [.data, .data, .data, .sentinel, .sentinel, .sentinel, .sentinel, .sentinel, .sentinel, .sentinel, .sentinel] true :=
  OpenClaim.laidByTextAt_later rfl rfl tie noOwnUnsafe
theorem fnTopUpto_row_tie : Rows.fnTopUptoRow.laidByTextAt .later Tryz.pinned [.data, .data, .data, .sentinel, .sentinel, .sentinel, .sentinel, .sentinel, .sentinel, .sentinel, .sentinel] true :=
  OpenClaim.laidByTextAt_later rfl rfl tie noOwnUnsafe
theorem fnAloneUpto_row_tie : Rows.fnAloneUptoRow.laidByTextAt .later Tryz.pinned [.data, .data, .data, .sentinel, .sentinel, .sentinel, .sentinel, .sentinel, .sentinel, .sentinel, .sentinel] true :=
  OpenClaim.laidByTextAt_later rfl rfl tie noOwnUnsafe
theorem fnSpoiltUpto_row_tie : Rows.fnSpoiltUptoRow.laidByTextAt .later Tryz.pinned [.data, .data, .data, .sentinel, .sentinel, .sentinel, .sentinel, .sentinel, .sentinel, .sentinel, .sentinel] true :=
  OpenClaim.laidByTextAt_later rfl rfl tie noOwnUnsafe
end Go.Proofs.YteifekoiognhmaaGreatDoor
