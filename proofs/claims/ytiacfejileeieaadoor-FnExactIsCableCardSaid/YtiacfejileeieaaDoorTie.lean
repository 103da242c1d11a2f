/-
  DERIVED. GIVEN WITH THE SEED: THE PROGRAM's TIES (one call each: nine closed facts by the kernel) AND EACH ROW's TIE, after the 31st guide's Derived/Test/Toyas{Tie, Card}.lean. No idea stands in it: it is a product of the set-up. Laid BY PROGRAM, IN A SANDBOX (cutbox-door.mjs). By AI agents, Wed Nov 11 2026. No macro, syntax, notation, axiom, sorry.
-/
import Derived.Test.YtiacfejileeieaaDoorRows
import Derived.LaidByTextLater
import Derived.SevenTiedAt
import Derived.LaidSub
import Derived.LaidOnce
namespace Go.Proofs.YtiacfejileeieaaDoor
open Go
set_option maxRecDepth 100000
theorem seatTie1 : Tryd.prog.laidByTextLater [("loop.example/g00856/impl.stitches", Rows.laid_loop_example_g00856_impl_stitches), ("loop.example/g00856/impl.errNotChart", Rows.laid_loop_example_g00856_impl_errNotChart), ("loop.example/g00856/impl.errNotCable", Rows.laid_loop_example_g00856_impl_errNotCable)] [.wider, .sentinel, .sentinel] true :=
  Program.laidByTextLater_by_one 63 8 49 (by kernel_rfl) (by kernel_rfl) (by kernel_rfl) (by kernel_rfl) (by kernel_rfl) (by kernel_rfl) (fun _ _ => by kernel_rfl)
theorem noOwnUnsafe : Tryd.pinned.checked.prog.headLifts.contains "ownunsafe" = false := by kernel_rfl
theorem tie : Tryd.prog.laidByTextLater [("loop.example/g00856/impl.stitches", Rows.laid_loop_example_g00856_impl_stitches)] [.wider] true :=
  Program.laidByTextLater.sub seatTie1 ["loop.example/g00856/impl.stitches"] (by kernel_rfl) (by kernel_rfl)
theorem fnExactRowLetters_row_tie : Rows.fnExactRowLettersRow.laidByTextAt .later Tryd.pinned [.wider] true :=
  OpenClaim.laidByTextAt_later rfl rfl tie noOwnUnsafe
theorem fnExactRowBraid_row_tie : Rows.fnExactRowBraidRow.laidByTextAt .later Tryd.pinned [.wider] true :=
  OpenClaim.laidByTextAt_later rfl rfl tie noOwnUnsafe
theorem tie2 : Tryd.prog.laidByTextLater [("loop.example/g00856/impl.stitches", Rows.laid_loop_example_g00856_impl_stitches), ("loop.example/g00856/impl.errNotChart", Rows.laid_loop_example_g00856_impl_errNotChart), ("loop.example/g00856/impl.errNotCable", Rows.laid_loop_example_g00856_impl_errNotCable)] [.wider, .sentinel, .sentinel] true :=
  Program.laidByTextLater.sub seatTie1 ["loop.example/g00856/impl.stitches", "loop.example/g00856/impl.errNotChart", "loop.example/g00856/impl.errNotCable"] (by kernel_rfl) (by kernel_rfl)
theorem fnExactIsCable_row_tie : Rows.fnExactIsCableRow.laidByTextAt .later Tryd.pinned [.wider, .sentinel, .sentinel] true :=
  OpenClaim.laidByTextAt_later rfl rfl tie2 noOwnUnsafe
theorem fnExactRowLettersUpto_row_tie : Rows.fnExactRowLettersUptoRow.laidByTextAt .later Tryd.pinned [.wider] true :=
  OpenClaim.laidByTextAt_later rfl rfl tie noOwnUnsafe
theorem fnExactIsCableUpto_row_tie : Rows.fnExactIsCableUptoRow.laidByTextAt .later Tryd.pinned [.wider, .sentinel, .sentinel] true :=
  OpenClaim.laidByTextAt_later rfl rfl tie2 noOwnUnsafe
theorem fnExactRowBraidUpto_row_tie : Rows.fnExactRowBraidUptoRow.laidByTextAt .later Tryd.pinned [.wider] true :=
  OpenClaim.laidByTextAt_later rfl rfl tie noOwnUnsafe
end Go.Proofs.YtiacfejileeieaaDoor
