/-
Proved: for every braid, impl.FirstHandle answers as its model and changes no argument (FnExactFirstHandle returns true). No condition.
-/
import Derived.Test.YtedajefapddekaaRows
import Derived.WalkKit
import Derived.ProofKit
import Derived.OpenShut
import Derived.ShutString
import Derived.ChangeOld
import Derived.Below
import Derived.Lib.SmallJoins
import Derived.Test.YtedajefapddekaaWFirstHandle
import Derived.Test.YtedajefapddekaaFirstHandleL
namespace Go.Proofs.Ytedajefapddekaa.fnExactFirstHandle
open Go.ChangeShapes Go.WideShapes Go.ChangeAt Go.RowKit
open Go.ChangeMaps (open_string shut_string)
set_option linter.unusedVariables false

set_option maxHeartbeats 4000000 in
theorem over : Rows.fnExactFirstHandleRow.holds Try.pinned (OpenSpec.ofChange Rows.fnExactFirstHandleSpec) :=
  OpenClaim.holds_of_wide 8 Try.f8 rfl rfl rfl rfl rfl rfl rfl ⟨rfl, rfl, rfl, rfl, rfl⟩ rfl rfl rfl rfl rfl (by as_aux_lemma => kernel_rfl) Try.func8 (by as_aux_lemma => kernel_rfl)
    (of_decide_eq_true (by as_aux_lemma => kernel_rfl)) (by unfold Func.isWrapper; first | (rw [if_pos (by decide +kernel)]; kernel_rfl) | (rw [if_neg (by decide +kernel)]; exact ⟨rfl, rfl⟩))
    (fun os started H enc _ => lifted os started H enc)

/-- The given statement. -/
theorem proved : Rows.FnExactFirstHandleSaid := over
end Go.Proofs.Ytedajefapddekaa.fnExactFirstHandle
