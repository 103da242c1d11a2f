/-
Proved: for every machine and every number of a loop, impl.LoopState answers as its model and changes no argument (FnExactLoopState returns true). No condition.
-/
import Derived.Test.YtfechjhngcmdpaaRows
import Derived.WalkKit
import Derived.ProofKit
import Derived.OpenShut
import Derived.ShutString
import Derived.ChangeOld
import Derived.Below
import Derived.Lib.SmallJoins
import Derived.Test.YtfechjhngcmdpaaWLoopState
import Derived.Test.YtfechjhngcmdpaaLoopStateL
namespace Go.Proofs.Ytfechjhngcmdpaa.fnExactLoopState
open Go.ChangeShapes Go.WideShapes Go.ChangeAt Go.RowKit
open Go.ChangeMaps (open_string shut_string)
set_option linter.unusedVariables false

set_option maxHeartbeats 4000000 in
theorem over : Rows.fnExactLoopStateRow.holds Try.pinned (OpenSpec.ofChange Rows.fnExactLoopStateSpec) :=
  OpenClaim.holds_of_wide 6 Try.f6 rfl rfl rfl rfl rfl rfl rfl ⟨rfl, rfl, rfl, rfl, rfl⟩ rfl rfl rfl rfl rfl (by as_aux_lemma => kernel_rfl) Try.func6 (by as_aux_lemma => kernel_rfl)
    (of_decide_eq_true (by as_aux_lemma => kernel_rfl)) (by unfold Func.isWrapper; first | (rw [if_pos (by decide +kernel)]; kernel_rfl) | (rw [if_neg (by decide +kernel)]; exact ⟨rfl, rfl⟩))
    (fun os started H enc _ => lifted os started H enc)

/-- The given statement. -/
theorem proved : Rows.FnExactLoopStateSaid := over
end Go.Proofs.Ytfechjhngcmdpaa.fnExactLoopState
