/-
Proved: for every move, impl.MoveOps answers as its model, and its answer owns its memory (FnExactMoveOps returns true). No condition.
-/
import Derived.Test.YtbbnheiibkcgiaaRows
import Derived.WalkKit
import Derived.ProofKit
import Derived.OpenShut
import Derived.ShutString
import Derived.ChangeOld
import Derived.Below
import Derived.Lib.SmallJoins
import Derived.Test.YtbbnheiibkcgiaaWMoveOps
import Derived.Test.YtbbnheiibkcgiaaMoveOpsL
namespace Go.Proofs.Ytbbnheiibkcgiaa.fnExactMoveOps
open Go.ChangeShapes Go.WideShapes Go.ChangeAt Go.RowKit
open Go.ChangeMaps (open_string shut_string)
set_option linter.unusedVariables false

set_option maxHeartbeats 4000000 in
theorem over : Rows.fnExactMoveOpsRow.holds Try.pinned (OpenSpec.ofChange Rows.fnExactMoveOpsSpec) :=
  OpenClaim.holds_of_wide 7 Try.f7 rfl rfl rfl rfl rfl rfl rfl ⟨rfl, rfl, rfl, rfl, rfl⟩ rfl rfl rfl rfl rfl (by as_aux_lemma => kernel_rfl) Try.func7 (by as_aux_lemma => kernel_rfl)
    (of_decide_eq_true (by as_aux_lemma => kernel_rfl)) (by unfold Func.isWrapper; first | (rw [if_pos (by decide +kernel)]; kernel_rfl) | (rw [if_neg (by decide +kernel)]; exact ⟨rfl, rfl⟩))
    (fun os started H enc _ => lifted os started H enc)

/-- The given statement. -/
theorem proved : Rows.FnExactMoveOpsSaid := over
end Go.Proofs.Ytbbnheiibkcgiaa.fnExactMoveOps
