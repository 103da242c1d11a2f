/-
Proved: for every number of columns and every number of a carrier, impl.HandCastOn answers as its model, and its answer owns its memory (FnExactHandCastOn returns true). No condition.
-/
import Derived.Test.YtiacfejileeieaaRows
import Derived.WalkKit
import Derived.ProofKit
import Derived.OpenShut
import Derived.ShutString
import Derived.ChangeOld
import Derived.Below
import Derived.Lib.SmallJoins
import Derived.Test.YtiacfejileeieaaWHandCastOn
import Derived.Test.YtiacfejileeieaaHandCastOnL
namespace Go.Proofs.Ytiacfejileeieaa.fnExactHandCastOn
open Go.ChangeShapes Go.WideShapes Go.ChangeAt Go.RowKit
open Go.ChangeMaps (open_string shut_string)
set_option linter.unusedVariables false

set_option maxHeartbeats 4000000 in
theorem over : Rows.fnExactHandCastOnRow.holds Try.pinned (OpenSpec.ofChange Rows.fnExactHandCastOnSpec) :=
  OpenClaim.holds_of_wide 5 Try.f5 rfl rfl rfl rfl rfl rfl rfl ⟨rfl, rfl, rfl, rfl, rfl⟩ rfl rfl rfl rfl rfl (by as_aux_lemma => kernel_rfl) Try.func5 (by as_aux_lemma => kernel_rfl)
    (of_decide_eq_true (by as_aux_lemma => kernel_rfl)) (by unfold Func.isWrapper; first | (rw [if_pos (by decide +kernel)]; kernel_rfl) | (rw [if_neg (by decide +kernel)]; exact ⟨rfl, rfl⟩))
    (fun os started H enc _ => lifted os started H enc)

/-- The given statement. -/
theorem proved : Rows.FnExactHandCastOnSaid := over
end Go.Proofs.Ytiacfejileeieaa.fnExactHandCastOn
