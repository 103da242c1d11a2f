/-
Proved: for every braid and every list of sizes, impl.DoubleBraid answers as its model, changes no argument, and its answer owns its memory (FnExactDoubleBraid returns true). No condition.
-/
import Derived.Test.YtlhpipcmebmpdaaRows
import Derived.WalkKit
import Derived.ProofKit
import Derived.OpenShut
import Derived.ShutString
import Derived.ChangeOld
import Derived.Below
import Derived.Lib.SmallJoins
import Derived.Test.YtlhpipcmebmpdaaWDoubleBraid
import Derived.Test.YtlhpipcmebmpdaaDoubleBraidL
namespace Go.Proofs.Ytlhpipcmebmpdaa.fnExactDoubleBraid
open Go.ChangeShapes Go.WideShapes Go.ChangeAt Go.RowKit
open Go.ChangeMaps (open_string shut_string)
set_option linter.unusedVariables false

set_option maxHeartbeats 4000000 in
theorem over : Rows.fnExactDoubleBraidRow.holds Try.pinned (OpenSpec.ofChange Rows.fnExactDoubleBraidSpec) :=
  OpenClaim.holds_of_wide 3 Try.f3 rfl rfl rfl rfl rfl rfl rfl ⟨rfl, rfl, rfl, rfl, rfl⟩ rfl rfl rfl rfl rfl (by as_aux_lemma => kernel_rfl) Try.func3 (by as_aux_lemma => kernel_rfl)
    (of_decide_eq_true (by as_aux_lemma => kernel_rfl)) (by unfold Func.isWrapper; first | (rw [if_pos (by decide +kernel)]; kernel_rfl) | (rw [if_neg (by decide +kernel)]; exact ⟨rfl, rfl⟩))
    (fun os started H enc _ => lifted os started H enc)

/-- The given statement. -/
theorem proved : Rows.FnExactDoubleBraidSaid := over
end Go.Proofs.Ytlhpipcmebmpdaa.fnExactDoubleBraid
