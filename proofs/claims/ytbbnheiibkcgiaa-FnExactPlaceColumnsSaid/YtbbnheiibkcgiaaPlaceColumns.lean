/-
Proved: for every list and every number, impl.PlaceColumns answers as its model, changes no argument, and its answer owns its memory (FnExactPlaceColumns returns true). No condition.
-/
import Derived.Test.YtbbnheiibkcgiaaRows
import Derived.WalkKit
import Derived.ProofKit
import Derived.OpenShut
import Derived.ShutString
import Derived.ChangeOld
import Derived.Below
import Derived.Lib.SmallJoins
import Derived.Test.YtbbnheiibkcgiaaWPlaceColumns
import Derived.Test.YtbbnheiibkcgiaaPlaceColumnsL
namespace Go.Proofs.Ytbbnheiibkcgiaa.fnExactPlaceColumns
open Go.ChangeShapes Go.WideShapes Go.ChangeAt Go.RowKit
open Go.ChangeMaps (open_string shut_string)
set_option linter.unusedVariables false

set_option maxHeartbeats 4000000 in
theorem over : Rows.fnExactPlaceColumnsRow.holds Try.pinned (OpenSpec.ofChange Rows.fnExactPlaceColumnsSpec) :=
  OpenClaim.holds_of_wide 8 Try.f8 rfl rfl rfl rfl rfl rfl rfl ⟨rfl, rfl, rfl, rfl, rfl⟩ rfl rfl rfl rfl rfl (by as_aux_lemma => kernel_rfl) Try.func8 (by as_aux_lemma => kernel_rfl)
    (of_decide_eq_true (by as_aux_lemma => kernel_rfl)) (by unfold Func.isWrapper; first | (rw [if_pos (by decide +kernel)]; kernel_rfl) | (rw [if_neg (by decide +kernel)]; exact ⟨rfl, rfl⟩))
    (fun os started H enc _ => lifted os started H enc)

/-- The given statement. -/
theorem proved : Rows.FnExactPlaceColumnsSaid := over
end Go.Proofs.Ytbbnheiibkcgiaa.fnExactPlaceColumns
