/-
  No cell of these rows narrows 'for every input' (looked for: loops, veiled, ifaces, maps, wideKeys, modest, calm, conditions, laid).
  DERIVED. THE GIVEN ROWS OF THIS SEAT. 7 by the template 'for every input the law returns true; each argument reads behind the call as it read before'; 0 by the template 'total and deterministic' (their statements: YtbbnheiibkcgiaaTotals.lean).
  GIVEN WITH THE SEED: the statements are not yours to turn. If you find one false, say at which input.
  Laid BY PROGRAM, IN A SANDBOX (cutbox-rows.mjs): the forced cells as the released guide's own fill.sh prints them over the translation a3c82ea8a7e6f664… (all of the seat's roots in one cut). By AI agents, Wed Nov 11 2026. No macro, syntax, notation, axiom, sorry.
-/
import Derived.Test.YtbbnheiibkcgiaaChecked
import GoSem.Claim
import GoSem.ClaimJoined
import GoSem.ClaimMapViews
import Derived.JoinedTies
import Derived.KernelRfl
namespace Go.Proofs.Ytbbnheiibkcgiaa
/- THE CELL 'sum', in the pinned program and in every row, IS THE sha256 OF THE DUMP (.gsa) THAT YtbbnheiibkcgiaaProg.lean LOADS. Nothing in Lean hashes anything: it is a label: what it is worth is what the hold of that sum in a sandbox is worth. -/
noncomputable def Try.pinned : Pinned := { name := "ytbbnheiibkcgiaa", sum := "a3c82ea8a7e6f66437d2df45556fe9905a240b802503b5a0926541ed0ac2181c", checked := Try.checked }
namespace Rows
def none {H : Type} : Left H := { results := [], args := [] }

/-- 'laws.FnExactNeedleOfColumn': WHATEVER THE INPUT: true; the input reads as it did. -/
def fnExactNeedleOfColumnSpec : ChangeSpec := { name := "fnExactNeedleOfColumn", fn := fun _ => fun
  | [d] => { results := [.lit (.bool true)], args := [d] }
  | _ => none }
def fnExactNeedleOfColumnRow : OpenClaim := { program := "ytbbnheiibkcgiaa", sum := "a3c82ea8a7e6f66437d2df45556fe9905a240b802503b5a0926541ed0ac2181c", func := "loop.example/g00856/laws.FnExactNeedleOfColumn", spec := "fnExactNeedleOfColumn", apart := false }
def FnExactNeedleOfColumnSaid : Prop := fnExactNeedleOfColumnRow.holds Try.pinned (OpenSpec.ofChange fnExactNeedleOfColumnSpec)

/-- ITS FALSE NEIGHBOUR: 'it returns false'. Refute it at one input. -/
def fnExactNeedleOfColumnWrong : ChangeSpec := { name := "fnExactNeedleOfColumn", fn := fun _ => fun
  | [d] => { results := [.lit (.bool false)], args := [d] }
  | _ => none }
def FnExactNeedleOfColumnWrongFalsely : Prop := fnExactNeedleOfColumnRow.holds Try.pinned (OpenSpec.ofChange fnExactNeedleOfColumnWrong)

/-- 'laws.FnExactColumnOfNeedle': WHATEVER THE INPUT: true; the input reads as it did. -/
def fnExactColumnOfNeedleSpec : ChangeSpec := { name := "fnExactColumnOfNeedle", fn := fun _ => fun
  | [d] => { results := [.lit (.bool true)], args := [d] }
  | _ => none }
def fnExactColumnOfNeedleRow : OpenClaim := { program := "ytbbnheiibkcgiaa", sum := "a3c82ea8a7e6f66437d2df45556fe9905a240b802503b5a0926541ed0ac2181c", func := "loop.example/g00856/laws.FnExactColumnOfNeedle", spec := "fnExactColumnOfNeedle", apart := false }
def FnExactColumnOfNeedleSaid : Prop := fnExactColumnOfNeedleRow.holds Try.pinned (OpenSpec.ofChange fnExactColumnOfNeedleSpec)

/-- ITS FALSE NEIGHBOUR: 'it returns false'. Refute it at one input. -/
def fnExactColumnOfNeedleWrong : ChangeSpec := { name := "fnExactColumnOfNeedle", fn := fun _ => fun
  | [d] => { results := [.lit (.bool false)], args := [d] }
  | _ => none }
def FnExactColumnOfNeedleWrongFalsely : Prop := fnExactColumnOfNeedleRow.holds Try.pinned (OpenSpec.ofChange fnExactColumnOfNeedleWrong)

/-- 'laws.FnExactValidPlaces': WHATEVER THE INPUT: true; the input reads as it did. -/
def fnExactValidPlacesSpec : ChangeSpec := { name := "fnExactValidPlaces", fn := fun _ => fun
  | [d] => { results := [.lit (.bool true)], args := [d] }
  | _ => none }
def fnExactValidPlacesRow : OpenClaim := { program := "ytbbnheiibkcgiaa", sum := "a3c82ea8a7e6f66437d2df45556fe9905a240b802503b5a0926541ed0ac2181c", func := "loop.example/g00856/laws.FnExactValidPlaces", spec := "fnExactValidPlaces", apart := false }
def FnExactValidPlacesSaid : Prop := fnExactValidPlacesRow.holds Try.pinned (OpenSpec.ofChange fnExactValidPlacesSpec)

/-- ITS FALSE NEIGHBOUR: 'it returns false'. Refute it at one input. -/
def fnExactValidPlacesWrong : ChangeSpec := { name := "fnExactValidPlaces", fn := fun _ => fun
  | [d] => { results := [.lit (.bool false)], args := [d] }
  | _ => none }
def FnExactValidPlacesWrongFalsely : Prop := fnExactValidPlacesRow.holds Try.pinned (OpenSpec.ofChange fnExactValidPlacesWrong)

/-- 'laws.FnExactApplyMove': WHATEVER THE INPUT: true; the input reads as it did. -/
def fnExactApplyMoveSpec : ChangeSpec := { name := "fnExactApplyMove", fn := fun _ => fun
  | [d1, d2] => { results := [.lit (.bool true)], args := [d1, d2] }
  | _ => none }
def fnExactApplyMoveRow : OpenClaim := { program := "ytbbnheiibkcgiaa", sum := "a3c82ea8a7e6f66437d2df45556fe9905a240b802503b5a0926541ed0ac2181c", func := "loop.example/g00856/laws.FnExactApplyMove", spec := "fnExactApplyMove", unfollowed := true, recurses := true, apart := false }
def FnExactApplyMoveSaid : Prop := fnExactApplyMoveRow.holds Try.pinned (OpenSpec.ofChange fnExactApplyMoveSpec)

/-- ITS FALSE NEIGHBOUR: 'it returns false'. Refute it at one input. -/
def fnExactApplyMoveWrong : ChangeSpec := { name := "fnExactApplyMove", fn := fun _ => fun
  | [d1, d2] => { results := [.lit (.bool false)], args := [d1, d2] }
  | _ => none }
def FnExactApplyMoveWrongFalsely : Prop := fnExactApplyMoveRow.holds Try.pinned (OpenSpec.ofChange fnExactApplyMoveWrong)

/-- 'laws.FnExactMoveOps': WHATEVER THE INPUT: true; the input reads as it did. -/
def fnExactMoveOpsSpec : ChangeSpec := { name := "fnExactMoveOps", fn := fun _ => fun
  | [d] => { results := [.lit (.bool true)], args := [d] }
  | _ => none }
def fnExactMoveOpsRow : OpenClaim := { program := "ytbbnheiibkcgiaa", sum := "a3c82ea8a7e6f66437d2df45556fe9905a240b802503b5a0926541ed0ac2181c", func := "loop.example/g00856/laws.FnExactMoveOps", spec := "fnExactMoveOps", apart := false }
def FnExactMoveOpsSaid : Prop := fnExactMoveOpsRow.holds Try.pinned (OpenSpec.ofChange fnExactMoveOpsSpec)

/-- ITS FALSE NEIGHBOUR: 'it returns false'. Refute it at one input. -/
def fnExactMoveOpsWrong : ChangeSpec := { name := "fnExactMoveOps", fn := fun _ => fun
  | [d] => { results := [.lit (.bool false)], args := [d] }
  | _ => none }
def FnExactMoveOpsWrongFalsely : Prop := fnExactMoveOpsRow.holds Try.pinned (OpenSpec.ofChange fnExactMoveOpsWrong)

/-- 'laws.FnExactPlaceColumns': WHATEVER THE INPUT: true; the input reads as it did. -/
def fnExactPlaceColumnsSpec : ChangeSpec := { name := "fnExactPlaceColumns", fn := fun _ => fun
  | [d1, d2] => { results := [.lit (.bool true)], args := [d1, d2] }
  | _ => none }
def fnExactPlaceColumnsRow : OpenClaim := { program := "ytbbnheiibkcgiaa", sum := "a3c82ea8a7e6f66437d2df45556fe9905a240b802503b5a0926541ed0ac2181c", func := "loop.example/g00856/laws.FnExactPlaceColumns", spec := "fnExactPlaceColumns", unfollowed := true, recurses := true, apart := false }
def FnExactPlaceColumnsSaid : Prop := fnExactPlaceColumnsRow.holds Try.pinned (OpenSpec.ofChange fnExactPlaceColumnsSpec)

/-- ITS FALSE NEIGHBOUR: 'it returns false'. Refute it at one input. -/
def fnExactPlaceColumnsWrong : ChangeSpec := { name := "fnExactPlaceColumns", fn := fun _ => fun
  | [d1, d2] => { results := [.lit (.bool false)], args := [d1, d2] }
  | _ => none }
def FnExactPlaceColumnsWrongFalsely : Prop := fnExactPlaceColumnsRow.holds Try.pinned (OpenSpec.ofChange fnExactPlaceColumnsWrong)

/-- 'laws.FnExactMoveLength': WHATEVER THE INPUT: true; the input reads as it did. -/
def fnExactMoveLengthSpec : ChangeSpec := { name := "fnExactMoveLength", fn := fun _ => fun
  | [d] => { results := [.lit (.bool true)], args := [d] }
  | _ => none }
def fnExactMoveLengthRow : OpenClaim := { program := "ytbbnheiibkcgiaa", sum := "a3c82ea8a7e6f66437d2df45556fe9905a240b802503b5a0926541ed0ac2181c", func := "loop.example/g00856/laws.FnExactMoveLength", spec := "fnExactMoveLength", unfollowed := true, recurses := true, apart := false }
def FnExactMoveLengthSaid : Prop := fnExactMoveLengthRow.holds Try.pinned (OpenSpec.ofChange fnExactMoveLengthSpec)

/-- ITS FALSE NEIGHBOUR: 'it returns false'. Refute it at one input. -/
def fnExactMoveLengthWrong : ChangeSpec := { name := "fnExactMoveLength", fn := fun _ => fun
  | [d] => { results := [.lit (.bool false)], args := [d] }
  | _ => none }
def FnExactMoveLengthWrongFalsely : Prop := fnExactMoveLengthRow.holds Try.pinned (OpenSpec.ofChange fnExactMoveLengthWrong)

/- THE SECOND FORM. 'bulk': how many values and letters a reading holds, each counted each time it is reached (what is shared counts as often as it is met; a slice's spare places count too). A statement '..UptoSaid' is the law's where the arguments, and the package variables that the reading takes, are together of bulk at most 1048576: NARROWER than '..Said'. Prove '..Said' where nothing that the law and all that it calls make is longer than what came in: it says more and counts as full. Else prove '..UptoSaid'. A law counts once. -/
mutual
def uptoBulk {H : Type} : DataW H → Nat
  | .lit (.string bytes) => bytes.length + 1
  | .lit _ => 1
  | .nil => 1
  | .ptr d => uptoBulk d + 1
  | .slice elems spare => uptoBulkAll elems + uptoBulkAll spare + 1
  | .agg parts => uptoBulkAll parts + 1
  | .iface _ d => uptoBulk d + 1
  | .map entries => uptoBulkEntries entries + 1
  | .held _ => 1
def uptoBulkAll {H : Type} : List (DataW H) → Nat
  | [] => 0
  | d :: r => uptoBulk d + uptoBulkAll r
def uptoBulkEntries {H : Type} : List (Lit × DataW H) → Nat
  | [] => 0
  | x :: r => uptoBulkEntry x + uptoBulkEntries r
def uptoBulkEntry {H : Type} : Lit × DataW H → Nat
  | (.string bytes, d) => bytes.length + uptoBulk d + 1
  | (_, d) => uptoBulk d + 1
 end
def uptoSmall : (H : Type) → List (DataW H) → Bool := fun _ ds => decide (uptoBulkAll ds ≤ 1048576)
def OpenSpec.upto (s : _root_.Go.ChangeSpec) : _root_.Go.OpenSpec := { _root_.Go.OpenSpec.ofChange s with cond := some uptoSmall }

/-- 'laws.FnExactNeedleOfColumn', WHERE WHAT IT READS IS OF BULK AT MOST 1048576: true; the input reads as it did. -/
def fnExactNeedleOfColumnUptoRow : OpenClaim := { program := "ytbbnheiibkcgiaa", sum := "a3c82ea8a7e6f66437d2df45556fe9905a240b802503b5a0926541ed0ac2181c", func := "loop.example/g00856/laws.FnExactNeedleOfColumn", spec := "fnExactNeedleOfColumn", apart := false, narrowed := true }
def FnExactNeedleOfColumnUptoSaid : Prop := fnExactNeedleOfColumnUptoRow.holds Try.pinned (OpenSpec.upto fnExactNeedleOfColumnSpec)

/-- 'laws.FnExactColumnOfNeedle', WHERE WHAT IT READS IS OF BULK AT MOST 1048576: true; the input reads as it did. -/
def fnExactColumnOfNeedleUptoRow : OpenClaim := { program := "ytbbnheiibkcgiaa", sum := "a3c82ea8a7e6f66437d2df45556fe9905a240b802503b5a0926541ed0ac2181c", func := "loop.example/g00856/laws.FnExactColumnOfNeedle", spec := "fnExactColumnOfNeedle", apart := false, narrowed := true }
def FnExactColumnOfNeedleUptoSaid : Prop := fnExactColumnOfNeedleUptoRow.holds Try.pinned (OpenSpec.upto fnExactColumnOfNeedleSpec)

/-- 'laws.FnExactValidPlaces', WHERE WHAT IT READS IS OF BULK AT MOST 1048576: true; the input reads as it did. -/
def fnExactValidPlacesUptoRow : OpenClaim := { program := "ytbbnheiibkcgiaa", sum := "a3c82ea8a7e6f66437d2df45556fe9905a240b802503b5a0926541ed0ac2181c", func := "loop.example/g00856/laws.FnExactValidPlaces", spec := "fnExactValidPlaces", apart := false, narrowed := true }
def FnExactValidPlacesUptoSaid : Prop := fnExactValidPlacesUptoRow.holds Try.pinned (OpenSpec.upto fnExactValidPlacesSpec)

/-- 'laws.FnExactApplyMove', WHERE WHAT IT READS IS OF BULK AT MOST 1048576: true; the input reads as it did. -/
def fnExactApplyMoveUptoRow : OpenClaim := { program := "ytbbnheiibkcgiaa", sum := "a3c82ea8a7e6f66437d2df45556fe9905a240b802503b5a0926541ed0ac2181c", func := "loop.example/g00856/laws.FnExactApplyMove", spec := "fnExactApplyMove", unfollowed := true, recurses := true, apart := false, narrowed := true }
def FnExactApplyMoveUptoSaid : Prop := fnExactApplyMoveUptoRow.holds Try.pinned (OpenSpec.upto fnExactApplyMoveSpec)

/-- 'laws.FnExactMoveOps', WHERE WHAT IT READS IS OF BULK AT MOST 1048576: true; the input reads as it did. -/
def fnExactMoveOpsUptoRow : OpenClaim := { program := "ytbbnheiibkcgiaa", sum := "a3c82ea8a7e6f66437d2df45556fe9905a240b802503b5a0926541ed0ac2181c", func := "loop.example/g00856/laws.FnExactMoveOps", spec := "fnExactMoveOps", apart := false, narrowed := true }
def FnExactMoveOpsUptoSaid : Prop := fnExactMoveOpsUptoRow.holds Try.pinned (OpenSpec.upto fnExactMoveOpsSpec)

/-- 'laws.FnExactPlaceColumns', WHERE WHAT IT READS IS OF BULK AT MOST 1048576: true; the input reads as it did. -/
def fnExactPlaceColumnsUptoRow : OpenClaim := { program := "ytbbnheiibkcgiaa", sum := "a3c82ea8a7e6f66437d2df45556fe9905a240b802503b5a0926541ed0ac2181c", func := "loop.example/g00856/laws.FnExactPlaceColumns", spec := "fnExactPlaceColumns", unfollowed := true, recurses := true, apart := false, narrowed := true }
def FnExactPlaceColumnsUptoSaid : Prop := fnExactPlaceColumnsUptoRow.holds Try.pinned (OpenSpec.upto fnExactPlaceColumnsSpec)

/-- 'laws.FnExactMoveLength', WHERE WHAT IT READS IS OF BULK AT MOST 1048576: true; the input reads as it did. -/
def fnExactMoveLengthUptoRow : OpenClaim := { program := "ytbbnheiibkcgiaa", sum := "a3c82ea8a7e6f66437d2df45556fe9905a240b802503b5a0926541ed0ac2181c", func := "loop.example/g00856/laws.FnExactMoveLength", spec := "fnExactMoveLength", unfollowed := true, recurses := true, apart := false, narrowed := true }
def FnExactMoveLengthUptoSaid : Prop := fnExactMoveLengthUptoRow.holds Try.pinned (OpenSpec.upto fnExactMoveLengthSpec)

end Rows
end Go.Proofs.Ytbbnheiibkcgiaa
