/-
  No cell of these rows narrows 'for every input' (looked for: loops, veiled, ifaces, maps, wideKeys, modest, calm, conditions, laid).
  DERIVED. THE GIVEN ROWS OF THIS SEAT. 12 by the template 'for every input the law returns true; each argument reads behind the call as it read before'; 0 by the template 'total and deterministic' (their statements: YtkpilmcaeemfmaaTotals.lean).
  GIVEN WITH THE SEED: the statements are not yours to turn. If you find one false, say at which input.
  Laid BY PROGRAM, IN A SANDBOX (cutbox-rows.mjs): the forced cells as the released guide's own fill.sh prints them over the translation 37c5fbc3d74d67c8… (all of the seat's roots in one cut). By AI agents, Wed Nov 11 2026. No macro, syntax, notation, axiom, sorry.
-/
import Derived.Test.YtkpilmcaeemfmaaChecked
import GoSem.Claim
import GoSem.ClaimJoined
import GoSem.ClaimMapViews
import Derived.JoinedTies
import Derived.KernelRfl
namespace Go.Proofs.Ytkpilmcaeemfmaa
/- THE CELL 'sum', in the pinned program and in every row, IS THE sha256 OF THE DUMP (.gsa) THAT YtkpilmcaeemfmaaProg.lean LOADS. Nothing in Lean hashes anything: it is a label: what it is worth is what the hold of that sum in a sandbox is worth. -/
noncomputable def Try.pinned : Pinned := { name := "ytkpilmcaeemfmaa", sum := "37c5fbc3d74d67c85d6ec0b7857f7097c7a1002fe1bec7508ae9a0b05d3646ae", checked := Try.checked }
namespace Rows
def none {H : Type} : Left H := { results := [], args := [] }

/-- 'laws.FnExactValidPass': WHATEVER THE INPUT: true; the input reads as it did. -/
def fnExactValidPassSpec : ChangeSpec := { name := "fnExactValidPass", fn := fun _ => fun
  | [d] => { results := [.lit (.bool true)], args := [d] }
  | _ => none }
def fnExactValidPassRow : OpenClaim := { program := "ytkpilmcaeemfmaa", sum := "37c5fbc3d74d67c85d6ec0b7857f7097c7a1002fe1bec7508ae9a0b05d3646ae", func := "loop.example/g00856/laws.FnExactValidPass", spec := "fnExactValidPass", apart := false }
def FnExactValidPassSaid : Prop := fnExactValidPassRow.holds Try.pinned (OpenSpec.ofChange fnExactValidPassSpec)

/-- ITS FALSE NEIGHBOUR: 'it returns false'. Refute it at one input. -/
def fnExactValidPassWrong : ChangeSpec := { name := "fnExactValidPass", fn := fun _ => fun
  | [d] => { results := [.lit (.bool false)], args := [d] }
  | _ => none }
def FnExactValidPassWrongFalsely : Prop := fnExactValidPassRow.holds Try.pinned (OpenSpec.ofChange fnExactValidPassWrong)

/-- 'laws.FnExactApplyAction': WHATEVER THE INPUT: true; the input reads as it did. -/
def fnExactApplyActionSpec : ChangeSpec := { name := "fnExactApplyAction", fn := fun _ => fun
  | [d1, d2] => { results := [.lit (.bool true)], args := [d1, d2] }
  | _ => none }
def fnExactApplyActionRow : OpenClaim := { program := "ytkpilmcaeemfmaa", sum := "37c5fbc3d74d67c85d6ec0b7857f7097c7a1002fe1bec7508ae9a0b05d3646ae", func := "loop.example/g00856/laws.FnExactApplyAction", spec := "fnExactApplyAction", unfollowed := true, recurses := true, apart := false }
def FnExactApplyActionSaid : Prop := fnExactApplyActionRow.holds Try.pinned (OpenSpec.ofChange fnExactApplyActionSpec)

/-- ITS FALSE NEIGHBOUR: 'it returns false'. Refute it at one input. -/
def fnExactApplyActionWrong : ChangeSpec := { name := "fnExactApplyAction", fn := fun _ => fun
  | [d1, d2] => { results := [.lit (.bool false)], args := [d1, d2] }
  | _ => none }
def FnExactApplyActionWrongFalsely : Prop := fnExactApplyActionRow.holds Try.pinned (OpenSpec.ofChange fnExactApplyActionWrong)

/-- 'laws.FnExactIsAction': WHATEVER THE INPUT: true; the input reads as it did. -/
def fnExactIsActionSpec : ChangeSpec := { name := "fnExactIsAction", fn := fun _ => fun
  | [d] => { results := [.lit (.bool true)], args := [d] }
  | _ => none }
def fnExactIsActionRow : OpenClaim := { program := "ytkpilmcaeemfmaa", sum := "37c5fbc3d74d67c85d6ec0b7857f7097c7a1002fe1bec7508ae9a0b05d3646ae", func := "loop.example/g00856/laws.FnExactIsAction", spec := "fnExactIsAction", unfollowed := true, recurses := true, apart := false }
def FnExactIsActionSaid : Prop := fnExactIsActionRow.holds Try.pinned (OpenSpec.ofChange fnExactIsActionSpec)

/-- ITS FALSE NEIGHBOUR: 'it returns false'. Refute it at one input. -/
def fnExactIsActionWrong : ChangeSpec := { name := "fnExactIsAction", fn := fun _ => fun
  | [d] => { results := [.lit (.bool false)], args := [d] }
  | _ => none }
def FnExactIsActionWrongFalsely : Prop := fnExactIsActionRow.holds Try.pinned (OpenSpec.ofChange fnExactIsActionWrong)

/-- 'laws.FnExactBraidOfNormal': WHATEVER THE INPUT: true; the input reads as it did. -/
def fnExactBraidOfNormalSpec : ChangeSpec := { name := "fnExactBraidOfNormal", fn := fun _ => fun
  | [d] => { results := [.lit (.bool true)], args := [d] }
  | _ => none }
def fnExactBraidOfNormalRow : OpenClaim := { program := "ytkpilmcaeemfmaa", sum := "37c5fbc3d74d67c85d6ec0b7857f7097c7a1002fe1bec7508ae9a0b05d3646ae", func := "loop.example/g00856/laws.FnExactBraidOfNormal", spec := "fnExactBraidOfNormal", unfollowed := true, recurses := true, apart := false }
def FnExactBraidOfNormalSaid : Prop := fnExactBraidOfNormalRow.holds Try.pinned (OpenSpec.ofChange fnExactBraidOfNormalSpec)

/-- ITS FALSE NEIGHBOUR: 'it returns false'. Refute it at one input. -/
def fnExactBraidOfNormalWrong : ChangeSpec := { name := "fnExactBraidOfNormal", fn := fun _ => fun
  | [d] => { results := [.lit (.bool false)], args := [d] }
  | _ => none }
def FnExactBraidOfNormalWrongFalsely : Prop := fnExactBraidOfNormalRow.holds Try.pinned (OpenSpec.ofChange fnExactBraidOfNormalWrong)

/-- 'laws.FnExactNewMachine': WHATEVER THE INPUT: true; the input reads as it did. -/
def fnExactNewMachineSpec : ChangeSpec := { name := "fnExactNewMachine", fn := fun _ => fun
  | [d] => { results := [.lit (.bool true)], args := [d] }
  | _ => none }
def fnExactNewMachineRow : OpenClaim := { program := "ytkpilmcaeemfmaa", sum := "37c5fbc3d74d67c85d6ec0b7857f7097c7a1002fe1bec7508ae9a0b05d3646ae", func := "loop.example/g00856/laws.FnExactNewMachine", spec := "fnExactNewMachine", apart := false }
def FnExactNewMachineSaid : Prop := fnExactNewMachineRow.holds Try.pinned (OpenSpec.ofChange fnExactNewMachineSpec)

/-- ITS FALSE NEIGHBOUR: 'it returns false'. Refute it at one input. -/
def fnExactNewMachineWrong : ChangeSpec := { name := "fnExactNewMachine", fn := fun _ => fun
  | [d] => { results := [.lit (.bool false)], args := [d] }
  | _ => none }
def FnExactNewMachineWrongFalsely : Prop := fnExactNewMachineRow.holds Try.pinned (OpenSpec.ofChange fnExactNewMachineWrong)

/-- 'laws.FnExactValidOp': WHATEVER THE INPUT: true; the input reads as it did. -/
def fnExactValidOpSpec : ChangeSpec := { name := "fnExactValidOp", fn := fun _ => fun
  | [d] => { results := [.lit (.bool true)], args := [d] }
  | _ => none }
def fnExactValidOpRow : OpenClaim := { program := "ytkpilmcaeemfmaa", sum := "37c5fbc3d74d67c85d6ec0b7857f7097c7a1002fe1bec7508ae9a0b05d3646ae", func := "loop.example/g00856/laws.FnExactValidOp", spec := "fnExactValidOp", unfollowed := true, recurses := true, apart := false }
def FnExactValidOpSaid : Prop := fnExactValidOpRow.holds Try.pinned (OpenSpec.ofChange fnExactValidOpSpec)

/-- ITS FALSE NEIGHBOUR: 'it returns false'. Refute it at one input. -/
def fnExactValidOpWrong : ChangeSpec := { name := "fnExactValidOp", fn := fun _ => fun
  | [d] => { results := [.lit (.bool false)], args := [d] }
  | _ => none }
def FnExactValidOpWrongFalsely : Prop := fnExactValidOpRow.holds Try.pinned (OpenSpec.ofChange fnExactValidOpWrong)

/-- 'laws.FnExactSameMachine': WHATEVER THE INPUT: true; the input reads as it did. -/
def fnExactSameMachineSpec : ChangeSpec := { name := "fnExactSameMachine", fn := fun _ => fun
  | [d1, d2] => { results := [.lit (.bool true)], args := [d1, d2] }
  | _ => none }
def fnExactSameMachineRow : OpenClaim := { program := "ytkpilmcaeemfmaa", sum := "37c5fbc3d74d67c85d6ec0b7857f7097c7a1002fe1bec7508ae9a0b05d3646ae", func := "loop.example/g00856/laws.FnExactSameMachine", spec := "fnExactSameMachine", unfollowed := true, recurses := true, apart := false }
def FnExactSameMachineSaid : Prop := fnExactSameMachineRow.holds Try.pinned (OpenSpec.ofChange fnExactSameMachineSpec)

/-- ITS FALSE NEIGHBOUR: 'it returns false'. Refute it at one input. -/
def fnExactSameMachineWrong : ChangeSpec := { name := "fnExactSameMachine", fn := fun _ => fun
  | [d1, d2] => { results := [.lit (.bool false)], args := [d1, d2] }
  | _ => none }
def FnExactSameMachineWrongFalsely : Prop := fnExactSameMachineRow.holds Try.pinned (OpenSpec.ofChange fnExactSameMachineWrong)

/-- 'laws.FnExactValidMachine': WHATEVER THE INPUT: true; the input reads as it did. -/
def fnExactValidMachineSpec : ChangeSpec := { name := "fnExactValidMachine", fn := fun _ => fun
  | [d] => { results := [.lit (.bool true)], args := [d] }
  | _ => none }
def fnExactValidMachineRow : OpenClaim := { program := "ytkpilmcaeemfmaa", sum := "37c5fbc3d74d67c85d6ec0b7857f7097c7a1002fe1bec7508ae9a0b05d3646ae", func := "loop.example/g00856/laws.FnExactValidMachine", spec := "fnExactValidMachine", unfollowed := true, recurses := true, apart := false }
def FnExactValidMachineSaid : Prop := fnExactValidMachineRow.holds Try.pinned (OpenSpec.ofChange fnExactValidMachineSpec)

/-- ITS FALSE NEIGHBOUR: 'it returns false'. Refute it at one input. -/
def fnExactValidMachineWrong : ChangeSpec := { name := "fnExactValidMachine", fn := fun _ => fun
  | [d] => { results := [.lit (.bool false)], args := [d] }
  | _ => none }
def FnExactValidMachineWrongFalsely : Prop := fnExactValidMachineRow.holds Try.pinned (OpenSpec.ofChange fnExactValidMachineWrong)

/-- 'laws.FnExactPlaceOf': WHATEVER THE INPUT: true; the input reads as it did. -/
def fnExactPlaceOfSpec : ChangeSpec := { name := "fnExactPlaceOf", fn := fun _ => fun
  | [d1, d2] => { results := [.lit (.bool true)], args := [d1, d2] }
  | _ => none }
def fnExactPlaceOfRow : OpenClaim := { program := "ytkpilmcaeemfmaa", sum := "37c5fbc3d74d67c85d6ec0b7857f7097c7a1002fe1bec7508ae9a0b05d3646ae", func := "loop.example/g00856/laws.FnExactPlaceOf", spec := "fnExactPlaceOf", unfollowed := true, recurses := true, apart := false }
def FnExactPlaceOfSaid : Prop := fnExactPlaceOfRow.holds Try.pinned (OpenSpec.ofChange fnExactPlaceOfSpec)

/-- ITS FALSE NEIGHBOUR: 'it returns false'. Refute it at one input. -/
def fnExactPlaceOfWrong : ChangeSpec := { name := "fnExactPlaceOf", fn := fun _ => fun
  | [d1, d2] => { results := [.lit (.bool false)], args := [d1, d2] }
  | _ => none }
def FnExactPlaceOfWrongFalsely : Prop := fnExactPlaceOfRow.holds Try.pinned (OpenSpec.ofChange fnExactPlaceOfWrong)

/-- 'laws.FnExactLoopsOn': WHATEVER THE INPUT: true; the input reads as it did. -/
def fnExactLoopsOnSpec : ChangeSpec := { name := "fnExactLoopsOn", fn := fun _ => fun
  | [d1, d2] => { results := [.lit (.bool true)], args := [d1, d2] }
  | _ => none }
def fnExactLoopsOnRow : OpenClaim := { program := "ytkpilmcaeemfmaa", sum := "37c5fbc3d74d67c85d6ec0b7857f7097c7a1002fe1bec7508ae9a0b05d3646ae", func := "loop.example/g00856/laws.FnExactLoopsOn", spec := "fnExactLoopsOn", unfollowed := true, recurses := true, apart := false }
def FnExactLoopsOnSaid : Prop := fnExactLoopsOnRow.holds Try.pinned (OpenSpec.ofChange fnExactLoopsOnSpec)

/-- ITS FALSE NEIGHBOUR: 'it returns false'. Refute it at one input. -/
def fnExactLoopsOnWrong : ChangeSpec := { name := "fnExactLoopsOn", fn := fun _ => fun
  | [d1, d2] => { results := [.lit (.bool false)], args := [d1, d2] }
  | _ => none }
def FnExactLoopsOnWrongFalsely : Prop := fnExactLoopsOnRow.holds Try.pinned (OpenSpec.ofChange fnExactLoopsOnWrong)

/-- 'laws.FnExactKindCounts': WHATEVER THE INPUT: true; the input reads as it did. -/
def fnExactKindCountsSpec : ChangeSpec := { name := "fnExactKindCounts", fn := fun _ => fun
  | [d] => { results := [.lit (.bool true)], args := [d] }
  | _ => none }
def fnExactKindCountsRow : OpenClaim := { program := "ytkpilmcaeemfmaa", sum := "37c5fbc3d74d67c85d6ec0b7857f7097c7a1002fe1bec7508ae9a0b05d3646ae", func := "loop.example/g00856/laws.FnExactKindCounts", spec := "fnExactKindCounts", unfollowed := true, recurses := true, apart := false }
def FnExactKindCountsSaid : Prop := fnExactKindCountsRow.holds Try.pinned (OpenSpec.ofChange fnExactKindCountsSpec)

/-- ITS FALSE NEIGHBOUR: 'it returns false'. Refute it at one input. -/
def fnExactKindCountsWrong : ChangeSpec := { name := "fnExactKindCounts", fn := fun _ => fun
  | [d] => { results := [.lit (.bool false)], args := [d] }
  | _ => none }
def FnExactKindCountsWrongFalsely : Prop := fnExactKindCountsRow.holds Try.pinned (OpenSpec.ofChange fnExactKindCountsWrong)

/-- 'laws.FnExactLeastWidth': WHATEVER THE INPUT: true; the input reads as it did. -/
def fnExactLeastWidthSpec : ChangeSpec := { name := "fnExactLeastWidth", fn := fun _ => fun
  | [d] => { results := [.lit (.bool true)], args := [d] }
  | _ => none }
def fnExactLeastWidthRow : OpenClaim := { program := "ytkpilmcaeemfmaa", sum := "37c5fbc3d74d67c85d6ec0b7857f7097c7a1002fe1bec7508ae9a0b05d3646ae", func := "loop.example/g00856/laws.FnExactLeastWidth", spec := "fnExactLeastWidth", unfollowed := true, recurses := true, apart := false }
def FnExactLeastWidthSaid : Prop := fnExactLeastWidthRow.holds Try.pinned (OpenSpec.ofChange fnExactLeastWidthSpec)

/-- ITS FALSE NEIGHBOUR: 'it returns false'. Refute it at one input. -/
def fnExactLeastWidthWrong : ChangeSpec := { name := "fnExactLeastWidth", fn := fun _ => fun
  | [d] => { results := [.lit (.bool false)], args := [d] }
  | _ => none }
def FnExactLeastWidthWrongFalsely : Prop := fnExactLeastWidthRow.holds Try.pinned (OpenSpec.ofChange fnExactLeastWidthWrong)

/- THE SECOND FORM. 'bulk': how many values and letters a reading holds, each counted each time it is reached (what is shared counts as often as it is met; a slice's spare places count too). A statement '..UptoSaid' is the law's where the arguments, and the package variables that the reading takes, are together of bulk at most 1048576: NARROWER than '..Said'. Prove '..Said' where nothing that the law and all that it calls make is longer than what came in: it says more and counts as full. Else prove '..UptoSaid'. A law counts once. -/
mutual
def uptoBulk {H : Type} : DataW H → Nat
  | .lit (.string bytes) => bytes.length + 1
  | .lit _ => 1
  | .nil => 1
  | .ptr d => uptoBulk d + 1
  | .slice elems spare => uptoBulkAll elems + uptoBulkAll spare + 1
  | .agg parts => uptoBulkAll parts + 1
  | .iface _ d => uptoBulk d + 1
  | .map entries => uptoBulkEntries entries + 1
  | .held _ => 1
def uptoBulkAll {H : Type} : List (DataW H) → Nat
  | [] => 0
  | d :: r => uptoBulk d + uptoBulkAll r
def uptoBulkEntries {H : Type} : List (Lit × DataW H) → Nat
  | [] => 0
  | x :: r => uptoBulkEntry x + uptoBulkEntries r
def uptoBulkEntry {H : Type} : Lit × DataW H → Nat
  | (.string bytes, d) => bytes.length + uptoBulk d + 1
  | (_, d) => uptoBulk d + 1
 end
def uptoSmall : (H : Type) → List (DataW H) → Bool := fun _ ds => decide (uptoBulkAll ds ≤ 1048576)
def OpenSpec.upto (s : _root_.Go.ChangeSpec) : _root_.Go.OpenSpec := { _root_.Go.OpenSpec.ofChange s with cond := some uptoSmall }

/-- 'laws.FnExactValidPass', WHERE WHAT IT READS IS OF BULK AT MOST 1048576: true; the input reads as it did. -/
def fnExactValidPassUptoRow : OpenClaim := { program := "ytkpilmcaeemfmaa", sum := "37c5fbc3d74d67c85d6ec0b7857f7097c7a1002fe1bec7508ae9a0b05d3646ae", func := "loop.example/g00856/laws.FnExactValidPass", spec := "fnExactValidPass", apart := false, narrowed := true }
def FnExactValidPassUptoSaid : Prop := fnExactValidPassUptoRow.holds Try.pinned (OpenSpec.upto fnExactValidPassSpec)

/-- 'laws.FnExactApplyAction', WHERE WHAT IT READS IS OF BULK AT MOST 1048576: true; the input reads as it did. -/
def fnExactApplyActionUptoRow : OpenClaim := { program := "ytkpilmcaeemfmaa", sum := "37c5fbc3d74d67c85d6ec0b7857f7097c7a1002fe1bec7508ae9a0b05d3646ae", func := "loop.example/g00856/laws.FnExactApplyAction", spec := "fnExactApplyAction", unfollowed := true, recurses := true, apart := false, narrowed := true }
def FnExactApplyActionUptoSaid : Prop := fnExactApplyActionUptoRow.holds Try.pinned (OpenSpec.upto fnExactApplyActionSpec)

/-- 'laws.FnExactIsAction', WHERE WHAT IT READS IS OF BULK AT MOST 1048576: true; the input reads as it did. -/
def fnExactIsActionUptoRow : OpenClaim := { program := "ytkpilmcaeemfmaa", sum := "37c5fbc3d74d67c85d6ec0b7857f7097c7a1002fe1bec7508ae9a0b05d3646ae", func := "loop.example/g00856/laws.FnExactIsAction", spec := "fnExactIsAction", unfollowed := true, recurses := true, apart := false, narrowed := true }
def FnExactIsActionUptoSaid : Prop := fnExactIsActionUptoRow.holds Try.pinned (OpenSpec.upto fnExactIsActionSpec)

/-- 'laws.FnExactBraidOfNormal', WHERE WHAT IT READS IS OF BULK AT MOST 1048576: true; the input reads as it did. -/
def fnExactBraidOfNormalUptoRow : OpenClaim := { program := "ytkpilmcaeemfmaa", sum := "37c5fbc3d74d67c85d6ec0b7857f7097c7a1002fe1bec7508ae9a0b05d3646ae", func := "loop.example/g00856/laws.FnExactBraidOfNormal", spec := "fnExactBraidOfNormal", unfollowed := true, recurses := true, apart := false, narrowed := true }
def FnExactBraidOfNormalUptoSaid : Prop := fnExactBraidOfNormalUptoRow.holds Try.pinned (OpenSpec.upto fnExactBraidOfNormalSpec)

/-- 'laws.FnExactNewMachine', WHERE WHAT IT READS IS OF BULK AT MOST 1048576: true; the input reads as it did. -/
def fnExactNewMachineUptoRow : OpenClaim := { program := "ytkpilmcaeemfmaa", sum := "37c5fbc3d74d67c85d6ec0b7857f7097c7a1002fe1bec7508ae9a0b05d3646ae", func := "loop.example/g00856/laws.FnExactNewMachine", spec := "fnExactNewMachine", apart := false, narrowed := true }
def FnExactNewMachineUptoSaid : Prop := fnExactNewMachineUptoRow.holds Try.pinned (OpenSpec.upto fnExactNewMachineSpec)

/-- 'laws.FnExactValidOp', WHERE WHAT IT READS IS OF BULK AT MOST 1048576: true; the input reads as it did. -/
def fnExactValidOpUptoRow : OpenClaim := { program := "ytkpilmcaeemfmaa", sum := "37c5fbc3d74d67c85d6ec0b7857f7097c7a1002fe1bec7508ae9a0b05d3646ae", func := "loop.example/g00856/laws.FnExactValidOp", spec := "fnExactValidOp", unfollowed := true, recurses := true, apart := false, narrowed := true }
def FnExactValidOpUptoSaid : Prop := fnExactValidOpUptoRow.holds Try.pinned (OpenSpec.upto fnExactValidOpSpec)

/-- 'laws.FnExactSameMachine', WHERE WHAT IT READS IS OF BULK AT MOST 1048576: true; the input reads as it did. -/
def fnExactSameMachineUptoRow : OpenClaim := { program := "ytkpilmcaeemfmaa", sum := "37c5fbc3d74d67c85d6ec0b7857f7097c7a1002fe1bec7508ae9a0b05d3646ae", func := "loop.example/g00856/laws.FnExactSameMachine", spec := "fnExactSameMachine", unfollowed := true, recurses := true, apart := false, narrowed := true }
def FnExactSameMachineUptoSaid : Prop := fnExactSameMachineUptoRow.holds Try.pinned (OpenSpec.upto fnExactSameMachineSpec)

/-- 'laws.FnExactValidMachine', WHERE WHAT IT READS IS OF BULK AT MOST 1048576: true; the input reads as it did. -/
def fnExactValidMachineUptoRow : OpenClaim := { program := "ytkpilmcaeemfmaa", sum := "37c5fbc3d74d67c85d6ec0b7857f7097c7a1002fe1bec7508ae9a0b05d3646ae", func := "loop.example/g00856/laws.FnExactValidMachine", spec := "fnExactValidMachine", unfollowed := true, recurses := true, apart := false, narrowed := true }
def FnExactValidMachineUptoSaid : Prop := fnExactValidMachineUptoRow.holds Try.pinned (OpenSpec.upto fnExactValidMachineSpec)

/-- 'laws.FnExactPlaceOf', WHERE WHAT IT READS IS OF BULK AT MOST 1048576: true; the input reads as it did. -/
def fnExactPlaceOfUptoRow : OpenClaim := { program := "ytkpilmcaeemfmaa", sum := "37c5fbc3d74d67c85d6ec0b7857f7097c7a1002fe1bec7508ae9a0b05d3646ae", func := "loop.example/g00856/laws.FnExactPlaceOf", spec := "fnExactPlaceOf", unfollowed := true, recurses := true, apart := false, narrowed := true }
def FnExactPlaceOfUptoSaid : Prop := fnExactPlaceOfUptoRow.holds Try.pinned (OpenSpec.upto fnExactPlaceOfSpec)

/-- 'laws.FnExactLoopsOn', WHERE WHAT IT READS IS OF BULK AT MOST 1048576: true; the input reads as it did. -/
def fnExactLoopsOnUptoRow : OpenClaim := { program := "ytkpilmcaeemfmaa", sum := "37c5fbc3d74d67c85d6ec0b7857f7097c7a1002fe1bec7508ae9a0b05d3646ae", func := "loop.example/g00856/laws.FnExactLoopsOn", spec := "fnExactLoopsOn", unfollowed := true, recurses := true, apart := false, narrowed := true }
def FnExactLoopsOnUptoSaid : Prop := fnExactLoopsOnUptoRow.holds Try.pinned (OpenSpec.upto fnExactLoopsOnSpec)

/-- 'laws.FnExactKindCounts', WHERE WHAT IT READS IS OF BULK AT MOST 1048576: true; the input reads as it did. -/
def fnExactKindCountsUptoRow : OpenClaim := { program := "ytkpilmcaeemfmaa", sum := "37c5fbc3d74d67c85d6ec0b7857f7097c7a1002fe1bec7508ae9a0b05d3646ae", func := "loop.example/g00856/laws.FnExactKindCounts", spec := "fnExactKindCounts", unfollowed := true, recurses := true, apart := false, narrowed := true }
def FnExactKindCountsUptoSaid : Prop := fnExactKindCountsUptoRow.holds Try.pinned (OpenSpec.upto fnExactKindCountsSpec)

/-- 'laws.FnExactLeastWidth', WHERE WHAT IT READS IS OF BULK AT MOST 1048576: true; the input reads as it did. -/
def fnExactLeastWidthUptoRow : OpenClaim := { program := "ytkpilmcaeemfmaa", sum := "37c5fbc3d74d67c85d6ec0b7857f7097c7a1002fe1bec7508ae9a0b05d3646ae", func := "loop.example/g00856/laws.FnExactLeastWidth", spec := "fnExactLeastWidth", unfollowed := true, recurses := true, apart := false, narrowed := true }
def FnExactLeastWidthUptoSaid : Prop := fnExactLeastWidthUptoRow.holds Try.pinned (OpenSpec.upto fnExactLeastWidthSpec)

end Rows
end Go.Proofs.Ytkpilmcaeemfmaa
