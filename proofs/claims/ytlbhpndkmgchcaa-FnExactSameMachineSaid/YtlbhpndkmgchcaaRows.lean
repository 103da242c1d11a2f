/-
  No cell of these rows narrows 'for every input' (looked for: loops, veiled, ifaces, maps, wideKeys, modest, calm, conditions, laid).
  DERIVED. THE GIVEN ROWS OF THIS SEAT. 10 by the template 'for every input the law returns true; each argument reads behind the call as it read before'; 0 by the template 'total and deterministic' (their statements: YtlbhpndkmgchcaaTotals.lean).
  GIVEN WITH THE SEED: the statements are not yours to turn. If you find one false, say at which input.
  Laid BY PROGRAM, IN A SANDBOX (cutbox-rows.mjs): the forced cells as the released guide's own fill.sh prints them over the translation 57565e851cc7ac5b… (all of the seat's roots in one cut). By AI agents, Wed Nov 11 2026. No macro, syntax, notation, axiom, sorry.
-/
import Derived.Test.YtlbhpndkmgchcaaChecked
import GoSem.Claim
import GoSem.ClaimJoined
import GoSem.ClaimMapViews
import Derived.JoinedTies
import Derived.KernelRfl
namespace Go.Proofs.Ytlbhpndkmgchcaa
/- THE CELL 'sum', in the pinned program and in every row, IS THE sha256 OF THE DUMP (.gsa) THAT YtlbhpndkmgchcaaProg.lean LOADS. Nothing in Lean hashes anything: it is a label: what it is worth is what the hold of that sum in a sandbox is worth. -/
noncomputable def Try.pinned : Pinned := { name := "ytlbhpndkmgchcaa", sum := "57565e851cc7ac5b6e5bbe7089a465db96e2112dbe50a5726114258008bae5ac", checked := Try.checked }
namespace Rows
def none {H : Type} : Left H := { results := [], args := [] }

/-- 'laws.FnExactBraidEvents': WHATEVER THE INPUT: true; the input reads as it did. -/
def fnExactBraidEventsSpec : ChangeSpec := { name := "fnExactBraidEvents", fn := fun _ => fun
  | [d] => { results := [.lit (.bool true)], args := [d] }
  | _ => none }
def fnExactBraidEventsRow : OpenClaim := { program := "ytlbhpndkmgchcaa", sum := "57565e851cc7ac5b6e5bbe7089a465db96e2112dbe50a5726114258008bae5ac", func := "loop.example/g00856/laws.FnExactBraidEvents", spec := "fnExactBraidEvents", unfollowed := true, recurses := true, apart := false }
def FnExactBraidEventsSaid : Prop := fnExactBraidEventsRow.holds Try.pinned (OpenSpec.ofChange fnExactBraidEventsSpec)

/-- ITS FALSE NEIGHBOUR: 'it returns false'. Refute it at one input. -/
def fnExactBraidEventsWrong : ChangeSpec := { name := "fnExactBraidEvents", fn := fun _ => fun
  | [d] => { results := [.lit (.bool false)], args := [d] }
  | _ => none }
def FnExactBraidEventsWrongFalsely : Prop := fnExactBraidEventsRow.holds Try.pinned (OpenSpec.ofChange fnExactBraidEventsWrong)

/-- 'laws.FnExactSameEvents': WHATEVER THE INPUT: true; the input reads as it did. -/
def fnExactSameEventsSpec : ChangeSpec := { name := "fnExactSameEvents", fn := fun _ => fun
  | [d1, d2] => { results := [.lit (.bool true)], args := [d1, d2] }
  | _ => none }
def fnExactSameEventsRow : OpenClaim := { program := "ytlbhpndkmgchcaa", sum := "57565e851cc7ac5b6e5bbe7089a465db96e2112dbe50a5726114258008bae5ac", func := "loop.example/g00856/laws.FnExactSameEvents", spec := "fnExactSameEvents", apart := false }
def FnExactSameEventsSaid : Prop := fnExactSameEventsRow.holds Try.pinned (OpenSpec.ofChange fnExactSameEventsSpec)

/-- ITS FALSE NEIGHBOUR: 'it returns false'. Refute it at one input. -/
def fnExactSameEventsWrong : ChangeSpec := { name := "fnExactSameEvents", fn := fun _ => fun
  | [d1, d2] => { results := [.lit (.bool false)], args := [d1, d2] }
  | _ => none }
def FnExactSameEventsWrongFalsely : Prop := fnExactSameEventsRow.holds Try.pinned (OpenSpec.ofChange fnExactSameEventsWrong)

/-- 'laws.FnExactStrandsOf': WHATEVER THE INPUT: true; the input reads as it did. -/
def fnExactStrandsOfSpec : ChangeSpec := { name := "fnExactStrandsOf", fn := fun _ => fun
  | [d] => { results := [.lit (.bool true)], args := [d] }
  | _ => none }
def fnExactStrandsOfRow : OpenClaim := { program := "ytlbhpndkmgchcaa", sum := "57565e851cc7ac5b6e5bbe7089a465db96e2112dbe50a5726114258008bae5ac", func := "loop.example/g00856/laws.FnExactStrandsOf", spec := "fnExactStrandsOf", apart := false }
def FnExactStrandsOfSaid : Prop := fnExactStrandsOfRow.holds Try.pinned (OpenSpec.ofChange fnExactStrandsOfSpec)

/-- ITS FALSE NEIGHBOUR: 'it returns false'. Refute it at one input. -/
def fnExactStrandsOfWrong : ChangeSpec := { name := "fnExactStrandsOf", fn := fun _ => fun
  | [d] => { results := [.lit (.bool false)], args := [d] }
  | _ => none }
def FnExactStrandsOfWrongFalsely : Prop := fnExactStrandsOfRow.holds Try.pinned (OpenSpec.ofChange fnExactStrandsOfWrong)

/-- 'laws.FnExactValidEvents': WHATEVER THE INPUT: true; the input reads as it did. -/
def fnExactValidEventsSpec : ChangeSpec := { name := "fnExactValidEvents", fn := fun _ => fun
  | [d] => { results := [.lit (.bool true)], args := [d] }
  | _ => none }
def fnExactValidEventsRow : OpenClaim := { program := "ytlbhpndkmgchcaa", sum := "57565e851cc7ac5b6e5bbe7089a465db96e2112dbe50a5726114258008bae5ac", func := "loop.example/g00856/laws.FnExactValidEvents", spec := "fnExactValidEvents", apart := false }
def FnExactValidEventsSaid : Prop := fnExactValidEventsRow.holds Try.pinned (OpenSpec.ofChange fnExactValidEventsSpec)

/-- ITS FALSE NEIGHBOUR: 'it returns false'. Refute it at one input. -/
def fnExactValidEventsWrong : ChangeSpec := { name := "fnExactValidEvents", fn := fun _ => fun
  | [d] => { results := [.lit (.bool false)], args := [d] }
  | _ => none }
def FnExactValidEventsWrongFalsely : Prop := fnExactValidEventsRow.holds Try.pinned (OpenSpec.ofChange fnExactValidEventsWrong)

/-- 'laws.FnExactStitchesOf': WHATEVER THE INPUT: true; the input reads as it did. -/
def fnExactStitchesOfSpec : ChangeSpec := { name := "fnExactStitchesOf", fn := fun _ => fun
  | [d] => { results := [.lit (.bool true)], args := [d] }
  | _ => none }
def fnExactStitchesOfRow : OpenClaim := { program := "ytlbhpndkmgchcaa", sum := "57565e851cc7ac5b6e5bbe7089a465db96e2112dbe50a5726114258008bae5ac", func := "loop.example/g00856/laws.FnExactStitchesOf", spec := "fnExactStitchesOf", unfollowed := true, recurses := true, apart := false }
def FnExactStitchesOfSaid : Prop := fnExactStitchesOfRow.holds Try.pinned (OpenSpec.ofChange fnExactStitchesOfSpec)

/-- ITS FALSE NEIGHBOUR: 'it returns false'. Refute it at one input. -/
def fnExactStitchesOfWrong : ChangeSpec := { name := "fnExactStitchesOf", fn := fun _ => fun
  | [d] => { results := [.lit (.bool false)], args := [d] }
  | _ => none }
def FnExactStitchesOfWrongFalsely : Prop := fnExactStitchesOfRow.holds Try.pinned (OpenSpec.ofChange fnExactStitchesOfWrong)

/-- 'laws.FnExactCrossingBraid': WHATEVER THE INPUT: true; the input reads as it did. -/
def fnExactCrossingBraidSpec : ChangeSpec := { name := "fnExactCrossingBraid", fn := fun _ => fun
  | [d1, d2] => { results := [.lit (.bool true)], args := [d1, d2] }
  | _ => none }
def fnExactCrossingBraidRow : OpenClaim := { program := "ytlbhpndkmgchcaa", sum := "57565e851cc7ac5b6e5bbe7089a465db96e2112dbe50a5726114258008bae5ac", func := "loop.example/g00856/laws.FnExactCrossingBraid", spec := "fnExactCrossingBraid", apart := false }
def FnExactCrossingBraidSaid : Prop := fnExactCrossingBraidRow.holds Try.pinned (OpenSpec.ofChange fnExactCrossingBraidSpec)

/-- ITS FALSE NEIGHBOUR: 'it returns false'. Refute it at one input. -/
def fnExactCrossingBraidWrong : ChangeSpec := { name := "fnExactCrossingBraid", fn := fun _ => fun
  | [d1, d2] => { results := [.lit (.bool false)], args := [d1, d2] }
  | _ => none }
def FnExactCrossingBraidWrongFalsely : Prop := fnExactCrossingBraidRow.holds Try.pinned (OpenSpec.ofChange fnExactCrossingBraidWrong)

/-- 'laws.FnExactApplyAction': WHATEVER THE INPUT: true; the input reads as it did. -/
def fnExactApplyActionSpec : ChangeSpec := { name := "fnExactApplyAction", fn := fun _ => fun
  | [d1, d2] => { results := [.lit (.bool true)], args := [d1, d2] }
  | _ => none }
def fnExactApplyActionRow : OpenClaim := { program := "ytlbhpndkmgchcaa", sum := "57565e851cc7ac5b6e5bbe7089a465db96e2112dbe50a5726114258008bae5ac", func := "loop.example/g00856/laws.FnExactApplyAction", spec := "fnExactApplyAction", unfollowed := true, recurses := true, apart := false }
def FnExactApplyActionSaid : Prop := fnExactApplyActionRow.holds Try.pinned (OpenSpec.ofChange fnExactApplyActionSpec)

/-- ITS FALSE NEIGHBOUR: 'it returns false'. Refute it at one input. -/
def fnExactApplyActionWrong : ChangeSpec := { name := "fnExactApplyAction", fn := fun _ => fun
  | [d1, d2] => { results := [.lit (.bool false)], args := [d1, d2] }
  | _ => none }
def FnExactApplyActionWrongFalsely : Prop := fnExactApplyActionRow.holds Try.pinned (OpenSpec.ofChange fnExactApplyActionWrong)

/-- 'laws.FnExactBraidOfNormal': WHATEVER THE INPUT: true; the input reads as it did. -/
def fnExactBraidOfNormalSpec : ChangeSpec := { name := "fnExactBraidOfNormal", fn := fun _ => fun
  | [d] => { results := [.lit (.bool true)], args := [d] }
  | _ => none }
def fnExactBraidOfNormalRow : OpenClaim := { program := "ytlbhpndkmgchcaa", sum := "57565e851cc7ac5b6e5bbe7089a465db96e2112dbe50a5726114258008bae5ac", func := "loop.example/g00856/laws.FnExactBraidOfNormal", spec := "fnExactBraidOfNormal", unfollowed := true, recurses := true, apart := false }
def FnExactBraidOfNormalSaid : Prop := fnExactBraidOfNormalRow.holds Try.pinned (OpenSpec.ofChange fnExactBraidOfNormalSpec)

/-- ITS FALSE NEIGHBOUR: 'it returns false'. Refute it at one input. -/
def fnExactBraidOfNormalWrong : ChangeSpec := { name := "fnExactBraidOfNormal", fn := fun _ => fun
  | [d] => { results := [.lit (.bool false)], args := [d] }
  | _ => none }
def FnExactBraidOfNormalWrongFalsely : Prop := fnExactBraidOfNormalRow.holds Try.pinned (OpenSpec.ofChange fnExactBraidOfNormalWrong)

/-- 'laws.FnExactNewMachine': WHATEVER THE INPUT: true; the input reads as it did. -/
def fnExactNewMachineSpec : ChangeSpec := { name := "fnExactNewMachine", fn := fun _ => fun
  | [d] => { results := [.lit (.bool true)], args := [d] }
  | _ => none }
def fnExactNewMachineRow : OpenClaim := { program := "ytlbhpndkmgchcaa", sum := "57565e851cc7ac5b6e5bbe7089a465db96e2112dbe50a5726114258008bae5ac", func := "loop.example/g00856/laws.FnExactNewMachine", spec := "fnExactNewMachine", apart := false }
def FnExactNewMachineSaid : Prop := fnExactNewMachineRow.holds Try.pinned (OpenSpec.ofChange fnExactNewMachineSpec)

/-- ITS FALSE NEIGHBOUR: 'it returns false'. Refute it at one input. -/
def fnExactNewMachineWrong : ChangeSpec := { name := "fnExactNewMachine", fn := fun _ => fun
  | [d] => { results := [.lit (.bool false)], args := [d] }
  | _ => none }
def FnExactNewMachineWrongFalsely : Prop := fnExactNewMachineRow.holds Try.pinned (OpenSpec.ofChange fnExactNewMachineWrong)

/-- 'laws.FnExactSameMachine': WHATEVER THE INPUT: true; the input reads as it did. -/
def fnExactSameMachineSpec : ChangeSpec := { name := "fnExactSameMachine", fn := fun _ => fun
  | [d1, d2] => { results := [.lit (.bool true)], args := [d1, d2] }
  | _ => none }
def fnExactSameMachineRow : OpenClaim := { program := "ytlbhpndkmgchcaa", sum := "57565e851cc7ac5b6e5bbe7089a465db96e2112dbe50a5726114258008bae5ac", func := "loop.example/g00856/laws.FnExactSameMachine", spec := "fnExactSameMachine", unfollowed := true, recurses := true, apart := false }
def FnExactSameMachineSaid : Prop := fnExactSameMachineRow.holds Try.pinned (OpenSpec.ofChange fnExactSameMachineSpec)

/-- ITS FALSE NEIGHBOUR: 'it returns false'. Refute it at one input. -/
def fnExactSameMachineWrong : ChangeSpec := { name := "fnExactSameMachine", fn := fun _ => fun
  | [d1, d2] => { results := [.lit (.bool false)], args := [d1, d2] }
  | _ => none }
def FnExactSameMachineWrongFalsely : Prop := fnExactSameMachineRow.holds Try.pinned (OpenSpec.ofChange fnExactSameMachineWrong)

/- THE SECOND FORM. 'bulk': how many values and letters a reading holds, each counted each time it is reached (what is shared counts as often as it is met; a slice's spare places count too). A statement '..UptoSaid' is the law's where the arguments, and the package variables that the reading takes, are together of bulk at most 1048576: NARROWER than '..Said'. Prove '..Said' where nothing that the law and all that it calls make is longer than what came in: it says more and counts as full. Else prove '..UptoSaid'. A law counts once. -/
mutual
def uptoBulk {H : Type} : DataW H → Nat
  | .lit (.string bytes) => bytes.length + 1
  | .lit _ => 1
  | .nil => 1
  | .ptr d => uptoBulk d + 1
  | .slice elems spare => uptoBulkAll elems + uptoBulkAll spare + 1
  | .agg parts => uptoBulkAll parts + 1
  | .iface _ d => uptoBulk d + 1
  | .map entries => uptoBulkEntries entries + 1
  | .held _ => 1
def uptoBulkAll {H : Type} : List (DataW H) → Nat
  | [] => 0
  | d :: r => uptoBulk d + uptoBulkAll r
def uptoBulkEntries {H : Type} : List (Lit × DataW H) → Nat
  | [] => 0
  | x :: r => uptoBulkEntry x + uptoBulkEntries r
def uptoBulkEntry {H : Type} : Lit × DataW H → Nat
  | (.string bytes, d) => bytes.length + uptoBulk d + 1
  | (_, d) => uptoBulk d + 1
 end
def uptoSmall : (H : Type) → List (DataW H) → Bool := fun _ ds => decide (uptoBulkAll ds ≤ 1048576)
def OpenSpec.upto (s : _root_.Go.ChangeSpec) : _root_.Go.OpenSpec := { _root_.Go.OpenSpec.ofChange s with cond := some uptoSmall }

/-- 'laws.FnExactBraidEvents', WHERE WHAT IT READS IS OF BULK AT MOST 1048576: true; the input reads as it did. -/
def fnExactBraidEventsUptoRow : OpenClaim := { program := "ytlbhpndkmgchcaa", sum := "57565e851cc7ac5b6e5bbe7089a465db96e2112dbe50a5726114258008bae5ac", func := "loop.example/g00856/laws.FnExactBraidEvents", spec := "fnExactBraidEvents", unfollowed := true, recurses := true, apart := false, narrowed := true }
def FnExactBraidEventsUptoSaid : Prop := fnExactBraidEventsUptoRow.holds Try.pinned (OpenSpec.upto fnExactBraidEventsSpec)

/-- 'laws.FnExactSameEvents', WHERE WHAT IT READS IS OF BULK AT MOST 1048576: true; the input reads as it did. -/
def fnExactSameEventsUptoRow : OpenClaim := { program := "ytlbhpndkmgchcaa", sum := "57565e851cc7ac5b6e5bbe7089a465db96e2112dbe50a5726114258008bae5ac", func := "loop.example/g00856/laws.FnExactSameEvents", spec := "fnExactSameEvents", apart := false, narrowed := true }
def FnExactSameEventsUptoSaid : Prop := fnExactSameEventsUptoRow.holds Try.pinned (OpenSpec.upto fnExactSameEventsSpec)

/-- 'laws.FnExactStrandsOf', WHERE WHAT IT READS IS OF BULK AT MOST 1048576: true; the input reads as it did. -/
def fnExactStrandsOfUptoRow : OpenClaim := { program := "ytlbhpndkmgchcaa", sum := "57565e851cc7ac5b6e5bbe7089a465db96e2112dbe50a5726114258008bae5ac", func := "loop.example/g00856/laws.FnExactStrandsOf", spec := "fnExactStrandsOf", apart := false, narrowed := true }
def FnExactStrandsOfUptoSaid : Prop := fnExactStrandsOfUptoRow.holds Try.pinned (OpenSpec.upto fnExactStrandsOfSpec)

/-- 'laws.FnExactValidEvents', WHERE WHAT IT READS IS OF BULK AT MOST 1048576: true; the input reads as it did. -/
def fnExactValidEventsUptoRow : OpenClaim := { program := "ytlbhpndkmgchcaa", sum := "57565e851cc7ac5b6e5bbe7089a465db96e2112dbe50a5726114258008bae5ac", func := "loop.example/g00856/laws.FnExactValidEvents", spec := "fnExactValidEvents", apart := false, narrowed := true }
def FnExactValidEventsUptoSaid : Prop := fnExactValidEventsUptoRow.holds Try.pinned (OpenSpec.upto fnExactValidEventsSpec)

/-- 'laws.FnExactStitchesOf', WHERE WHAT IT READS IS OF BULK AT MOST 1048576: true; the input reads as it did. -/
def fnExactStitchesOfUptoRow : OpenClaim := { program := "ytlbhpndkmgchcaa", sum := "57565e851cc7ac5b6e5bbe7089a465db96e2112dbe50a5726114258008bae5ac", func := "loop.example/g00856/laws.FnExactStitchesOf", spec := "fnExactStitchesOf", unfollowed := true, recurses := true, apart := false, narrowed := true }
def FnExactStitchesOfUptoSaid : Prop := fnExactStitchesOfUptoRow.holds Try.pinned (OpenSpec.upto fnExactStitchesOfSpec)

/-- 'laws.FnExactCrossingBraid', WHERE WHAT IT READS IS OF BULK AT MOST 1048576: true; the input reads as it did. -/
def fnExactCrossingBraidUptoRow : OpenClaim := { program := "ytlbhpndkmgchcaa", sum := "57565e851cc7ac5b6e5bbe7089a465db96e2112dbe50a5726114258008bae5ac", func := "loop.example/g00856/laws.FnExactCrossingBraid", spec := "fnExactCrossingBraid", apart := false, narrowed := true }
def FnExactCrossingBraidUptoSaid : Prop := fnExactCrossingBraidUptoRow.holds Try.pinned (OpenSpec.upto fnExactCrossingBraidSpec)

/-- 'laws.FnExactApplyAction', WHERE WHAT IT READS IS OF BULK AT MOST 1048576: true; the input reads as it did. -/
def fnExactApplyActionUptoRow : OpenClaim := { program := "ytlbhpndkmgchcaa", sum := "57565e851cc7ac5b6e5bbe7089a465db96e2112dbe50a5726114258008bae5ac", func := "loop.example/g00856/laws.FnExactApplyAction", spec := "fnExactApplyAction", unfollowed := true, recurses := true, apart := false, narrowed := true }
def FnExactApplyActionUptoSaid : Prop := fnExactApplyActionUptoRow.holds Try.pinned (OpenSpec.upto fnExactApplyActionSpec)

/-- 'laws.FnExactBraidOfNormal', WHERE WHAT IT READS IS OF BULK AT MOST 1048576: true; the input reads as it did. -/
def fnExactBraidOfNormalUptoRow : OpenClaim := { program := "ytlbhpndkmgchcaa", sum := "57565e851cc7ac5b6e5bbe7089a465db96e2112dbe50a5726114258008bae5ac", func := "loop.example/g00856/laws.FnExactBraidOfNormal", spec := "fnExactBraidOfNormal", unfollowed := true, recurses := true, apart := false, narrowed := true }
def FnExactBraidOfNormalUptoSaid : Prop := fnExactBraidOfNormalUptoRow.holds Try.pinned (OpenSpec.upto fnExactBraidOfNormalSpec)

/-- 'laws.FnExactNewMachine', WHERE WHAT IT READS IS OF BULK AT MOST 1048576: true; the input reads as it did. -/
def fnExactNewMachineUptoRow : OpenClaim := { program := "ytlbhpndkmgchcaa", sum := "57565e851cc7ac5b6e5bbe7089a465db96e2112dbe50a5726114258008bae5ac", func := "loop.example/g00856/laws.FnExactNewMachine", spec := "fnExactNewMachine", apart := false, narrowed := true }
def FnExactNewMachineUptoSaid : Prop := fnExactNewMachineUptoRow.holds Try.pinned (OpenSpec.upto fnExactNewMachineSpec)

/-- 'laws.FnExactSameMachine', WHERE WHAT IT READS IS OF BULK AT MOST 1048576: true; the input reads as it did. -/
def fnExactSameMachineUptoRow : OpenClaim := { program := "ytlbhpndkmgchcaa", sum := "57565e851cc7ac5b6e5bbe7089a465db96e2112dbe50a5726114258008bae5ac", func := "loop.example/g00856/laws.FnExactSameMachine", spec := "fnExactSameMachine", unfollowed := true, recurses := true, apart := false, narrowed := true }
def FnExactSameMachineUptoSaid : Prop := fnExactSameMachineUptoRow.holds Try.pinned (OpenSpec.upto fnExactSameMachineSpec)

end Rows
end Go.Proofs.Ytlbhpndkmgchcaa
