/-
  No cell of these rows narrows 'for every input' (looked for: loops, veiled, ifaces, maps, wideKeys, modest, calm, conditions, laid).
  DERIVED. THE GIVEN ROWS OF THIS SEAT. 8 by the template 'for every input the law returns true; each argument reads behind the call as it read before'; 0 by the template 'total and deterministic' (their statements: YtaconeliiicloaaTotals.lean).
  GIVEN WITH THE SEED: the statements are not yours to turn. If you find one false, say at which input.
  Laid BY PROGRAM, IN A SANDBOX (cutbox-rows.mjs): the forced cells as the released guide's own fill.sh prints them over the translation bcbabe0ec76196ea… (all of the seat's roots in one cut). By AI agents, Wed Nov 11 2026. No macro, syntax, notation, axiom, sorry.
-/
import Derived.Test.YtaconeliiicloaaChecked
import GoSem.Claim
import GoSem.ClaimJoined
import GoSem.ClaimMapViews
import Derived.JoinedTies
import Derived.KernelRfl
namespace Go.Proofs.Ytaconeliiicloaa
/- THE CELL 'sum', in the pinned program and in every row, IS THE sha256 OF THE DUMP (.gsa) THAT YtaconeliiicloaaProg.lean LOADS. Nothing in Lean hashes anything: it is a label: what it is worth is what the hold of that sum in a sandbox is worth. -/
noncomputable def Try.pinned : Pinned := { name := "ytaconeliiicloaa", sum := "bcbabe0ec76196ea3b038c1937d021bf01f252419307af97fe26383d7d633603", checked := Try.checked }
namespace Rows
def none {H : Type} : Left H := { results := [], args := [] }

/-- 'laws.FnPermutations': WHATEVER THE INPUT: true; the input reads as it did. -/
def fnPermutationsSpec : ChangeSpec := { name := "fnPermutations", fn := fun _ => fun
  | [d] => { results := [.lit (.bool true)], args := [d] }
  | _ => none }
def fnPermutationsRow : OpenClaim := { program := "ytaconeliiicloaa", sum := "bcbabe0ec76196ea3b038c1937d021bf01f252419307af97fe26383d7d633603", func := "loop.example/g00856/laws.FnPermutations", spec := "fnPermutations", apart := false }
def FnPermutationsSaid : Prop := fnPermutationsRow.holds Try.pinned (OpenSpec.ofChange fnPermutationsSpec)

/-- ITS FALSE NEIGHBOUR: 'it returns false'. Refute it at one input. -/
def fnPermutationsWrong : ChangeSpec := { name := "fnPermutations", fn := fun _ => fun
  | [d] => { results := [.lit (.bool false)], args := [d] }
  | _ => none }
def FnPermutationsWrongFalsely : Prop := fnPermutationsRow.holds Try.pinned (OpenSpec.ofChange fnPermutationsWrong)

/-- 'laws.FnExactMirrorProgram': WHATEVER THE INPUT: true; the input reads as it did. -/
def fnExactMirrorProgramSpec : ChangeSpec := { name := "fnExactMirrorProgram", fn := fun _ => fun
  | [d1, d2] => { results := [.lit (.bool true)], args := [d1, d2] }
  | _ => none }
def fnExactMirrorProgramRow : OpenClaim := { program := "ytaconeliiicloaa", sum := "bcbabe0ec76196ea3b038c1937d021bf01f252419307af97fe26383d7d633603", func := "loop.example/g00856/laws.FnExactMirrorProgram", spec := "fnExactMirrorProgram", unfollowed := true, recurses := true, apart := false }
def FnExactMirrorProgramSaid : Prop := fnExactMirrorProgramRow.holds Try.pinned (OpenSpec.ofChange fnExactMirrorProgramSpec)

/-- ITS FALSE NEIGHBOUR: 'it returns false'. Refute it at one input. -/
def fnExactMirrorProgramWrong : ChangeSpec := { name := "fnExactMirrorProgram", fn := fun _ => fun
  | [d1, d2] => { results := [.lit (.bool false)], args := [d1, d2] }
  | _ => none }
def FnExactMirrorProgramWrongFalsely : Prop := fnExactMirrorProgramRow.holds Try.pinned (OpenSpec.ofChange fnExactMirrorProgramWrong)

/-- 'laws.FnExactShiftProgram': WHATEVER THE INPUT: true; the input reads as it did. -/
def fnExactShiftProgramSpec : ChangeSpec := { name := "fnExactShiftProgram", fn := fun _ => fun
  | [d1, d2, d3] => { results := [.lit (.bool true)], args := [d1, d2, d3] }
  | _ => none }
def fnExactShiftProgramRow : OpenClaim := { program := "ytaconeliiicloaa", sum := "bcbabe0ec76196ea3b038c1937d021bf01f252419307af97fe26383d7d633603", func := "loop.example/g00856/laws.FnExactShiftProgram", spec := "fnExactShiftProgram", unfollowed := true, recurses := true, apart := false }
def FnExactShiftProgramSaid : Prop := fnExactShiftProgramRow.holds Try.pinned (OpenSpec.ofChange fnExactShiftProgramSpec)

/-- ITS FALSE NEIGHBOUR: 'it returns false'. Refute it at one input. -/
def fnExactShiftProgramWrong : ChangeSpec := { name := "fnExactShiftProgram", fn := fun _ => fun
  | [d1, d2, d3] => { results := [.lit (.bool false)], args := [d1, d2, d3] }
  | _ => none }
def FnExactShiftProgramWrongFalsely : Prop := fnExactShiftProgramRow.holds Try.pinned (OpenSpec.ofChange fnExactShiftProgramWrong)

/-- 'laws.FnExactCarriersUsed': WHATEVER THE INPUT: true; the input reads as it did. -/
def fnExactCarriersUsedSpec : ChangeSpec := { name := "fnExactCarriersUsed", fn := fun _ => fun
  | [d] => { results := [.lit (.bool true)], args := [d] }
  | _ => none }
def fnExactCarriersUsedRow : OpenClaim := { program := "ytaconeliiicloaa", sum := "bcbabe0ec76196ea3b038c1937d021bf01f252419307af97fe26383d7d633603", func := "loop.example/g00856/laws.FnExactCarriersUsed", spec := "fnExactCarriersUsed", unfollowed := true, recurses := true, apart := false }
def FnExactCarriersUsedSaid : Prop := fnExactCarriersUsedRow.holds Try.pinned (OpenSpec.ofChange fnExactCarriersUsedSpec)

/-- ITS FALSE NEIGHBOUR: 'it returns false'. Refute it at one input. -/
def fnExactCarriersUsedWrong : ChangeSpec := { name := "fnExactCarriersUsed", fn := fun _ => fun
  | [d] => { results := [.lit (.bool false)], args := [d] }
  | _ => none }
def FnExactCarriersUsedWrongFalsely : Prop := fnExactCarriersUsedRow.holds Try.pinned (OpenSpec.ofChange fnExactCarriersUsedWrong)

/-- 'laws.FnExactDoubleBraid': WHATEVER THE INPUT: true; the input reads as it did. -/
def fnExactDoubleBraidSpec : ChangeSpec := { name := "fnExactDoubleBraid", fn := fun _ => fun
  | [d1, d2] => { results := [.lit (.bool true)], args := [d1, d2] }
  | _ => none }
def fnExactDoubleBraidRow : OpenClaim := { program := "ytaconeliiicloaa", sum := "bcbabe0ec76196ea3b038c1937d021bf01f252419307af97fe26383d7d633603", func := "loop.example/g00856/laws.FnExactDoubleBraid", spec := "fnExactDoubleBraid", unfollowed := true, recurses := true, apart := false }
def FnExactDoubleBraidSaid : Prop := fnExactDoubleBraidRow.holds Try.pinned (OpenSpec.ofChange fnExactDoubleBraidSpec)

/-- ITS FALSE NEIGHBOUR: 'it returns false'. Refute it at one input. -/
def fnExactDoubleBraidWrong : ChangeSpec := { name := "fnExactDoubleBraid", fn := fun _ => fun
  | [d1, d2] => { results := [.lit (.bool false)], args := [d1, d2] }
  | _ => none }
def FnExactDoubleBraidWrongFalsely : Prop := fnExactDoubleBraidRow.holds Try.pinned (OpenSpec.ofChange fnExactDoubleBraidWrong)

/-- 'laws.FnExactPassesOf': WHATEVER THE INPUT: true; the input reads as it did. -/
def fnExactPassesOfSpec : ChangeSpec := { name := "fnExactPassesOf", fn := fun _ => fun
  | [d] => { results := [.lit (.bool true)], args := [d] }
  | _ => none }
def fnExactPassesOfRow : OpenClaim := { program := "ytaconeliiicloaa", sum := "bcbabe0ec76196ea3b038c1937d021bf01f252419307af97fe26383d7d633603", func := "loop.example/g00856/laws.FnExactPassesOf", spec := "fnExactPassesOf", unfollowed := true, recurses := true, apart := false }
def FnExactPassesOfSaid : Prop := fnExactPassesOfRow.holds Try.pinned (OpenSpec.ofChange fnExactPassesOfSpec)

/-- ITS FALSE NEIGHBOUR: 'it returns false'. Refute it at one input. -/
def fnExactPassesOfWrong : ChangeSpec := { name := "fnExactPassesOf", fn := fun _ => fun
  | [d] => { results := [.lit (.bool false)], args := [d] }
  | _ => none }
def FnExactPassesOfWrongFalsely : Prop := fnExactPassesOfRow.holds Try.pinned (OpenSpec.ofChange fnExactPassesOfWrong)

/-- 'laws.FnExactCountPasses': WHATEVER THE INPUT: true; the input reads as it did. -/
def fnExactCountPassesSpec : ChangeSpec := { name := "fnExactCountPasses", fn := fun _ => fun
  | [d] => { results := [.lit (.bool true)], args := [d] }
  | _ => none }
def fnExactCountPassesRow : OpenClaim := { program := "ytaconeliiicloaa", sum := "bcbabe0ec76196ea3b038c1937d021bf01f252419307af97fe26383d7d633603", func := "loop.example/g00856/laws.FnExactCountPasses", spec := "fnExactCountPasses", unfollowed := true, recurses := true, apart := false }
def FnExactCountPassesSaid : Prop := fnExactCountPassesRow.holds Try.pinned (OpenSpec.ofChange fnExactCountPassesSpec)

/-- ITS FALSE NEIGHBOUR: 'it returns false'. Refute it at one input. -/
def fnExactCountPassesWrong : ChangeSpec := { name := "fnExactCountPasses", fn := fun _ => fun
  | [d] => { results := [.lit (.bool false)], args := [d] }
  | _ => none }
def FnExactCountPassesWrongFalsely : Prop := fnExactCountPassesRow.holds Try.pinned (OpenSpec.ofChange fnExactCountPassesWrong)

/-- 'laws.FnExactReturnsOf': WHATEVER THE INPUT: true; the input reads as it did. -/
def fnExactReturnsOfSpec : ChangeSpec := { name := "fnExactReturnsOf", fn := fun _ => fun
  | [d] => { results := [.lit (.bool true)], args := [d] }
  | _ => none }
def fnExactReturnsOfRow : OpenClaim := { program := "ytaconeliiicloaa", sum := "bcbabe0ec76196ea3b038c1937d021bf01f252419307af97fe26383d7d633603", func := "loop.example/g00856/laws.FnExactReturnsOf", spec := "fnExactReturnsOf", unfollowed := true, recurses := true, apart := false }
def FnExactReturnsOfSaid : Prop := fnExactReturnsOfRow.holds Try.pinned (OpenSpec.ofChange fnExactReturnsOfSpec)

/-- ITS FALSE NEIGHBOUR: 'it returns false'. Refute it at one input. -/
def fnExactReturnsOfWrong : ChangeSpec := { name := "fnExactReturnsOf", fn := fun _ => fun
  | [d] => { results := [.lit (.bool false)], args := [d] }
  | _ => none }
def FnExactReturnsOfWrongFalsely : Prop := fnExactReturnsOfRow.holds Try.pinned (OpenSpec.ofChange fnExactReturnsOfWrong)

/- THE SECOND FORM. 'bulk': how many values and letters a reading holds, each counted each time it is reached (what is shared counts as often as it is met; a slice's spare places count too). A statement '..UptoSaid' is the law's where the arguments, and the package variables that the reading takes, are together of bulk at most 1048576: NARROWER than '..Said'. Prove '..Said' where nothing that the law and all that it calls make is longer than what came in: it says more and counts as full. Else prove '..UptoSaid'. A law counts once. -/
mutual
def uptoBulk {H : Type} : DataW H → Nat
  | .lit (.string bytes) => bytes.length + 1
  | .lit _ => 1
  | .nil => 1
  | .ptr d => uptoBulk d + 1
  | .slice elems spare => uptoBulkAll elems + uptoBulkAll spare + 1
  | .agg parts => uptoBulkAll parts + 1
  | .iface _ d => uptoBulk d + 1
  | .map entries => uptoBulkEntries entries + 1
  | .held _ => 1
def uptoBulkAll {H : Type} : List (DataW H) → Nat
  | [] => 0
  | d :: r => uptoBulk d + uptoBulkAll r
def uptoBulkEntries {H : Type} : List (Lit × DataW H) → Nat
  | [] => 0
  | x :: r => uptoBulkEntry x + uptoBulkEntries r
def uptoBulkEntry {H : Type} : Lit × DataW H → Nat
  | (.string bytes, d) => bytes.length + uptoBulk d + 1
  | (_, d) => uptoBulk d + 1
 end
def uptoSmall : (H : Type) → List (DataW H) → Bool := fun _ ds => decide (uptoBulkAll ds ≤ 1048576)
def OpenSpec.upto (s : _root_.Go.ChangeSpec) : _root_.Go.OpenSpec := { _root_.Go.OpenSpec.ofChange s with cond := some uptoSmall }

/-- 'laws.FnPermutations', WHERE WHAT IT READS IS OF BULK AT MOST 1048576: true; the input reads as it did. -/
def fnPermutationsUptoRow : OpenClaim := { program := "ytaconeliiicloaa", sum := "bcbabe0ec76196ea3b038c1937d021bf01f252419307af97fe26383d7d633603", func := "loop.example/g00856/laws.FnPermutations", spec := "fnPermutations", apart := false, narrowed := true }
def FnPermutationsUptoSaid : Prop := fnPermutationsUptoRow.holds Try.pinned (OpenSpec.upto fnPermutationsSpec)

/-- 'laws.FnExactMirrorProgram', WHERE WHAT IT READS IS OF BULK AT MOST 1048576: true; the input reads as it did. -/
def fnExactMirrorProgramUptoRow : OpenClaim := { program := "ytaconeliiicloaa", sum := "bcbabe0ec76196ea3b038c1937d021bf01f252419307af97fe26383d7d633603", func := "loop.example/g00856/laws.FnExactMirrorProgram", spec := "fnExactMirrorProgram", unfollowed := true, recurses := true, apart := false, narrowed := true }
def FnExactMirrorProgramUptoSaid : Prop := fnExactMirrorProgramUptoRow.holds Try.pinned (OpenSpec.upto fnExactMirrorProgramSpec)

/-- 'laws.FnExactShiftProgram', WHERE WHAT IT READS IS OF BULK AT MOST 1048576: true; the input reads as it did. -/
def fnExactShiftProgramUptoRow : OpenClaim := { program := "ytaconeliiicloaa", sum := "bcbabe0ec76196ea3b038c1937d021bf01f252419307af97fe26383d7d633603", func := "loop.example/g00856/laws.FnExactShiftProgram", spec := "fnExactShiftProgram", unfollowed := true, recurses := true, apart := false, narrowed := true }
def FnExactShiftProgramUptoSaid : Prop := fnExactShiftProgramUptoRow.holds Try.pinned (OpenSpec.upto fnExactShiftProgramSpec)

/-- 'laws.FnExactCarriersUsed', WHERE WHAT IT READS IS OF BULK AT MOST 1048576: true; the input reads as it did. -/
def fnExactCarriersUsedUptoRow : OpenClaim := { program := "ytaconeliiicloaa", sum := "bcbabe0ec76196ea3b038c1937d021bf01f252419307af97fe26383d7d633603", func := "loop.example/g00856/laws.FnExactCarriersUsed", spec := "fnExactCarriersUsed", unfollowed := true, recurses := true, apart := false, narrowed := true }
def FnExactCarriersUsedUptoSaid : Prop := fnExactCarriersUsedUptoRow.holds Try.pinned (OpenSpec.upto fnExactCarriersUsedSpec)

/-- 'laws.FnExactDoubleBraid', WHERE WHAT IT READS IS OF BULK AT MOST 1048576: true; the input reads as it did. -/
def fnExactDoubleBraidUptoRow : OpenClaim := { program := "ytaconeliiicloaa", sum := "bcbabe0ec76196ea3b038c1937d021bf01f252419307af97fe26383d7d633603", func := "loop.example/g00856/laws.FnExactDoubleBraid", spec := "fnExactDoubleBraid", unfollowed := true, recurses := true, apart := false, narrowed := true }
def FnExactDoubleBraidUptoSaid : Prop := fnExactDoubleBraidUptoRow.holds Try.pinned (OpenSpec.upto fnExactDoubleBraidSpec)

/-- 'laws.FnExactPassesOf', WHERE WHAT IT READS IS OF BULK AT MOST 1048576: true; the input reads as it did. -/
def fnExactPassesOfUptoRow : OpenClaim := { program := "ytaconeliiicloaa", sum := "bcbabe0ec76196ea3b038c1937d021bf01f252419307af97fe26383d7d633603", func := "loop.example/g00856/laws.FnExactPassesOf", spec := "fnExactPassesOf", unfollowed := true, recurses := true, apart := false, narrowed := true }
def FnExactPassesOfUptoSaid : Prop := fnExactPassesOfUptoRow.holds Try.pinned (OpenSpec.upto fnExactPassesOfSpec)

/-- 'laws.FnExactCountPasses', WHERE WHAT IT READS IS OF BULK AT MOST 1048576: true; the input reads as it did. -/
def fnExactCountPassesUptoRow : OpenClaim := { program := "ytaconeliiicloaa", sum := "bcbabe0ec76196ea3b038c1937d021bf01f252419307af97fe26383d7d633603", func := "loop.example/g00856/laws.FnExactCountPasses", spec := "fnExactCountPasses", unfollowed := true, recurses := true, apart := false, narrowed := true }
def FnExactCountPassesUptoSaid : Prop := fnExactCountPassesUptoRow.holds Try.pinned (OpenSpec.upto fnExactCountPassesSpec)

/-- 'laws.FnExactReturnsOf', WHERE WHAT IT READS IS OF BULK AT MOST 1048576: true; the input reads as it did. -/
def fnExactReturnsOfUptoRow : OpenClaim := { program := "ytaconeliiicloaa", sum := "bcbabe0ec76196ea3b038c1937d021bf01f252419307af97fe26383d7d633603", func := "loop.example/g00856/laws.FnExactReturnsOf", spec := "fnExactReturnsOf", unfollowed := true, recurses := true, apart := false, narrowed := true }
def FnExactReturnsOfUptoSaid : Prop := fnExactReturnsOfUptoRow.holds Try.pinned (OpenSpec.upto fnExactReturnsOfSpec)

end Rows
end Go.Proofs.Ytaconeliiicloaa
