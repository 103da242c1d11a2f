/-
  No cell of these rows narrows 'for every input' (looked for: loops, veiled, ifaces, maps, wideKeys, modest, calm, conditions, laid).
  DERIVED. THE GIVEN ROWS OF THIS SEAT. 12 by the template 'for every input the law returns true; each argument reads behind the call as it read before'; 0 by the template 'total and deterministic' (their statements: YtochafekbncbaaaTotals.lean).
  GIVEN WITH THE SEED: the statements are not yours to turn. If you find one false, say at which input.
  Laid BY PROGRAM, IN A SANDBOX (cutbox-rows.mjs): the forced cells as the released guide's own fill.sh prints them over the translation ceae539f90427071… (all of the seat's roots in one cut). By AI agents, Wed Nov 11 2026. No macro, syntax, notation, axiom, sorry.
-/
import Derived.Test.YtochafekbncbaaaChecked
import GoSem.Claim
import GoSem.ClaimJoined
import GoSem.ClaimMapViews
import Derived.JoinedTies
import Derived.KernelRfl
namespace Go.Proofs.Ytochafekbncbaaa
/- THE CELL 'sum', in the pinned program and in every row, IS THE sha256 OF THE DUMP (.gsa) THAT YtochafekbncbaaaProg.lean LOADS. Nothing in Lean hashes anything: it is a label: what it is worth is what the hold of that sum in a sandbox is worth. -/
noncomputable def Try.pinned : Pinned := { name := "ytochafekbncbaaa", sum := "ceae539f9042707141de25e0a9d213c48c97e5efe2deddcac3a55c9f96350f5d", checked := Try.checked }
namespace Rows
def none {H : Type} : Left H := { results := [], args := [] }

/-- 'laws.FnExactCrossingBraid': WHATEVER THE INPUT: true; the input reads as it did. -/
def fnExactCrossingBraidSpec : ChangeSpec := { name := "fnExactCrossingBraid", fn := fun _ => fun
  | [d1, d2] => { results := [.lit (.bool true)], args := [d1, d2] }
  | _ => none }
def fnExactCrossingBraidRow : OpenClaim := { program := "ytochafekbncbaaa", sum := "ceae539f9042707141de25e0a9d213c48c97e5efe2deddcac3a55c9f96350f5d", func := "loop.example/g00856/laws.FnExactCrossingBraid", spec := "fnExactCrossingBraid", apart := false }
def FnExactCrossingBraidSaid : Prop := fnExactCrossingBraidRow.holds Try.pinned (OpenSpec.ofChange fnExactCrossingBraidSpec)

/-- ITS FALSE NEIGHBOUR: 'it returns false'. Refute it at one input. -/
def fnExactCrossingBraidWrong : ChangeSpec := { name := "fnExactCrossingBraid", fn := fun _ => fun
  | [d1, d2] => { results := [.lit (.bool false)], args := [d1, d2] }
  | _ => none }
def FnExactCrossingBraidWrongFalsely : Prop := fnExactCrossingBraidRow.holds Try.pinned (OpenSpec.ofChange fnExactCrossingBraidWrong)

/-- 'laws.FnExactValidMachine': WHATEVER THE INPUT: true; the input reads as it did. -/
def fnExactValidMachineSpec : ChangeSpec := { name := "fnExactValidMachine", fn := fun _ => fun
  | [d] => { results := [.lit (.bool true)], args := [d] }
  | _ => none }
def fnExactValidMachineRow : OpenClaim := { program := "ytochafekbncbaaa", sum := "ceae539f9042707141de25e0a9d213c48c97e5efe2deddcac3a55c9f96350f5d", func := "loop.example/g00856/laws.FnExactValidMachine", spec := "fnExactValidMachine", unfollowed := true, recurses := true, apart := false }
def FnExactValidMachineSaid : Prop := fnExactValidMachineRow.holds Try.pinned (OpenSpec.ofChange fnExactValidMachineSpec)

/-- ITS FALSE NEIGHBOUR: 'it returns false'. Refute it at one input. -/
def fnExactValidMachineWrong : ChangeSpec := { name := "fnExactValidMachine", fn := fun _ => fun
  | [d] => { results := [.lit (.bool false)], args := [d] }
  | _ => none }
def FnExactValidMachineWrongFalsely : Prop := fnExactValidMachineRow.holds Try.pinned (OpenSpec.ofChange fnExactValidMachineWrong)

/-- 'laws.FnExactNewMachine': WHATEVER THE INPUT: true; the input reads as it did. -/
def fnExactNewMachineSpec : ChangeSpec := { name := "fnExactNewMachine", fn := fun _ => fun
  | [d] => { results := [.lit (.bool true)], args := [d] }
  | _ => none }
def fnExactNewMachineRow : OpenClaim := { program := "ytochafekbncbaaa", sum := "ceae539f9042707141de25e0a9d213c48c97e5efe2deddcac3a55c9f96350f5d", func := "loop.example/g00856/laws.FnExactNewMachine", spec := "fnExactNewMachine", apart := false }
def FnExactNewMachineSaid : Prop := fnExactNewMachineRow.holds Try.pinned (OpenSpec.ofChange fnExactNewMachineSpec)

/-- ITS FALSE NEIGHBOUR: 'it returns false'. Refute it at one input. -/
def fnExactNewMachineWrong : ChangeSpec := { name := "fnExactNewMachine", fn := fun _ => fun
  | [d] => { results := [.lit (.bool false)], args := [d] }
  | _ => none }
def FnExactNewMachineWrongFalsely : Prop := fnExactNewMachineRow.holds Try.pinned (OpenSpec.ofChange fnExactNewMachineWrong)

/-- 'laws.FnExactLoopsOn': WHATEVER THE INPUT: true; the input reads as it did. -/
def fnExactLoopsOnSpec : ChangeSpec := { name := "fnExactLoopsOn", fn := fun _ => fun
  | [d1, d2] => { results := [.lit (.bool true)], args := [d1, d2] }
  | _ => none }
def fnExactLoopsOnRow : OpenClaim := { program := "ytochafekbncbaaa", sum := "ceae539f9042707141de25e0a9d213c48c97e5efe2deddcac3a55c9f96350f5d", func := "loop.example/g00856/laws.FnExactLoopsOn", spec := "fnExactLoopsOn", unfollowed := true, recurses := true, apart := false }
def FnExactLoopsOnSaid : Prop := fnExactLoopsOnRow.holds Try.pinned (OpenSpec.ofChange fnExactLoopsOnSpec)

/-- ITS FALSE NEIGHBOUR: 'it returns false'. Refute it at one input. -/
def fnExactLoopsOnWrong : ChangeSpec := { name := "fnExactLoopsOn", fn := fun _ => fun
  | [d1, d2] => { results := [.lit (.bool false)], args := [d1, d2] }
  | _ => none }
def FnExactLoopsOnWrongFalsely : Prop := fnExactLoopsOnRow.holds Try.pinned (OpenSpec.ofChange fnExactLoopsOnWrong)

/-- 'laws.FnExactPlaceOf': WHATEVER THE INPUT: true; the input reads as it did. -/
def fnExactPlaceOfSpec : ChangeSpec := { name := "fnExactPlaceOf", fn := fun _ => fun
  | [d1, d2] => { results := [.lit (.bool true)], args := [d1, d2] }
  | _ => none }
def fnExactPlaceOfRow : OpenClaim := { program := "ytochafekbncbaaa", sum := "ceae539f9042707141de25e0a9d213c48c97e5efe2deddcac3a55c9f96350f5d", func := "loop.example/g00856/laws.FnExactPlaceOf", spec := "fnExactPlaceOf", unfollowed := true, recurses := true, apart := false }
def FnExactPlaceOfSaid : Prop := fnExactPlaceOfRow.holds Try.pinned (OpenSpec.ofChange fnExactPlaceOfSpec)

/-- ITS FALSE NEIGHBOUR: 'it returns false'. Refute it at one input. -/
def fnExactPlaceOfWrong : ChangeSpec := { name := "fnExactPlaceOf", fn := fun _ => fun
  | [d1, d2] => { results := [.lit (.bool false)], args := [d1, d2] }
  | _ => none }
def FnExactPlaceOfWrongFalsely : Prop := fnExactPlaceOfRow.holds Try.pinned (OpenSpec.ofChange fnExactPlaceOfWrong)

/-- 'laws.FnExactFacingOf': WHATEVER THE INPUT: true; the input reads as it did. -/
def fnExactFacingOfSpec : ChangeSpec := { name := "fnExactFacingOf", fn := fun _ => fun
  | [d1, d2] => { results := [.lit (.bool true)], args := [d1, d2] }
  | _ => none }
def fnExactFacingOfRow : OpenClaim := { program := "ytochafekbncbaaa", sum := "ceae539f9042707141de25e0a9d213c48c97e5efe2deddcac3a55c9f96350f5d", func := "loop.example/g00856/laws.FnExactFacingOf", spec := "fnExactFacingOf", unfollowed := true, recurses := true, apart := false }
def FnExactFacingOfSaid : Prop := fnExactFacingOfRow.holds Try.pinned (OpenSpec.ofChange fnExactFacingOfSpec)

/-- ITS FALSE NEIGHBOUR: 'it returns false'. Refute it at one input. -/
def fnExactFacingOfWrong : ChangeSpec := { name := "fnExactFacingOf", fn := fun _ => fun
  | [d1, d2] => { results := [.lit (.bool false)], args := [d1, d2] }
  | _ => none }
def FnExactFacingOfWrongFalsely : Prop := fnExactFacingOfRow.holds Try.pinned (OpenSpec.ofChange fnExactFacingOfWrong)

/-- 'laws.FnExactLiveLoops': WHATEVER THE INPUT: true; the input reads as it did. -/
def fnExactLiveLoopsSpec : ChangeSpec := { name := "fnExactLiveLoops", fn := fun _ => fun
  | [d] => { results := [.lit (.bool true)], args := [d] }
  | _ => none }
def fnExactLiveLoopsRow : OpenClaim := { program := "ytochafekbncbaaa", sum := "ceae539f9042707141de25e0a9d213c48c97e5efe2deddcac3a55c9f96350f5d", func := "loop.example/g00856/laws.FnExactLiveLoops", spec := "fnExactLiveLoops", unfollowed := true, recurses := true, apart := false }
def FnExactLiveLoopsSaid : Prop := fnExactLiveLoopsRow.holds Try.pinned (OpenSpec.ofChange fnExactLiveLoopsSpec)

/-- ITS FALSE NEIGHBOUR: 'it returns false'. Refute it at one input. -/
def fnExactLiveLoopsWrong : ChangeSpec := { name := "fnExactLiveLoops", fn := fun _ => fun
  | [d] => { results := [.lit (.bool false)], args := [d] }
  | _ => none }
def FnExactLiveLoopsWrongFalsely : Prop := fnExactLiveLoopsRow.holds Try.pinned (OpenSpec.ofChange fnExactLiveLoopsWrong)

/-- 'laws.FnExactPassesOf': WHATEVER THE INPUT: true; the input reads as it did. -/
def fnExactPassesOfSpec : ChangeSpec := { name := "fnExactPassesOf", fn := fun _ => fun
  | [d] => { results := [.lit (.bool true)], args := [d] }
  | _ => none }
def fnExactPassesOfRow : OpenClaim := { program := "ytochafekbncbaaa", sum := "ceae539f9042707141de25e0a9d213c48c97e5efe2deddcac3a55c9f96350f5d", func := "loop.example/g00856/laws.FnExactPassesOf", spec := "fnExactPassesOf", unfollowed := true, recurses := true, apart := false }
def FnExactPassesOfSaid : Prop := fnExactPassesOfRow.holds Try.pinned (OpenSpec.ofChange fnExactPassesOfSpec)

/-- ITS FALSE NEIGHBOUR: 'it returns false'. Refute it at one input. -/
def fnExactPassesOfWrong : ChangeSpec := { name := "fnExactPassesOf", fn := fun _ => fun
  | [d] => { results := [.lit (.bool false)], args := [d] }
  | _ => none }
def FnExactPassesOfWrongFalsely : Prop := fnExactPassesOfRow.holds Try.pinned (OpenSpec.ofChange fnExactPassesOfWrong)

/-- 'laws.FnExactCountPasses': WHATEVER THE INPUT: true; the input reads as it did. -/
def fnExactCountPassesSpec : ChangeSpec := { name := "fnExactCountPasses", fn := fun _ => fun
  | [d] => { results := [.lit (.bool true)], args := [d] }
  | _ => none }
def fnExactCountPassesRow : OpenClaim := { program := "ytochafekbncbaaa", sum := "ceae539f9042707141de25e0a9d213c48c97e5efe2deddcac3a55c9f96350f5d", func := "loop.example/g00856/laws.FnExactCountPasses", spec := "fnExactCountPasses", unfollowed := true, recurses := true, apart := false }
def FnExactCountPassesSaid : Prop := fnExactCountPassesRow.holds Try.pinned (OpenSpec.ofChange fnExactCountPassesSpec)

/-- ITS FALSE NEIGHBOUR: 'it returns false'. Refute it at one input. -/
def fnExactCountPassesWrong : ChangeSpec := { name := "fnExactCountPasses", fn := fun _ => fun
  | [d] => { results := [.lit (.bool false)], args := [d] }
  | _ => none }
def FnExactCountPassesWrongFalsely : Prop := fnExactCountPassesRow.holds Try.pinned (OpenSpec.ofChange fnExactCountPassesWrong)

/-- 'laws.FnExactReturnsOf': WHATEVER THE INPUT: true; the input reads as it did. -/
def fnExactReturnsOfSpec : ChangeSpec := { name := "fnExactReturnsOf", fn := fun _ => fun
  | [d] => { results := [.lit (.bool true)], args := [d] }
  | _ => none }
def fnExactReturnsOfRow : OpenClaim := { program := "ytochafekbncbaaa", sum := "ceae539f9042707141de25e0a9d213c48c97e5efe2deddcac3a55c9f96350f5d", func := "loop.example/g00856/laws.FnExactReturnsOf", spec := "fnExactReturnsOf", unfollowed := true, recurses := true, apart := false }
def FnExactReturnsOfSaid : Prop := fnExactReturnsOfRow.holds Try.pinned (OpenSpec.ofChange fnExactReturnsOfSpec)

/-- ITS FALSE NEIGHBOUR: 'it returns false'. Refute it at one input. -/
def fnExactReturnsOfWrong : ChangeSpec := { name := "fnExactReturnsOf", fn := fun _ => fun
  | [d] => { results := [.lit (.bool false)], args := [d] }
  | _ => none }
def FnExactReturnsOfWrongFalsely : Prop := fnExactReturnsOfRow.holds Try.pinned (OpenSpec.ofChange fnExactReturnsOfWrong)

/-- 'laws.FnExactCarriersUsed': WHATEVER THE INPUT: true; the input reads as it did. -/
def fnExactCarriersUsedSpec : ChangeSpec := { name := "fnExactCarriersUsed", fn := fun _ => fun
  | [d] => { results := [.lit (.bool true)], args := [d] }
  | _ => none }
def fnExactCarriersUsedRow : OpenClaim := { program := "ytochafekbncbaaa", sum := "ceae539f9042707141de25e0a9d213c48c97e5efe2deddcac3a55c9f96350f5d", func := "loop.example/g00856/laws.FnExactCarriersUsed", spec := "fnExactCarriersUsed", unfollowed := true, recurses := true, apart := false }
def FnExactCarriersUsedSaid : Prop := fnExactCarriersUsedRow.holds Try.pinned (OpenSpec.ofChange fnExactCarriersUsedSpec)

/-- ITS FALSE NEIGHBOUR: 'it returns false'. Refute it at one input. -/
def fnExactCarriersUsedWrong : ChangeSpec := { name := "fnExactCarriersUsed", fn := fun _ => fun
  | [d] => { results := [.lit (.bool false)], args := [d] }
  | _ => none }
def FnExactCarriersUsedWrongFalsely : Prop := fnExactCarriersUsedRow.holds Try.pinned (OpenSpec.ofChange fnExactCarriersUsedWrong)

/-- 'laws.FnExactSpanOf': WHATEVER THE INPUT: true; the input reads as it did. -/
def fnExactSpanOfSpec : ChangeSpec := { name := "fnExactSpanOf", fn := fun _ => fun
  | [d1, d2] => { results := [.lit (.bool true)], args := [d1, d2] }
  | _ => none }
def fnExactSpanOfRow : OpenClaim := { program := "ytochafekbncbaaa", sum := "ceae539f9042707141de25e0a9d213c48c97e5efe2deddcac3a55c9f96350f5d", func := "loop.example/g00856/laws.FnExactSpanOf", spec := "fnExactSpanOf", unfollowed := true, recurses := true, apart := false }
def FnExactSpanOfSaid : Prop := fnExactSpanOfRow.holds Try.pinned (OpenSpec.ofChange fnExactSpanOfSpec)

/-- ITS FALSE NEIGHBOUR: 'it returns false'. Refute it at one input. -/
def fnExactSpanOfWrong : ChangeSpec := { name := "fnExactSpanOf", fn := fun _ => fun
  | [d1, d2] => { results := [.lit (.bool false)], args := [d1, d2] }
  | _ => none }
def FnExactSpanOfWrongFalsely : Prop := fnExactSpanOfRow.holds Try.pinned (OpenSpec.ofChange fnExactSpanOfWrong)

/- THE SECOND FORM. 'bulk': how many values and letters a reading holds, each counted each time it is reached (what is shared counts as often as it is met; a slice's spare places count too). A statement '..UptoSaid' is the law's where the arguments, and the package variables that the reading takes, are together of bulk at most 1048576: NARROWER than '..Said'. Prove '..Said' where nothing that the law and all that it calls make is longer than what came in: it says more and counts as full. Else prove '..UptoSaid'. A law counts once. -/
mutual
def uptoBulk {H : Type} : DataW H → Nat
  | .lit (.string bytes) => bytes.length + 1
  | .lit _ => 1
  | .nil => 1
  | .ptr d => uptoBulk d + 1
  | .slice elems spare => uptoBulkAll elems + uptoBulkAll spare + 1
  | .agg parts => uptoBulkAll parts + 1
  | .iface _ d => uptoBulk d + 1
  | .map entries => uptoBulkEntries entries + 1
  | .held _ => 1
def uptoBulkAll {H : Type} : List (DataW H) → Nat
  | [] => 0
  | d :: r => uptoBulk d + uptoBulkAll r
def uptoBulkEntries {H : Type} : List (Lit × DataW H) → Nat
  | [] => 0
  | x :: r => uptoBulkEntry x + uptoBulkEntries r
def uptoBulkEntry {H : Type} : Lit × DataW H → Nat
  | (.string bytes, d) => bytes.length + uptoBulk d + 1
  | (_, d) => uptoBulk d + 1
 end
def uptoSmall : (H : Type) → List (DataW H) → Bool := fun _ ds => decide (uptoBulkAll ds ≤ 1048576)
def OpenSpec.upto (s : _root_.Go.ChangeSpec) : _root_.Go.OpenSpec := { _root_.Go.OpenSpec.ofChange s with cond := some uptoSmall }

/-- 'laws.FnExactCrossingBraid', WHERE WHAT IT READS IS OF BULK AT MOST 1048576: true; the input reads as it did. -/
def fnExactCrossingBraidUptoRow : OpenClaim := { program := "ytochafekbncbaaa", sum := "ceae539f9042707141de25e0a9d213c48c97e5efe2deddcac3a55c9f96350f5d", func := "loop.example/g00856/laws.FnExactCrossingBraid", spec := "fnExactCrossingBraid", apart := false, narrowed := true }
def FnExactCrossingBraidUptoSaid : Prop := fnExactCrossingBraidUptoRow.holds Try.pinned (OpenSpec.upto fnExactCrossingBraidSpec)

/-- 'laws.FnExactValidMachine', WHERE WHAT IT READS IS OF BULK AT MOST 1048576: true; the input reads as it did. -/
def fnExactValidMachineUptoRow : OpenClaim := { program := "ytochafekbncbaaa", sum := "ceae539f9042707141de25e0a9d213c48c97e5efe2deddcac3a55c9f96350f5d", func := "loop.example/g00856/laws.FnExactValidMachine", spec := "fnExactValidMachine", unfollowed := true, recurses := true, apart := false, narrowed := true }
def FnExactValidMachineUptoSaid : Prop := fnExactValidMachineUptoRow.holds Try.pinned (OpenSpec.upto fnExactValidMachineSpec)

/-- 'laws.FnExactNewMachine', WHERE WHAT IT READS IS OF BULK AT MOST 1048576: true; the input reads as it did. -/
def fnExactNewMachineUptoRow : OpenClaim := { program := "ytochafekbncbaaa", sum := "ceae539f9042707141de25e0a9d213c48c97e5efe2deddcac3a55c9f96350f5d", func := "loop.example/g00856/laws.FnExactNewMachine", spec := "fnExactNewMachine", apart := false, narrowed := true }
def FnExactNewMachineUptoSaid : Prop := fnExactNewMachineUptoRow.holds Try.pinned (OpenSpec.upto fnExactNewMachineSpec)

/-- 'laws.FnExactLoopsOn', WHERE WHAT IT READS IS OF BULK AT MOST 1048576: true; the input reads as it did. -/
def fnExactLoopsOnUptoRow : OpenClaim := { program := "ytochafekbncbaaa", sum := "ceae539f9042707141de25e0a9d213c48c97e5efe2deddcac3a55c9f96350f5d", func := "loop.example/g00856/laws.FnExactLoopsOn", spec := "fnExactLoopsOn", unfollowed := true, recurses := true, apart := false, narrowed := true }
def FnExactLoopsOnUptoSaid : Prop := fnExactLoopsOnUptoRow.holds Try.pinned (OpenSpec.upto fnExactLoopsOnSpec)

/-- 'laws.FnExactPlaceOf', WHERE WHAT IT READS IS OF BULK AT MOST 1048576: true; the input reads as it did. -/
def fnExactPlaceOfUptoRow : OpenClaim := { program := "ytochafekbncbaaa", sum := "ceae539f9042707141de25e0a9d213c48c97e5efe2deddcac3a55c9f96350f5d", func := "loop.example/g00856/laws.FnExactPlaceOf", spec := "fnExactPlaceOf", unfollowed := true, recurses := true, apart := false, narrowed := true }
def FnExactPlaceOfUptoSaid : Prop := fnExactPlaceOfUptoRow.holds Try.pinned (OpenSpec.upto fnExactPlaceOfSpec)

/-- 'laws.FnExactFacingOf', WHERE WHAT IT READS IS OF BULK AT MOST 1048576: true; the input reads as it did. -/
def fnExactFacingOfUptoRow : OpenClaim := { program := "ytochafekbncbaaa", sum := "ceae539f9042707141de25e0a9d213c48c97e5efe2deddcac3a55c9f96350f5d", func := "loop.example/g00856/laws.FnExactFacingOf", spec := "fnExactFacingOf", unfollowed := true, recurses := true, apart := false, narrowed := true }
def FnExactFacingOfUptoSaid : Prop := fnExactFacingOfUptoRow.holds Try.pinned (OpenSpec.upto fnExactFacingOfSpec)

/-- 'laws.FnExactLiveLoops', WHERE WHAT IT READS IS OF BULK AT MOST 1048576: true; the input reads as it did. -/
def fnExactLiveLoopsUptoRow : OpenClaim := { program := "ytochafekbncbaaa", sum := "ceae539f9042707141de25e0a9d213c48c97e5efe2deddcac3a55c9f96350f5d", func := "loop.example/g00856/laws.FnExactLiveLoops", spec := "fnExactLiveLoops", unfollowed := true, recurses := true, apart := false, narrowed := true }
def FnExactLiveLoopsUptoSaid : Prop := fnExactLiveLoopsUptoRow.holds Try.pinned (OpenSpec.upto fnExactLiveLoopsSpec)

/-- 'laws.FnExactPassesOf', WHERE WHAT IT READS IS OF BULK AT MOST 1048576: true; the input reads as it did. -/
def fnExactPassesOfUptoRow : OpenClaim := { program := "ytochafekbncbaaa", sum := "ceae539f9042707141de25e0a9d213c48c97e5efe2deddcac3a55c9f96350f5d", func := "loop.example/g00856/laws.FnExactPassesOf", spec := "fnExactPassesOf", unfollowed := true, recurses := true, apart := false, narrowed := true }
def FnExactPassesOfUptoSaid : Prop := fnExactPassesOfUptoRow.holds Try.pinned (OpenSpec.upto fnExactPassesOfSpec)

/-- 'laws.FnExactCountPasses', WHERE WHAT IT READS IS OF BULK AT MOST 1048576: true; the input reads as it did. -/
def fnExactCountPassesUptoRow : OpenClaim := { program := "ytochafekbncbaaa", sum := "ceae539f9042707141de25e0a9d213c48c97e5efe2deddcac3a55c9f96350f5d", func := "loop.example/g00856/laws.FnExactCountPasses", spec := "fnExactCountPasses", unfollowed := true, recurses := true, apart := false, narrowed := true }
def FnExactCountPassesUptoSaid : Prop := fnExactCountPassesUptoRow.holds Try.pinned (OpenSpec.upto fnExactCountPassesSpec)

/-- 'laws.FnExactReturnsOf', WHERE WHAT IT READS IS OF BULK AT MOST 1048576: true; the input reads as it did. -/
def fnExactReturnsOfUptoRow : OpenClaim := { program := "ytochafekbncbaaa", sum := "ceae539f9042707141de25e0a9d213c48c97e5efe2deddcac3a55c9f96350f5d", func := "loop.example/g00856/laws.FnExactReturnsOf", spec := "fnExactReturnsOf", unfollowed := true, recurses := true, apart := false, narrowed := true }
def FnExactReturnsOfUptoSaid : Prop := fnExactReturnsOfUptoRow.holds Try.pinned (OpenSpec.upto fnExactReturnsOfSpec)

/-- 'laws.FnExactCarriersUsed', WHERE WHAT IT READS IS OF BULK AT MOST 1048576: true; the input reads as it did. -/
def fnExactCarriersUsedUptoRow : OpenClaim := { program := "ytochafekbncbaaa", sum := "ceae539f9042707141de25e0a9d213c48c97e5efe2deddcac3a55c9f96350f5d", func := "loop.example/g00856/laws.FnExactCarriersUsed", spec := "fnExactCarriersUsed", unfollowed := true, recurses := true, apart := false, narrowed := true }
def FnExactCarriersUsedUptoSaid : Prop := fnExactCarriersUsedUptoRow.holds Try.pinned (OpenSpec.upto fnExactCarriersUsedSpec)

/-- 'laws.FnExactSpanOf', WHERE WHAT IT READS IS OF BULK AT MOST 1048576: true; the input reads as it did. -/
def fnExactSpanOfUptoRow : OpenClaim := { program := "ytochafekbncbaaa", sum := "ceae539f9042707141de25e0a9d213c48c97e5efe2deddcac3a55c9f96350f5d", func := "loop.example/g00856/laws.FnExactSpanOf", spec := "fnExactSpanOf", unfollowed := true, recurses := true, apart := false, narrowed := true }
def FnExactSpanOfUptoSaid : Prop := fnExactSpanOfUptoRow.holds Try.pinned (OpenSpec.upto fnExactSpanOfSpec)

end Rows
end Go.Proofs.Ytochafekbncbaaa
