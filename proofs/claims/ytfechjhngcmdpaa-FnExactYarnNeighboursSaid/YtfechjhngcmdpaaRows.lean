/-
  No cell of these rows narrows 'for every input' (looked for: loops, veiled, ifaces, maps, wideKeys, modest, calm, conditions, laid).
  DERIVED. THE GIVEN ROWS OF THIS SEAT. 8 by the template 'for every input the law returns true; each argument reads behind the call as it read before'; 0 by the template 'total and deterministic' (their statements: YtfechjhngcmdpaaTotals.lean).
  GIVEN WITH THE SEED: the statements are not yours to turn. If you find one false, say at which input.
  Laid BY PROGRAM, IN A SANDBOX (cutbox-rows.mjs): the forced cells as the released guide's own fill.sh prints them over the translation 49ade4257469a130… (all of the seat's roots in one cut). By AI agents, Wed Nov 11 2026. No macro, syntax, notation, axiom, sorry.
-/
import Derived.Test.YtfechjhngcmdpaaChecked
import GoSem.Claim
import GoSem.ClaimJoined
import GoSem.ClaimMapViews
import Derived.JoinedTies
import Derived.KernelRfl
namespace Go.Proofs.Ytfechjhngcmdpaa
/- THE CELL 'sum', in the pinned program and in every row, IS THE sha256 OF THE DUMP (.gsa) THAT YtfechjhngcmdpaaProg.lean LOADS. Nothing in Lean hashes anything: it is a label: what it is worth is what the hold of that sum in a sandbox is worth. -/
noncomputable def Try.pinned : Pinned := { name := "ytfechjhngcmdpaa", sum := "49ade4257469a130b14be7bef70879358b7640b97ec65b92d1c9699bf187382c", checked := Try.checked }
namespace Rows
def none {H : Type} : Left H := { results := [], args := [] }

/-- 'laws.FnExactFacingOf': WHATEVER THE INPUT: true; the input reads as it did. -/
def fnExactFacingOfSpec : ChangeSpec := { name := "fnExactFacingOf", fn := fun _ => fun
  | [d1, d2] => { results := [.lit (.bool true)], args := [d1, d2] }
  | _ => none }
def fnExactFacingOfRow : OpenClaim := { program := "ytfechjhngcmdpaa", sum := "49ade4257469a130b14be7bef70879358b7640b97ec65b92d1c9699bf187382c", func := "loop.example/g00856/laws.FnExactFacingOf", spec := "fnExactFacingOf", unfollowed := true, recurses := true, apart := false }
def FnExactFacingOfSaid : Prop := fnExactFacingOfRow.holds Try.pinned (OpenSpec.ofChange fnExactFacingOfSpec)

/-- ITS FALSE NEIGHBOUR: 'it returns false'. Refute it at one input. -/
def fnExactFacingOfWrong : ChangeSpec := { name := "fnExactFacingOf", fn := fun _ => fun
  | [d1, d2] => { results := [.lit (.bool false)], args := [d1, d2] }
  | _ => none }
def FnExactFacingOfWrongFalsely : Prop := fnExactFacingOfRow.holds Try.pinned (OpenSpec.ofChange fnExactFacingOfWrong)

/-- 'laws.FnExactLoopsOn': WHATEVER THE INPUT: true; the input reads as it did. -/
def fnExactLoopsOnSpec : ChangeSpec := { name := "fnExactLoopsOn", fn := fun _ => fun
  | [d1, d2] => { results := [.lit (.bool true)], args := [d1, d2] }
  | _ => none }
def fnExactLoopsOnRow : OpenClaim := { program := "ytfechjhngcmdpaa", sum := "49ade4257469a130b14be7bef70879358b7640b97ec65b92d1c9699bf187382c", func := "loop.example/g00856/laws.FnExactLoopsOn", spec := "fnExactLoopsOn", unfollowed := true, recurses := true, apart := false }
def FnExactLoopsOnSaid : Prop := fnExactLoopsOnRow.holds Try.pinned (OpenSpec.ofChange fnExactLoopsOnSpec)

/-- ITS FALSE NEIGHBOUR: 'it returns false'. Refute it at one input. -/
def fnExactLoopsOnWrong : ChangeSpec := { name := "fnExactLoopsOn", fn := fun _ => fun
  | [d1, d2] => { results := [.lit (.bool false)], args := [d1, d2] }
  | _ => none }
def FnExactLoopsOnWrongFalsely : Prop := fnExactLoopsOnRow.holds Try.pinned (OpenSpec.ofChange fnExactLoopsOnWrong)

/-- 'laws.FnExactLiveLoops': WHATEVER THE INPUT: true; the input reads as it did. -/
def fnExactLiveLoopsSpec : ChangeSpec := { name := "fnExactLiveLoops", fn := fun _ => fun
  | [d] => { results := [.lit (.bool true)], args := [d] }
  | _ => none }
def fnExactLiveLoopsRow : OpenClaim := { program := "ytfechjhngcmdpaa", sum := "49ade4257469a130b14be7bef70879358b7640b97ec65b92d1c9699bf187382c", func := "loop.example/g00856/laws.FnExactLiveLoops", spec := "fnExactLiveLoops", unfollowed := true, recurses := true, apart := false }
def FnExactLiveLoopsSaid : Prop := fnExactLiveLoopsRow.holds Try.pinned (OpenSpec.ofChange fnExactLiveLoopsSpec)

/-- ITS FALSE NEIGHBOUR: 'it returns false'. Refute it at one input. -/
def fnExactLiveLoopsWrong : ChangeSpec := { name := "fnExactLiveLoops", fn := fun _ => fun
  | [d] => { results := [.lit (.bool false)], args := [d] }
  | _ => none }
def FnExactLiveLoopsWrongFalsely : Prop := fnExactLiveLoopsRow.holds Try.pinned (OpenSpec.ofChange fnExactLiveLoopsWrong)

/-- 'laws.FnExactLoopState': WHATEVER THE INPUT: true; the input reads as it did. -/
def fnExactLoopStateSpec : ChangeSpec := { name := "fnExactLoopState", fn := fun _ => fun
  | [d1, d2] => { results := [.lit (.bool true)], args := [d1, d2] }
  | _ => none }
def fnExactLoopStateRow : OpenClaim := { program := "ytfechjhngcmdpaa", sum := "49ade4257469a130b14be7bef70879358b7640b97ec65b92d1c9699bf187382c", func := "loop.example/g00856/laws.FnExactLoopState", spec := "fnExactLoopState", unfollowed := true, recurses := true, apart := false }
def FnExactLoopStateSaid : Prop := fnExactLoopStateRow.holds Try.pinned (OpenSpec.ofChange fnExactLoopStateSpec)

/-- ITS FALSE NEIGHBOUR: 'it returns false'. Refute it at one input. -/
def fnExactLoopStateWrong : ChangeSpec := { name := "fnExactLoopState", fn := fun _ => fun
  | [d1, d2] => { results := [.lit (.bool false)], args := [d1, d2] }
  | _ => none }
def FnExactLoopStateWrongFalsely : Prop := fnExactLoopStateRow.holds Try.pinned (OpenSpec.ofChange fnExactLoopStateWrong)

/-- 'laws.FnExactYarnOf': WHATEVER THE INPUT: true; the input reads as it did. -/
def fnExactYarnOfSpec : ChangeSpec := { name := "fnExactYarnOf", fn := fun _ => fun
  | [d1, d2] => { results := [.lit (.bool true)], args := [d1, d2] }
  | _ => none }
def fnExactYarnOfRow : OpenClaim := { program := "ytfechjhngcmdpaa", sum := "49ade4257469a130b14be7bef70879358b7640b97ec65b92d1c9699bf187382c", func := "loop.example/g00856/laws.FnExactYarnOf", spec := "fnExactYarnOf", unfollowed := true, recurses := true, apart := false }
def FnExactYarnOfSaid : Prop := fnExactYarnOfRow.holds Try.pinned (OpenSpec.ofChange fnExactYarnOfSpec)

/-- ITS FALSE NEIGHBOUR: 'it returns false'. Refute it at one input. -/
def fnExactYarnOfWrong : ChangeSpec := { name := "fnExactYarnOf", fn := fun _ => fun
  | [d1, d2] => { results := [.lit (.bool false)], args := [d1, d2] }
  | _ => none }
def FnExactYarnOfWrongFalsely : Prop := fnExactYarnOfRow.holds Try.pinned (OpenSpec.ofChange fnExactYarnOfWrong)

/-- 'laws.FnExactYarnNeighbours': WHATEVER THE INPUT: true; the input reads as it did. -/
def fnExactYarnNeighboursSpec : ChangeSpec := { name := "fnExactYarnNeighbours", fn := fun _ => fun
  | [d1, d2] => { results := [.lit (.bool true)], args := [d1, d2] }
  | _ => none }
def fnExactYarnNeighboursRow : OpenClaim := { program := "ytfechjhngcmdpaa", sum := "49ade4257469a130b14be7bef70879358b7640b97ec65b92d1c9699bf187382c", func := "loop.example/g00856/laws.FnExactYarnNeighbours", spec := "fnExactYarnNeighbours", unfollowed := true, recurses := true, apart := false }
def FnExactYarnNeighboursSaid : Prop := fnExactYarnNeighboursRow.holds Try.pinned (OpenSpec.ofChange fnExactYarnNeighboursSpec)

/-- ITS FALSE NEIGHBOUR: 'it returns false'. Refute it at one input. -/
def fnExactYarnNeighboursWrong : ChangeSpec := { name := "fnExactYarnNeighbours", fn := fun _ => fun
  | [d1, d2] => { results := [.lit (.bool false)], args := [d1, d2] }
  | _ => none }
def FnExactYarnNeighboursWrongFalsely : Prop := fnExactYarnNeighboursRow.holds Try.pinned (OpenSpec.ofChange fnExactYarnNeighboursWrong)

/-- 'laws.FnExactChildrenOf': WHATEVER THE INPUT: true; the input reads as it did. -/
def fnExactChildrenOfSpec : ChangeSpec := { name := "fnExactChildrenOf", fn := fun _ => fun
  | [d1, d2] => { results := [.lit (.bool true)], args := [d1, d2] }
  | _ => none }
def fnExactChildrenOfRow : OpenClaim := { program := "ytfechjhngcmdpaa", sum := "49ade4257469a130b14be7bef70879358b7640b97ec65b92d1c9699bf187382c", func := "loop.example/g00856/laws.FnExactChildrenOf", spec := "fnExactChildrenOf", unfollowed := true, recurses := true, apart := false }
def FnExactChildrenOfSaid : Prop := fnExactChildrenOfRow.holds Try.pinned (OpenSpec.ofChange fnExactChildrenOfSpec)

/-- ITS FALSE NEIGHBOUR: 'it returns false'. Refute it at one input. -/
def fnExactChildrenOfWrong : ChangeSpec := { name := "fnExactChildrenOf", fn := fun _ => fun
  | [d1, d2] => { results := [.lit (.bool false)], args := [d1, d2] }
  | _ => none }
def FnExactChildrenOfWrongFalsely : Prop := fnExactChildrenOfRow.holds Try.pinned (OpenSpec.ofChange fnExactChildrenOfWrong)

/-- 'laws.FnExactWaleOf': WHATEVER THE INPUT: true; the input reads as it did. -/
def fnExactWaleOfSpec : ChangeSpec := { name := "fnExactWaleOf", fn := fun _ => fun
  | [d1, d2] => { results := [.lit (.bool true)], args := [d1, d2] }
  | _ => none }
def fnExactWaleOfRow : OpenClaim := { program := "ytfechjhngcmdpaa", sum := "49ade4257469a130b14be7bef70879358b7640b97ec65b92d1c9699bf187382c", func := "loop.example/g00856/laws.FnExactWaleOf", spec := "fnExactWaleOf", unfollowed := true, recurses := true, apart := false }
def FnExactWaleOfSaid : Prop := fnExactWaleOfRow.holds Try.pinned (OpenSpec.ofChange fnExactWaleOfSpec)

/-- ITS FALSE NEIGHBOUR: 'it returns false'. Refute it at one input. -/
def fnExactWaleOfWrong : ChangeSpec := { name := "fnExactWaleOf", fn := fun _ => fun
  | [d1, d2] => { results := [.lit (.bool false)], args := [d1, d2] }
  | _ => none }
def FnExactWaleOfWrongFalsely : Prop := fnExactWaleOfRow.holds Try.pinned (OpenSpec.ofChange fnExactWaleOfWrong)

/- THE SECOND FORM. 'bulk': how many values and letters a reading holds, each counted each time it is reached (what is shared counts as often as it is met; a slice's spare places count too). A statement '..UptoSaid' is the law's where the arguments, and the package variables that the reading takes, are together of bulk at most 1048576: NARROWER than '..Said'. Prove '..Said' where nothing that the law and all that it calls make is longer than what came in: it says more and counts as full. Else prove '..UptoSaid'. A law counts once. -/
mutual
def uptoBulk {H : Type} : DataW H → Nat
  | .lit (.string bytes) => bytes.length + 1
  | .lit _ => 1
  | .nil => 1
  | .ptr d => uptoBulk d + 1
  | .slice elems spare => uptoBulkAll elems + uptoBulkAll spare + 1
  | .agg parts => uptoBulkAll parts + 1
  | .iface _ d => uptoBulk d + 1
  | .map entries => uptoBulkEntries entries + 1
  | .held _ => 1
def uptoBulkAll {H : Type} : List (DataW H) → Nat
  | [] => 0
  | d :: r => uptoBulk d + uptoBulkAll r
def uptoBulkEntries {H : Type} : List (Lit × DataW H) → Nat
  | [] => 0
  | x :: r => uptoBulkEntry x + uptoBulkEntries r
def uptoBulkEntry {H : Type} : Lit × DataW H → Nat
  | (.string bytes, d) => bytes.length + uptoBulk d + 1
  | (_, d) => uptoBulk d + 1
 end
def uptoSmall : (H : Type) → List (DataW H) → Bool := fun _ ds => decide (uptoBulkAll ds ≤ 1048576)
def OpenSpec.upto (s : _root_.Go.ChangeSpec) : _root_.Go.OpenSpec := { _root_.Go.OpenSpec.ofChange s with cond := some uptoSmall }

/-- 'laws.FnExactFacingOf', WHERE WHAT IT READS IS OF BULK AT MOST 1048576: true; the input reads as it did. -/
def fnExactFacingOfUptoRow : OpenClaim := { program := "ytfechjhngcmdpaa", sum := "49ade4257469a130b14be7bef70879358b7640b97ec65b92d1c9699bf187382c", func := "loop.example/g00856/laws.FnExactFacingOf", spec := "fnExactFacingOf", unfollowed := true, recurses := true, apart := false, narrowed := true }
def FnExactFacingOfUptoSaid : Prop := fnExactFacingOfUptoRow.holds Try.pinned (OpenSpec.upto fnExactFacingOfSpec)

/-- 'laws.FnExactLoopsOn', WHERE WHAT IT READS IS OF BULK AT MOST 1048576: true; the input reads as it did. -/
def fnExactLoopsOnUptoRow : OpenClaim := { program := "ytfechjhngcmdpaa", sum := "49ade4257469a130b14be7bef70879358b7640b97ec65b92d1c9699bf187382c", func := "loop.example/g00856/laws.FnExactLoopsOn", spec := "fnExactLoopsOn", unfollowed := true, recurses := true, apart := false, narrowed := true }
def FnExactLoopsOnUptoSaid : Prop := fnExactLoopsOnUptoRow.holds Try.pinned (OpenSpec.upto fnExactLoopsOnSpec)

/-- 'laws.FnExactLiveLoops', WHERE WHAT IT READS IS OF BULK AT MOST 1048576: true; the input reads as it did. -/
def fnExactLiveLoopsUptoRow : OpenClaim := { program := "ytfechjhngcmdpaa", sum := "49ade4257469a130b14be7bef70879358b7640b97ec65b92d1c9699bf187382c", func := "loop.example/g00856/laws.FnExactLiveLoops", spec := "fnExactLiveLoops", unfollowed := true, recurses := true, apart := false, narrowed := true }
def FnExactLiveLoopsUptoSaid : Prop := fnExactLiveLoopsUptoRow.holds Try.pinned (OpenSpec.upto fnExactLiveLoopsSpec)

/-- 'laws.FnExactLoopState', WHERE WHAT IT READS IS OF BULK AT MOST 1048576: true; the input reads as it did. -/
def fnExactLoopStateUptoRow : OpenClaim := { program := "ytfechjhngcmdpaa", sum := "49ade4257469a130b14be7bef70879358b7640b97ec65b92d1c9699bf187382c", func := "loop.example/g00856/laws.FnExactLoopState", spec := "fnExactLoopState", unfollowed := true, recurses := true, apart := false, narrowed := true }
def FnExactLoopStateUptoSaid : Prop := fnExactLoopStateUptoRow.holds Try.pinned (OpenSpec.upto fnExactLoopStateSpec)

/-- 'laws.FnExactYarnOf', WHERE WHAT IT READS IS OF BULK AT MOST 1048576: true; the input reads as it did. -/
def fnExactYarnOfUptoRow : OpenClaim := { program := "ytfechjhngcmdpaa", sum := "49ade4257469a130b14be7bef70879358b7640b97ec65b92d1c9699bf187382c", func := "loop.example/g00856/laws.FnExactYarnOf", spec := "fnExactYarnOf", unfollowed := true, recurses := true, apart := false, narrowed := true }
def FnExactYarnOfUptoSaid : Prop := fnExactYarnOfUptoRow.holds Try.pinned (OpenSpec.upto fnExactYarnOfSpec)

/-- 'laws.FnExactYarnNeighbours', WHERE WHAT IT READS IS OF BULK AT MOST 1048576: true; the input reads as it did. -/
def fnExactYarnNeighboursUptoRow : OpenClaim := { program := "ytfechjhngcmdpaa", sum := "49ade4257469a130b14be7bef70879358b7640b97ec65b92d1c9699bf187382c", func := "loop.example/g00856/laws.FnExactYarnNeighbours", spec := "fnExactYarnNeighbours", unfollowed := true, recurses := true, apart := false, narrowed := true }
def FnExactYarnNeighboursUptoSaid : Prop := fnExactYarnNeighboursUptoRow.holds Try.pinned (OpenSpec.upto fnExactYarnNeighboursSpec)

/-- 'laws.FnExactChildrenOf', WHERE WHAT IT READS IS OF BULK AT MOST 1048576: true; the input reads as it did. -/
def fnExactChildrenOfUptoRow : OpenClaim := { program := "ytfechjhngcmdpaa", sum := "49ade4257469a130b14be7bef70879358b7640b97ec65b92d1c9699bf187382c", func := "loop.example/g00856/laws.FnExactChildrenOf", spec := "fnExactChildrenOf", unfollowed := true, recurses := true, apart := false, narrowed := true }
def FnExactChildrenOfUptoSaid : Prop := fnExactChildrenOfUptoRow.holds Try.pinned (OpenSpec.upto fnExactChildrenOfSpec)

/-- 'laws.FnExactWaleOf', WHERE WHAT IT READS IS OF BULK AT MOST 1048576: true; the input reads as it did. -/
def fnExactWaleOfUptoRow : OpenClaim := { program := "ytfechjhngcmdpaa", sum := "49ade4257469a130b14be7bef70879358b7640b97ec65b92d1c9699bf187382c", func := "loop.example/g00856/laws.FnExactWaleOf", spec := "fnExactWaleOf", unfollowed := true, recurses := true, apart := false, narrowed := true }
def FnExactWaleOfUptoSaid : Prop := fnExactWaleOfUptoRow.holds Try.pinned (OpenSpec.upto fnExactWaleOfSpec)

end Rows
end Go.Proofs.Ytfechjhngcmdpaa
