/-
  No cell of these rows narrows 'for every input' (looked for: loops, veiled, ifaces, maps, wideKeys, modest, calm, conditions, laid).
  DERIVED. THE GIVEN ROWS OF THIS SEAT. 10 by the template 'for every input the law returns true; each argument reads behind the call as it read before'; 0 by the template 'total and deterministic' (their statements: YtlhpipcmebmpdaaTotals.lean).
  GIVEN WITH THE SEED: the statements are not yours to turn. If you find one false, say at which input.
  Laid BY PROGRAM, IN A SANDBOX (cutbox-rows.mjs): the forced cells as the released guide's own fill.sh prints them over the translation 8211628d3dfd4e1d… (all of the seat's roots in one cut). By AI agents, Wed Nov 11 2026. No macro, syntax, notation, axiom, sorry.
-/
import Derived.Test.YtlhpipcmebmpdaaChecked
import GoSem.Claim
import GoSem.ClaimJoined
import GoSem.ClaimMapViews
import Derived.JoinedTies
import Derived.KernelRfl
namespace Go.Proofs.Ytlhpipcmebmpdaa
/- THE CELL 'sum', in the pinned program and in every row, IS THE sha256 OF THE DUMP (.gsa) THAT YtlhpipcmebmpdaaProg.lean LOADS. Nothing in Lean hashes anything: it is a label: what it is worth is what the hold of that sum in a sandbox is worth. -/
noncomputable def Try.pinned : Pinned := { name := "ytlhpipcmebmpdaa", sum := "8211628d3dfd4e1d86796db3100ba1ca544c2b196195f336c0844b6533ffb45a", checked := Try.checked }
namespace Rows
def none {H : Type} : Left H := { results := [], args := [] }

/-- 'laws.FnExactDoubleBraid': WHATEVER THE INPUT: true; the input reads as it did. -/
def fnExactDoubleBraidSpec : ChangeSpec := { name := "fnExactDoubleBraid", fn := fun _ => fun
  | [d1, d2] => { results := [.lit (.bool true)], args := [d1, d2] }
  | _ => none }
def fnExactDoubleBraidRow : OpenClaim := { program := "ytlhpipcmebmpdaa", sum := "8211628d3dfd4e1d86796db3100ba1ca544c2b196195f336c0844b6533ffb45a", func := "loop.example/g00856/laws.FnExactDoubleBraid", spec := "fnExactDoubleBraid", unfollowed := true, recurses := true, apart := false }
def FnExactDoubleBraidSaid : Prop := fnExactDoubleBraidRow.holds Try.pinned (OpenSpec.ofChange fnExactDoubleBraidSpec)

/-- ITS FALSE NEIGHBOUR: 'it returns false'. Refute it at one input. -/
def fnExactDoubleBraidWrong : ChangeSpec := { name := "fnExactDoubleBraid", fn := fun _ => fun
  | [d1, d2] => { results := [.lit (.bool false)], args := [d1, d2] }
  | _ => none }
def FnExactDoubleBraidWrongFalsely : Prop := fnExactDoubleBraidRow.holds Try.pinned (OpenSpec.ofChange fnExactDoubleBraidWrong)

/-- 'laws.FnExactNormalForm': WHATEVER THE INPUT: true; the input reads as it did. -/
def fnExactNormalFormSpec : ChangeSpec := { name := "fnExactNormalForm", fn := fun _ => fun
  | [d] => { results := [.lit (.bool true)], args := [d] }
  | _ => none }
def fnExactNormalFormRow : OpenClaim := { program := "ytlhpipcmebmpdaa", sum := "8211628d3dfd4e1d86796db3100ba1ca544c2b196195f336c0844b6533ffb45a", func := "loop.example/g00856/laws.FnExactNormalForm", spec := "fnExactNormalForm", unfollowed := true, recurses := true, apart := false }
def FnExactNormalFormSaid : Prop := fnExactNormalFormRow.holds Try.pinned (OpenSpec.ofChange fnExactNormalFormSpec)

/-- ITS FALSE NEIGHBOUR: 'it returns false'. Refute it at one input. -/
def fnExactNormalFormWrong : ChangeSpec := { name := "fnExactNormalForm", fn := fun _ => fun
  | [d] => { results := [.lit (.bool false)], args := [d] }
  | _ => none }
def FnExactNormalFormWrongFalsely : Prop := fnExactNormalFormRow.holds Try.pinned (OpenSpec.ofChange fnExactNormalFormWrong)

/-- 'laws.FnExactJoinNormals': WHATEVER THE INPUT: true; the input reads as it did. -/
def fnExactJoinNormalsSpec : ChangeSpec := { name := "fnExactJoinNormals", fn := fun _ => fun
  | [d1, d2] => { results := [.lit (.bool true)], args := [d1, d2] }
  | _ => none }
def fnExactJoinNormalsRow : OpenClaim := { program := "ytlhpipcmebmpdaa", sum := "8211628d3dfd4e1d86796db3100ba1ca544c2b196195f336c0844b6533ffb45a", func := "loop.example/g00856/laws.FnExactJoinNormals", spec := "fnExactJoinNormals", unfollowed := true, recurses := true, apart := false }
def FnExactJoinNormalsSaid : Prop := fnExactJoinNormalsRow.holds Try.pinned (OpenSpec.ofChange fnExactJoinNormalsSpec)

/-- ITS FALSE NEIGHBOUR: 'it returns false'. Refute it at one input. -/
def fnExactJoinNormalsWrong : ChangeSpec := { name := "fnExactJoinNormals", fn := fun _ => fun
  | [d1, d2] => { results := [.lit (.bool false)], args := [d1, d2] }
  | _ => none }
def FnExactJoinNormalsWrongFalsely : Prop := fnExactJoinNormalsRow.holds Try.pinned (OpenSpec.ofChange fnExactJoinNormalsWrong)

/-- 'laws.FnExactEqualBraids': WHATEVER THE INPUT: true; the input reads as it did. -/
def fnExactEqualBraidsSpec : ChangeSpec := { name := "fnExactEqualBraids", fn := fun _ => fun
  | [d1, d2] => { results := [.lit (.bool true)], args := [d1, d2] }
  | _ => none }
def fnExactEqualBraidsRow : OpenClaim := { program := "ytlhpipcmebmpdaa", sum := "8211628d3dfd4e1d86796db3100ba1ca544c2b196195f336c0844b6533ffb45a", func := "loop.example/g00856/laws.FnExactEqualBraids", spec := "fnExactEqualBraids", unfollowed := true, recurses := true, apart := false }
def FnExactEqualBraidsSaid : Prop := fnExactEqualBraidsRow.holds Try.pinned (OpenSpec.ofChange fnExactEqualBraidsSpec)

/-- ITS FALSE NEIGHBOUR: 'it returns false'. Refute it at one input. -/
def fnExactEqualBraidsWrong : ChangeSpec := { name := "fnExactEqualBraids", fn := fun _ => fun
  | [d1, d2] => { results := [.lit (.bool false)], args := [d1, d2] }
  | _ => none }
def FnExactEqualBraidsWrongFalsely : Prop := fnExactEqualBraidsRow.holds Try.pinned (OpenSpec.ofChange fnExactEqualBraidsWrong)

/-- 'laws.FnExactIsTrivial': WHATEVER THE INPUT: true; the input reads as it did. -/
def fnExactIsTrivialSpec : ChangeSpec := { name := "fnExactIsTrivial", fn := fun _ => fun
  | [d] => { results := [.lit (.bool true)], args := [d] }
  | _ => none }
def fnExactIsTrivialRow : OpenClaim := { program := "ytlhpipcmebmpdaa", sum := "8211628d3dfd4e1d86796db3100ba1ca544c2b196195f336c0844b6533ffb45a", func := "loop.example/g00856/laws.FnExactIsTrivial", spec := "fnExactIsTrivial", unfollowed := true, recurses := true, apart := false }
def FnExactIsTrivialSaid : Prop := fnExactIsTrivialRow.holds Try.pinned (OpenSpec.ofChange fnExactIsTrivialSpec)

/-- ITS FALSE NEIGHBOUR: 'it returns false'. Refute it at one input. -/
def fnExactIsTrivialWrong : ChangeSpec := { name := "fnExactIsTrivial", fn := fun _ => fun
  | [d] => { results := [.lit (.bool false)], args := [d] }
  | _ => none }
def FnExactIsTrivialWrongFalsely : Prop := fnExactIsTrivialRow.holds Try.pinned (OpenSpec.ofChange fnExactIsTrivialWrong)

/-- 'laws.FnExactValidEvents': WHATEVER THE INPUT: true; the input reads as it did. -/
def fnExactValidEventsSpec : ChangeSpec := { name := "fnExactValidEvents", fn := fun _ => fun
  | [d] => { results := [.lit (.bool true)], args := [d] }
  | _ => none }
def fnExactValidEventsRow : OpenClaim := { program := "ytlhpipcmebmpdaa", sum := "8211628d3dfd4e1d86796db3100ba1ca544c2b196195f336c0844b6533ffb45a", func := "loop.example/g00856/laws.FnExactValidEvents", spec := "fnExactValidEvents", apart := false }
def FnExactValidEventsSaid : Prop := fnExactValidEventsRow.holds Try.pinned (OpenSpec.ofChange fnExactValidEventsSpec)

/-- ITS FALSE NEIGHBOUR: 'it returns false'. Refute it at one input. -/
def fnExactValidEventsWrong : ChangeSpec := { name := "fnExactValidEvents", fn := fun _ => fun
  | [d] => { results := [.lit (.bool false)], args := [d] }
  | _ => none }
def FnExactValidEventsWrongFalsely : Prop := fnExactValidEventsRow.holds Try.pinned (OpenSpec.ofChange fnExactValidEventsWrong)

/-- 'laws.FnExactStrandsOf': WHATEVER THE INPUT: true; the input reads as it did. -/
def fnExactStrandsOfSpec : ChangeSpec := { name := "fnExactStrandsOf", fn := fun _ => fun
  | [d] => { results := [.lit (.bool true)], args := [d] }
  | _ => none }
def fnExactStrandsOfRow : OpenClaim := { program := "ytlhpipcmebmpdaa", sum := "8211628d3dfd4e1d86796db3100ba1ca544c2b196195f336c0844b6533ffb45a", func := "loop.example/g00856/laws.FnExactStrandsOf", spec := "fnExactStrandsOf", apart := false }
def FnExactStrandsOfSaid : Prop := fnExactStrandsOfRow.holds Try.pinned (OpenSpec.ofChange fnExactStrandsOfSpec)

/-- ITS FALSE NEIGHBOUR: 'it returns false'. Refute it at one input. -/
def fnExactStrandsOfWrong : ChangeSpec := { name := "fnExactStrandsOf", fn := fun _ => fun
  | [d] => { results := [.lit (.bool false)], args := [d] }
  | _ => none }
def FnExactStrandsOfWrongFalsely : Prop := fnExactStrandsOfRow.holds Try.pinned (OpenSpec.ofChange fnExactStrandsOfWrong)

/-- 'laws.FnExactCrossingBraid': WHATEVER THE INPUT: true; the input reads as it did. -/
def fnExactCrossingBraidSpec : ChangeSpec := { name := "fnExactCrossingBraid", fn := fun _ => fun
  | [d1, d2] => { results := [.lit (.bool true)], args := [d1, d2] }
  | _ => none }
def fnExactCrossingBraidRow : OpenClaim := { program := "ytlhpipcmebmpdaa", sum := "8211628d3dfd4e1d86796db3100ba1ca544c2b196195f336c0844b6533ffb45a", func := "loop.example/g00856/laws.FnExactCrossingBraid", spec := "fnExactCrossingBraid", unfollowed := true, recurses := true, apart := false }
def FnExactCrossingBraidSaid : Prop := fnExactCrossingBraidRow.holds Try.pinned (OpenSpec.ofChange fnExactCrossingBraidSpec)

/-- ITS FALSE NEIGHBOUR: 'it returns false'. Refute it at one input. -/
def fnExactCrossingBraidWrong : ChangeSpec := { name := "fnExactCrossingBraid", fn := fun _ => fun
  | [d1, d2] => { results := [.lit (.bool false)], args := [d1, d2] }
  | _ => none }
def FnExactCrossingBraidWrongFalsely : Prop := fnExactCrossingBraidRow.holds Try.pinned (OpenSpec.ofChange fnExactCrossingBraidWrong)

/-- 'laws.FnExactSameBlocks': WHATEVER THE INPUT: true; the input reads as it did. -/
def fnExactSameBlocksSpec : ChangeSpec := { name := "fnExactSameBlocks", fn := fun _ => fun
  | [d1, d2] => { results := [.lit (.bool true)], args := [d1, d2] }
  | _ => none }
def fnExactSameBlocksRow : OpenClaim := { program := "ytlhpipcmebmpdaa", sum := "8211628d3dfd4e1d86796db3100ba1ca544c2b196195f336c0844b6533ffb45a", func := "loop.example/g00856/laws.FnExactSameBlocks", spec := "fnExactSameBlocks", unfollowed := true, recurses := true, apart := false }
def FnExactSameBlocksSaid : Prop := fnExactSameBlocksRow.holds Try.pinned (OpenSpec.ofChange fnExactSameBlocksSpec)

/-- ITS FALSE NEIGHBOUR: 'it returns false'. Refute it at one input. -/
def fnExactSameBlocksWrong : ChangeSpec := { name := "fnExactSameBlocks", fn := fun _ => fun
  | [d1, d2] => { results := [.lit (.bool false)], args := [d1, d2] }
  | _ => none }
def FnExactSameBlocksWrongFalsely : Prop := fnExactSameBlocksRow.holds Try.pinned (OpenSpec.ofChange fnExactSameBlocksWrong)

/-- 'laws.FnExactMirrorEvents': WHATEVER THE INPUT: true; the input reads as it did. -/
def fnExactMirrorEventsSpec : ChangeSpec := { name := "fnExactMirrorEvents", fn := fun _ => fun
  | [d] => { results := [.lit (.bool true)], args := [d] }
  | _ => none }
def fnExactMirrorEventsRow : OpenClaim := { program := "ytlhpipcmebmpdaa", sum := "8211628d3dfd4e1d86796db3100ba1ca544c2b196195f336c0844b6533ffb45a", func := "loop.example/g00856/laws.FnExactMirrorEvents", spec := "fnExactMirrorEvents", apart := false }
def FnExactMirrorEventsSaid : Prop := fnExactMirrorEventsRow.holds Try.pinned (OpenSpec.ofChange fnExactMirrorEventsSpec)

/-- ITS FALSE NEIGHBOUR: 'it returns false'. Refute it at one input. -/
def fnExactMirrorEventsWrong : ChangeSpec := { name := "fnExactMirrorEvents", fn := fun _ => fun
  | [d] => { results := [.lit (.bool false)], args := [d] }
  | _ => none }
def FnExactMirrorEventsWrongFalsely : Prop := fnExactMirrorEventsRow.holds Try.pinned (OpenSpec.ofChange fnExactMirrorEventsWrong)

/- THE SECOND FORM. 'bulk': how many values and letters a reading holds, each counted each time it is reached (what is shared counts as often as it is met; a slice's spare places count too). A statement '..UptoSaid' is the law's where the arguments, and the package variables that the reading takes, are together of bulk at most 1048576: NARROWER than '..Said'. Prove '..Said' where nothing that the law and all that it calls make is longer than what came in: it says more and counts as full. Else prove '..UptoSaid'. A law counts once. -/
mutual
def uptoBulk {H : Type} : DataW H → Nat
  | .lit (.string bytes) => bytes.length + 1
  | .lit _ => 1
  | .nil => 1
  | .ptr d => uptoBulk d + 1
  | .slice elems spare => uptoBulkAll elems + uptoBulkAll spare + 1
  | .agg parts => uptoBulkAll parts + 1
  | .iface _ d => uptoBulk d + 1
  | .map entries => uptoBulkEntries entries + 1
  | .held _ => 1
def uptoBulkAll {H : Type} : List (DataW H) → Nat
  | [] => 0
  | d :: r => uptoBulk d + uptoBulkAll r
def uptoBulkEntries {H : Type} : List (Lit × DataW H) → Nat
  | [] => 0
  | x :: r => uptoBulkEntry x + uptoBulkEntries r
def uptoBulkEntry {H : Type} : Lit × DataW H → Nat
  | (.string bytes, d) => bytes.length + uptoBulk d + 1
  | (_, d) => uptoBulk d + 1
 end
def uptoSmall : (H : Type) → List (DataW H) → Bool := fun _ ds => decide (uptoBulkAll ds ≤ 1048576)
def OpenSpec.upto (s : _root_.Go.ChangeSpec) : _root_.Go.OpenSpec := { _root_.Go.OpenSpec.ofChange s with cond := some uptoSmall }

/-- 'laws.FnExactDoubleBraid', WHERE WHAT IT READS IS OF BULK AT MOST 1048576: true; the input reads as it did. -/
def fnExactDoubleBraidUptoRow : OpenClaim := { program := "ytlhpipcmebmpdaa", sum := "8211628d3dfd4e1d86796db3100ba1ca544c2b196195f336c0844b6533ffb45a", func := "loop.example/g00856/laws.FnExactDoubleBraid", spec := "fnExactDoubleBraid", unfollowed := true, recurses := true, apart := false, narrowed := true }
def FnExactDoubleBraidUptoSaid : Prop := fnExactDoubleBraidUptoRow.holds Try.pinned (OpenSpec.upto fnExactDoubleBraidSpec)

/-- 'laws.FnExactNormalForm', WHERE WHAT IT READS IS OF BULK AT MOST 1048576: true; the input reads as it did. -/
def fnExactNormalFormUptoRow : OpenClaim := { program := "ytlhpipcmebmpdaa", sum := "8211628d3dfd4e1d86796db3100ba1ca544c2b196195f336c0844b6533ffb45a", func := "loop.example/g00856/laws.FnExactNormalForm", spec := "fnExactNormalForm", unfollowed := true, recurses := true, apart := false, narrowed := true }
def FnExactNormalFormUptoSaid : Prop := fnExactNormalFormUptoRow.holds Try.pinned (OpenSpec.upto fnExactNormalFormSpec)

/-- 'laws.FnExactJoinNormals', WHERE WHAT IT READS IS OF BULK AT MOST 1048576: true; the input reads as it did. -/
def fnExactJoinNormalsUptoRow : OpenClaim := { program := "ytlhpipcmebmpdaa", sum := "8211628d3dfd4e1d86796db3100ba1ca544c2b196195f336c0844b6533ffb45a", func := "loop.example/g00856/laws.FnExactJoinNormals", spec := "fnExactJoinNormals", unfollowed := true, recurses := true, apart := false, narrowed := true }
def FnExactJoinNormalsUptoSaid : Prop := fnExactJoinNormalsUptoRow.holds Try.pinned (OpenSpec.upto fnExactJoinNormalsSpec)

/-- 'laws.FnExactEqualBraids', WHERE WHAT IT READS IS OF BULK AT MOST 1048576: true; the input reads as it did. -/
def fnExactEqualBraidsUptoRow : OpenClaim := { program := "ytlhpipcmebmpdaa", sum := "8211628d3dfd4e1d86796db3100ba1ca544c2b196195f336c0844b6533ffb45a", func := "loop.example/g00856/laws.FnExactEqualBraids", spec := "fnExactEqualBraids", unfollowed := true, recurses := true, apart := false, narrowed := true }
def FnExactEqualBraidsUptoSaid : Prop := fnExactEqualBraidsUptoRow.holds Try.pinned (OpenSpec.upto fnExactEqualBraidsSpec)

/-- 'laws.FnExactIsTrivial', WHERE WHAT IT READS IS OF BULK AT MOST 1048576: true; the input reads as it did. -/
def fnExactIsTrivialUptoRow : OpenClaim := { program := "ytlhpipcmebmpdaa", sum := "8211628d3dfd4e1d86796db3100ba1ca544c2b196195f336c0844b6533ffb45a", func := "loop.example/g00856/laws.FnExactIsTrivial", spec := "fnExactIsTrivial", unfollowed := true, recurses := true, apart := false, narrowed := true }
def FnExactIsTrivialUptoSaid : Prop := fnExactIsTrivialUptoRow.holds Try.pinned (OpenSpec.upto fnExactIsTrivialSpec)

/-- 'laws.FnExactValidEvents', WHERE WHAT IT READS IS OF BULK AT MOST 1048576: true; the input reads as it did. -/
def fnExactValidEventsUptoRow : OpenClaim := { program := "ytlhpipcmebmpdaa", sum := "8211628d3dfd4e1d86796db3100ba1ca544c2b196195f336c0844b6533ffb45a", func := "loop.example/g00856/laws.FnExactValidEvents", spec := "fnExactValidEvents", apart := false, narrowed := true }
def FnExactValidEventsUptoSaid : Prop := fnExactValidEventsUptoRow.holds Try.pinned (OpenSpec.upto fnExactValidEventsSpec)

/-- 'laws.FnExactStrandsOf', WHERE WHAT IT READS IS OF BULK AT MOST 1048576: true; the input reads as it did. -/
def fnExactStrandsOfUptoRow : OpenClaim := { program := "ytlhpipcmebmpdaa", sum := "8211628d3dfd4e1d86796db3100ba1ca544c2b196195f336c0844b6533ffb45a", func := "loop.example/g00856/laws.FnExactStrandsOf", spec := "fnExactStrandsOf", apart := false, narrowed := true }
def FnExactStrandsOfUptoSaid : Prop := fnExactStrandsOfUptoRow.holds Try.pinned (OpenSpec.upto fnExactStrandsOfSpec)

/-- 'laws.FnExactCrossingBraid', WHERE WHAT IT READS IS OF BULK AT MOST 1048576: true; the input reads as it did. -/
def fnExactCrossingBraidUptoRow : OpenClaim := { program := "ytlhpipcmebmpdaa", sum := "8211628d3dfd4e1d86796db3100ba1ca544c2b196195f336c0844b6533ffb45a", func := "loop.example/g00856/laws.FnExactCrossingBraid", spec := "fnExactCrossingBraid", unfollowed := true, recurses := true, apart := false, narrowed := true }
def FnExactCrossingBraidUptoSaid : Prop := fnExactCrossingBraidUptoRow.holds Try.pinned (OpenSpec.upto fnExactCrossingBraidSpec)

/-- 'laws.FnExactSameBlocks', WHERE WHAT IT READS IS OF BULK AT MOST 1048576: true; the input reads as it did. -/
def fnExactSameBlocksUptoRow : OpenClaim := { program := "ytlhpipcmebmpdaa", sum := "8211628d3dfd4e1d86796db3100ba1ca544c2b196195f336c0844b6533ffb45a", func := "loop.example/g00856/laws.FnExactSameBlocks", spec := "fnExactSameBlocks", unfollowed := true, recurses := true, apart := false, narrowed := true }
def FnExactSameBlocksUptoSaid : Prop := fnExactSameBlocksUptoRow.holds Try.pinned (OpenSpec.upto fnExactSameBlocksSpec)

/-- 'laws.FnExactMirrorEvents', WHERE WHAT IT READS IS OF BULK AT MOST 1048576: true; the input reads as it did. -/
def fnExactMirrorEventsUptoRow : OpenClaim := { program := "ytlhpipcmebmpdaa", sum := "8211628d3dfd4e1d86796db3100ba1ca544c2b196195f336c0844b6533ffb45a", func := "loop.example/g00856/laws.FnExactMirrorEvents", spec := "fnExactMirrorEvents", apart := false, narrowed := true }
def FnExactMirrorEventsUptoSaid : Prop := fnExactMirrorEventsUptoRow.holds Try.pinned (OpenSpec.upto fnExactMirrorEventsSpec)

end Rows
end Go.Proofs.Ytlhpipcmebmpdaa
