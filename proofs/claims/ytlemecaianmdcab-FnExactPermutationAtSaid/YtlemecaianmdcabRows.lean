/-
  No cell of these rows narrows 'for every input' (looked for: loops, veiled, ifaces, maps, wideKeys, modest, calm, conditions, laid).
  DERIVED. THE GIVEN ROWS OF THIS SEAT. 12 by the template 'for every input the law returns true; each argument reads behind the call as it read before'; 0 by the template 'total and deterministic' (their statements: YtlemecaianmdcabTotals.lean).
  GIVEN WITH THE SEED: the statements are not yours to turn. If you find one false, say at which input.
  Laid BY PROGRAM, IN A SANDBOX (cutbox-rows.mjs): the forced cells as the released guide's own fill.sh prints them over the translation 22c04ebc67868571… (all of the seat's roots in one cut). By AI agents, Wed Nov 11 2026. No macro, syntax, notation, axiom, sorry.
-/
import Derived.Test.YtlemecaianmdcabChecked
import GoSem.Claim
import GoSem.ClaimJoined
import GoSem.ClaimMapViews
import Derived.JoinedTies
import Derived.KernelRfl
namespace Go.Proofs.Ytlemecaianmdcab
/- THE CELL 'sum', in the pinned program and in every row, IS THE sha256 OF THE DUMP (.gsa) THAT YtlemecaianmdcabProg.lean LOADS. Nothing in Lean hashes anything: it is a label: what it is worth is what the hold of that sum in a sandbox is worth. -/
noncomputable def Try.pinned : Pinned := { name := "ytlemecaianmdcab", sum := "22c04ebc67868571a6165641254007f25132c3610c7e9072ebca729cb059832b", checked := Try.checked }
namespace Rows
def none {H : Type} : Left H := { results := [], args := [] }

/-- 'laws.FnExactValidPermutation': WHATEVER THE INPUT: true; the input reads as it did. -/
def fnExactValidPermutationSpec : ChangeSpec := { name := "fnExactValidPermutation", fn := fun _ => fun
  | [d] => { results := [.lit (.bool true)], args := [d] }
  | _ => none }
def fnExactValidPermutationRow : OpenClaim := { program := "ytlemecaianmdcab", sum := "22c04ebc67868571a6165641254007f25132c3610c7e9072ebca729cb059832b", func := "loop.example/g00856/laws.FnExactValidPermutation", spec := "fnExactValidPermutation", apart := false }
def FnExactValidPermutationSaid : Prop := fnExactValidPermutationRow.holds Try.pinned (OpenSpec.ofChange fnExactValidPermutationSpec)

/-- ITS FALSE NEIGHBOUR: 'it returns false'. Refute it at one input. -/
def fnExactValidPermutationWrong : ChangeSpec := { name := "fnExactValidPermutation", fn := fun _ => fun
  | [d] => { results := [.lit (.bool false)], args := [d] }
  | _ => none }
def FnExactValidPermutationWrongFalsely : Prop := fnExactValidPermutationRow.holds Try.pinned (OpenSpec.ofChange fnExactValidPermutationWrong)

/-- 'laws.FnExactIdentityPermutation': WHATEVER THE INPUT: true; the input reads as it did. -/
def fnExactIdentityPermutationSpec : ChangeSpec := { name := "fnExactIdentityPermutation", fn := fun _ => fun
  | [d] => { results := [.lit (.bool true)], args := [d] }
  | _ => none }
def fnExactIdentityPermutationRow : OpenClaim := { program := "ytlemecaianmdcab", sum := "22c04ebc67868571a6165641254007f25132c3610c7e9072ebca729cb059832b", func := "loop.example/g00856/laws.FnExactIdentityPermutation", spec := "fnExactIdentityPermutation", apart := false }
def FnExactIdentityPermutationSaid : Prop := fnExactIdentityPermutationRow.holds Try.pinned (OpenSpec.ofChange fnExactIdentityPermutationSpec)

/-- ITS FALSE NEIGHBOUR: 'it returns false'. Refute it at one input. -/
def fnExactIdentityPermutationWrong : ChangeSpec := { name := "fnExactIdentityPermutation", fn := fun _ => fun
  | [d] => { results := [.lit (.bool false)], args := [d] }
  | _ => none }
def FnExactIdentityPermutationWrongFalsely : Prop := fnExactIdentityPermutationRow.holds Try.pinned (OpenSpec.ofChange fnExactIdentityPermutationWrong)

/-- 'laws.FnExactComposePermutations': WHATEVER THE INPUT: true; the input reads as it did. -/
def fnExactComposePermutationsSpec : ChangeSpec := { name := "fnExactComposePermutations", fn := fun _ => fun
  | [d1, d2] => { results := [.lit (.bool true)], args := [d1, d2] }
  | _ => none }
def fnExactComposePermutationsRow : OpenClaim := { program := "ytlemecaianmdcab", sum := "22c04ebc67868571a6165641254007f25132c3610c7e9072ebca729cb059832b", func := "loop.example/g00856/laws.FnExactComposePermutations", spec := "fnExactComposePermutations", apart := false }
def FnExactComposePermutationsSaid : Prop := fnExactComposePermutationsRow.holds Try.pinned (OpenSpec.ofChange fnExactComposePermutationsSpec)

/-- ITS FALSE NEIGHBOUR: 'it returns false'. Refute it at one input. -/
def fnExactComposePermutationsWrong : ChangeSpec := { name := "fnExactComposePermutations", fn := fun _ => fun
  | [d1, d2] => { results := [.lit (.bool false)], args := [d1, d2] }
  | _ => none }
def FnExactComposePermutationsWrongFalsely : Prop := fnExactComposePermutationsRow.holds Try.pinned (OpenSpec.ofChange fnExactComposePermutationsWrong)

/-- 'laws.FnExactInvertPermutation': WHATEVER THE INPUT: true; the input reads as it did. -/
def fnExactInvertPermutationSpec : ChangeSpec := { name := "fnExactInvertPermutation", fn := fun _ => fun
  | [d] => { results := [.lit (.bool true)], args := [d] }
  | _ => none }
def fnExactInvertPermutationRow : OpenClaim := { program := "ytlemecaianmdcab", sum := "22c04ebc67868571a6165641254007f25132c3610c7e9072ebca729cb059832b", func := "loop.example/g00856/laws.FnExactInvertPermutation", spec := "fnExactInvertPermutation", apart := false }
def FnExactInvertPermutationSaid : Prop := fnExactInvertPermutationRow.holds Try.pinned (OpenSpec.ofChange fnExactInvertPermutationSpec)

/-- ITS FALSE NEIGHBOUR: 'it returns false'. Refute it at one input. -/
def fnExactInvertPermutationWrong : ChangeSpec := { name := "fnExactInvertPermutation", fn := fun _ => fun
  | [d] => { results := [.lit (.bool false)], args := [d] }
  | _ => none }
def FnExactInvertPermutationWrongFalsely : Prop := fnExactInvertPermutationRow.holds Try.pinned (OpenSpec.ofChange fnExactInvertPermutationWrong)

/-- 'laws.FnExactInversionsOf': WHATEVER THE INPUT: true; the input reads as it did. -/
def fnExactInversionsOfSpec : ChangeSpec := { name := "fnExactInversionsOf", fn := fun _ => fun
  | [d] => { results := [.lit (.bool true)], args := [d] }
  | _ => none }
def fnExactInversionsOfRow : OpenClaim := { program := "ytlemecaianmdcab", sum := "22c04ebc67868571a6165641254007f25132c3610c7e9072ebca729cb059832b", func := "loop.example/g00856/laws.FnExactInversionsOf", spec := "fnExactInversionsOf", apart := false }
def FnExactInversionsOfSaid : Prop := fnExactInversionsOfRow.holds Try.pinned (OpenSpec.ofChange fnExactInversionsOfSpec)

/-- ITS FALSE NEIGHBOUR: 'it returns false'. Refute it at one input. -/
def fnExactInversionsOfWrong : ChangeSpec := { name := "fnExactInversionsOf", fn := fun _ => fun
  | [d] => { results := [.lit (.bool false)], args := [d] }
  | _ => none }
def FnExactInversionsOfWrongFalsely : Prop := fnExactInversionsOfRow.holds Try.pinned (OpenSpec.ofChange fnExactInversionsOfWrong)

/-- 'laws.FnExactDescentsOf': WHATEVER THE INPUT: true; the input reads as it did. -/
def fnExactDescentsOfSpec : ChangeSpec := { name := "fnExactDescentsOf", fn := fun _ => fun
  | [d] => { results := [.lit (.bool true)], args := [d] }
  | _ => none }
def fnExactDescentsOfRow : OpenClaim := { program := "ytlemecaianmdcab", sum := "22c04ebc67868571a6165641254007f25132c3610c7e9072ebca729cb059832b", func := "loop.example/g00856/laws.FnExactDescentsOf", spec := "fnExactDescentsOf", apart := false }
def FnExactDescentsOfSaid : Prop := fnExactDescentsOfRow.holds Try.pinned (OpenSpec.ofChange fnExactDescentsOfSpec)

/-- ITS FALSE NEIGHBOUR: 'it returns false'. Refute it at one input. -/
def fnExactDescentsOfWrong : ChangeSpec := { name := "fnExactDescentsOf", fn := fun _ => fun
  | [d] => { results := [.lit (.bool false)], args := [d] }
  | _ => none }
def FnExactDescentsOfWrongFalsely : Prop := fnExactDescentsOfRow.holds Try.pinned (OpenSpec.ofChange fnExactDescentsOfWrong)

/-- 'laws.FnExactReducedWord': WHATEVER THE INPUT: true; the input reads as it did. -/
def fnExactReducedWordSpec : ChangeSpec := { name := "fnExactReducedWord", fn := fun _ => fun
  | [d] => { results := [.lit (.bool true)], args := [d] }
  | _ => none }
def fnExactReducedWordRow : OpenClaim := { program := "ytlemecaianmdcab", sum := "22c04ebc67868571a6165641254007f25132c3610c7e9072ebca729cb059832b", func := "loop.example/g00856/laws.FnExactReducedWord", spec := "fnExactReducedWord", apart := false }
def FnExactReducedWordSaid : Prop := fnExactReducedWordRow.holds Try.pinned (OpenSpec.ofChange fnExactReducedWordSpec)

/-- ITS FALSE NEIGHBOUR: 'it returns false'. Refute it at one input. -/
def fnExactReducedWordWrong : ChangeSpec := { name := "fnExactReducedWord", fn := fun _ => fun
  | [d] => { results := [.lit (.bool false)], args := [d] }
  | _ => none }
def FnExactReducedWordWrongFalsely : Prop := fnExactReducedWordRow.holds Try.pinned (OpenSpec.ofChange fnExactReducedWordWrong)

/-- 'laws.FnExactPermutationOfWord': WHATEVER THE INPUT: true; the input reads as it did. -/
def fnExactPermutationOfWordSpec : ChangeSpec := { name := "fnExactPermutationOfWord", fn := fun _ => fun
  | [d1, d2] => { results := [.lit (.bool true)], args := [d1, d2] }
  | _ => none }
def fnExactPermutationOfWordRow : OpenClaim := { program := "ytlemecaianmdcab", sum := "22c04ebc67868571a6165641254007f25132c3610c7e9072ebca729cb059832b", func := "loop.example/g00856/laws.FnExactPermutationOfWord", spec := "fnExactPermutationOfWord", apart := false }
def FnExactPermutationOfWordSaid : Prop := fnExactPermutationOfWordRow.holds Try.pinned (OpenSpec.ofChange fnExactPermutationOfWordSpec)

/-- ITS FALSE NEIGHBOUR: 'it returns false'. Refute it at one input. -/
def fnExactPermutationOfWordWrong : ChangeSpec := { name := "fnExactPermutationOfWord", fn := fun _ => fun
  | [d1, d2] => { results := [.lit (.bool false)], args := [d1, d2] }
  | _ => none }
def FnExactPermutationOfWordWrongFalsely : Prop := fnExactPermutationOfWordRow.holds Try.pinned (OpenSpec.ofChange fnExactPermutationOfWordWrong)

/-- 'laws.FnExactMeetPermutations': WHATEVER THE INPUT: true; the input reads as it did. -/
def fnExactMeetPermutationsSpec : ChangeSpec := { name := "fnExactMeetPermutations", fn := fun _ => fun
  | [d1, d2] => { results := [.lit (.bool true)], args := [d1, d2] }
  | _ => none }
def fnExactMeetPermutationsRow : OpenClaim := { program := "ytlemecaianmdcab", sum := "22c04ebc67868571a6165641254007f25132c3610c7e9072ebca729cb059832b", func := "loop.example/g00856/laws.FnExactMeetPermutations", spec := "fnExactMeetPermutations", unfollowed := true, recurses := true, apart := false }
def FnExactMeetPermutationsSaid : Prop := fnExactMeetPermutationsRow.holds Try.pinned (OpenSpec.ofChange fnExactMeetPermutationsSpec)

/-- ITS FALSE NEIGHBOUR: 'it returns false'. Refute it at one input. -/
def fnExactMeetPermutationsWrong : ChangeSpec := { name := "fnExactMeetPermutations", fn := fun _ => fun
  | [d1, d2] => { results := [.lit (.bool false)], args := [d1, d2] }
  | _ => none }
def FnExactMeetPermutationsWrongFalsely : Prop := fnExactMeetPermutationsRow.holds Try.pinned (OpenSpec.ofChange fnExactMeetPermutationsWrong)

/-- 'laws.FnExactJoinPermutations': WHATEVER THE INPUT: true; the input reads as it did. -/
def fnExactJoinPermutationsSpec : ChangeSpec := { name := "fnExactJoinPermutations", fn := fun _ => fun
  | [d1, d2] => { results := [.lit (.bool true)], args := [d1, d2] }
  | _ => none }
def fnExactJoinPermutationsRow : OpenClaim := { program := "ytlemecaianmdcab", sum := "22c04ebc67868571a6165641254007f25132c3610c7e9072ebca729cb059832b", func := "loop.example/g00856/laws.FnExactJoinPermutations", spec := "fnExactJoinPermutations", unfollowed := true, recurses := true, apart := false }
def FnExactJoinPermutationsSaid : Prop := fnExactJoinPermutationsRow.holds Try.pinned (OpenSpec.ofChange fnExactJoinPermutationsSpec)

/-- ITS FALSE NEIGHBOUR: 'it returns false'. Refute it at one input. -/
def fnExactJoinPermutationsWrong : ChangeSpec := { name := "fnExactJoinPermutations", fn := fun _ => fun
  | [d1, d2] => { results := [.lit (.bool false)], args := [d1, d2] }
  | _ => none }
def FnExactJoinPermutationsWrongFalsely : Prop := fnExactJoinPermutationsRow.holds Try.pinned (OpenSpec.ofChange fnExactJoinPermutationsWrong)

/-- 'laws.FnExactRankOf': WHATEVER THE INPUT: true; the input reads as it did. -/
def fnExactRankOfSpec : ChangeSpec := { name := "fnExactRankOf", fn := fun _ => fun
  | [d] => { results := [.lit (.bool true)], args := [d] }
  | _ => none }
def fnExactRankOfRow : OpenClaim := { program := "ytlemecaianmdcab", sum := "22c04ebc67868571a6165641254007f25132c3610c7e9072ebca729cb059832b", func := "loop.example/g00856/laws.FnExactRankOf", spec := "fnExactRankOf", apart := false }
def FnExactRankOfSaid : Prop := fnExactRankOfRow.holds Try.pinned (OpenSpec.ofChange fnExactRankOfSpec)

/-- ITS FALSE NEIGHBOUR: 'it returns false'. Refute it at one input. -/
def fnExactRankOfWrong : ChangeSpec := { name := "fnExactRankOf", fn := fun _ => fun
  | [d] => { results := [.lit (.bool false)], args := [d] }
  | _ => none }
def FnExactRankOfWrongFalsely : Prop := fnExactRankOfRow.holds Try.pinned (OpenSpec.ofChange fnExactRankOfWrong)

/-- 'laws.FnExactPermutationAt': WHATEVER THE INPUT: true; the input reads as it did. -/
def fnExactPermutationAtSpec : ChangeSpec := { name := "fnExactPermutationAt", fn := fun _ => fun
  | [d1, d2] => { results := [.lit (.bool true)], args := [d1, d2] }
  | _ => none }
def fnExactPermutationAtRow : OpenClaim := { program := "ytlemecaianmdcab", sum := "22c04ebc67868571a6165641254007f25132c3610c7e9072ebca729cb059832b", func := "loop.example/g00856/laws.FnExactPermutationAt", spec := "fnExactPermutationAt", apart := false }
def FnExactPermutationAtSaid : Prop := fnExactPermutationAtRow.holds Try.pinned (OpenSpec.ofChange fnExactPermutationAtSpec)

/-- ITS FALSE NEIGHBOUR: 'it returns false'. Refute it at one input. -/
def fnExactPermutationAtWrong : ChangeSpec := { name := "fnExactPermutationAt", fn := fun _ => fun
  | [d1, d2] => { results := [.lit (.bool false)], args := [d1, d2] }
  | _ => none }
def FnExactPermutationAtWrongFalsely : Prop := fnExactPermutationAtRow.holds Try.pinned (OpenSpec.ofChange fnExactPermutationAtWrong)

/- THE SECOND FORM. 'bulk': how many values and letters a reading holds, each counted each time it is reached (what is shared counts as often as it is met; a slice's spare places count too). A statement '..UptoSaid' is the law's where the arguments, and the package variables that the reading takes, are together of bulk at most 1048576: NARROWER than '..Said'. Prove '..Said' where nothing that the law and all that it calls make is longer than what came in: it says more and counts as full. Else prove '..UptoSaid'. A law counts once. -/
mutual
def uptoBulk {H : Type} : DataW H → Nat
  | .lit (.string bytes) => bytes.length + 1
  | .lit _ => 1
  | .nil => 1
  | .ptr d => uptoBulk d + 1
  | .slice elems spare => uptoBulkAll elems + uptoBulkAll spare + 1
  | .agg parts => uptoBulkAll parts + 1
  | .iface _ d => uptoBulk d + 1
  | .map entries => uptoBulkEntries entries + 1
  | .held _ => 1
def uptoBulkAll {H : Type} : List (DataW H) → Nat
  | [] => 0
  | d :: r => uptoBulk d + uptoBulkAll r
def uptoBulkEntries {H : Type} : List (Lit × DataW H) → Nat
  | [] => 0
  | x :: r => uptoBulkEntry x + uptoBulkEntries r
def uptoBulkEntry {H : Type} : Lit × DataW H → Nat
  | (.string bytes, d) => bytes.length + uptoBulk d + 1
  | (_, d) => uptoBulk d + 1
 end
def uptoSmall : (H : Type) → List (DataW H) → Bool := fun _ ds => decide (uptoBulkAll ds ≤ 1048576)
def OpenSpec.upto (s : _root_.Go.ChangeSpec) : _root_.Go.OpenSpec := { _root_.Go.OpenSpec.ofChange s with cond := some uptoSmall }

/-- 'laws.FnExactValidPermutation', WHERE WHAT IT READS IS OF BULK AT MOST 1048576: true; the input reads as it did. -/
def fnExactValidPermutationUptoRow : OpenClaim := { program := "ytlemecaianmdcab", sum := "22c04ebc67868571a6165641254007f25132c3610c7e9072ebca729cb059832b", func := "loop.example/g00856/laws.FnExactValidPermutation", spec := "fnExactValidPermutation", apart := false, narrowed := true }
def FnExactValidPermutationUptoSaid : Prop := fnExactValidPermutationUptoRow.holds Try.pinned (OpenSpec.upto fnExactValidPermutationSpec)

/-- 'laws.FnExactIdentityPermutation', WHERE WHAT IT READS IS OF BULK AT MOST 1048576: true; the input reads as it did. -/
def fnExactIdentityPermutationUptoRow : OpenClaim := { program := "ytlemecaianmdcab", sum := "22c04ebc67868571a6165641254007f25132c3610c7e9072ebca729cb059832b", func := "loop.example/g00856/laws.FnExactIdentityPermutation", spec := "fnExactIdentityPermutation", apart := false, narrowed := true }
def FnExactIdentityPermutationUptoSaid : Prop := fnExactIdentityPermutationUptoRow.holds Try.pinned (OpenSpec.upto fnExactIdentityPermutationSpec)

/-- 'laws.FnExactComposePermutations', WHERE WHAT IT READS IS OF BULK AT MOST 1048576: true; the input reads as it did. -/
def fnExactComposePermutationsUptoRow : OpenClaim := { program := "ytlemecaianmdcab", sum := "22c04ebc67868571a6165641254007f25132c3610c7e9072ebca729cb059832b", func := "loop.example/g00856/laws.FnExactComposePermutations", spec := "fnExactComposePermutations", apart := false, narrowed := true }
def FnExactComposePermutationsUptoSaid : Prop := fnExactComposePermutationsUptoRow.holds Try.pinned (OpenSpec.upto fnExactComposePermutationsSpec)

/-- 'laws.FnExactInvertPermutation', WHERE WHAT IT READS IS OF BULK AT MOST 1048576: true; the input reads as it did. -/
def fnExactInvertPermutationUptoRow : OpenClaim := { program := "ytlemecaianmdcab", sum := "22c04ebc67868571a6165641254007f25132c3610c7e9072ebca729cb059832b", func := "loop.example/g00856/laws.FnExactInvertPermutation", spec := "fnExactInvertPermutation", apart := false, narrowed := true }
def FnExactInvertPermutationUptoSaid : Prop := fnExactInvertPermutationUptoRow.holds Try.pinned (OpenSpec.upto fnExactInvertPermutationSpec)

/-- 'laws.FnExactInversionsOf', WHERE WHAT IT READS IS OF BULK AT MOST 1048576: true; the input reads as it did. -/
def fnExactInversionsOfUptoRow : OpenClaim := { program := "ytlemecaianmdcab", sum := "22c04ebc67868571a6165641254007f25132c3610c7e9072ebca729cb059832b", func := "loop.example/g00856/laws.FnExactInversionsOf", spec := "fnExactInversionsOf", apart := false, narrowed := true }
def FnExactInversionsOfUptoSaid : Prop := fnExactInversionsOfUptoRow.holds Try.pinned (OpenSpec.upto fnExactInversionsOfSpec)

/-- 'laws.FnExactDescentsOf', WHERE WHAT IT READS IS OF BULK AT MOST 1048576: true; the input reads as it did. -/
def fnExactDescentsOfUptoRow : OpenClaim := { program := "ytlemecaianmdcab", sum := "22c04ebc67868571a6165641254007f25132c3610c7e9072ebca729cb059832b", func := "loop.example/g00856/laws.FnExactDescentsOf", spec := "fnExactDescentsOf", apart := false, narrowed := true }
def FnExactDescentsOfUptoSaid : Prop := fnExactDescentsOfUptoRow.holds Try.pinned (OpenSpec.upto fnExactDescentsOfSpec)

/-- 'laws.FnExactReducedWord', WHERE WHAT IT READS IS OF BULK AT MOST 1048576: true; the input reads as it did. -/
def fnExactReducedWordUptoRow : OpenClaim := { program := "ytlemecaianmdcab", sum := "22c04ebc67868571a6165641254007f25132c3610c7e9072ebca729cb059832b", func := "loop.example/g00856/laws.FnExactReducedWord", spec := "fnExactReducedWord", apart := false, narrowed := true }
def FnExactReducedWordUptoSaid : Prop := fnExactReducedWordUptoRow.holds Try.pinned (OpenSpec.upto fnExactReducedWordSpec)

/-- 'laws.FnExactPermutationOfWord', WHERE WHAT IT READS IS OF BULK AT MOST 1048576: true; the input reads as it did. -/
def fnExactPermutationOfWordUptoRow : OpenClaim := { program := "ytlemecaianmdcab", sum := "22c04ebc67868571a6165641254007f25132c3610c7e9072ebca729cb059832b", func := "loop.example/g00856/laws.FnExactPermutationOfWord", spec := "fnExactPermutationOfWord", apart := false, narrowed := true }
def FnExactPermutationOfWordUptoSaid : Prop := fnExactPermutationOfWordUptoRow.holds Try.pinned (OpenSpec.upto fnExactPermutationOfWordSpec)

/-- 'laws.FnExactMeetPermutations', WHERE WHAT IT READS IS OF BULK AT MOST 1048576: true; the input reads as it did. -/
def fnExactMeetPermutationsUptoRow : OpenClaim := { program := "ytlemecaianmdcab", sum := "22c04ebc67868571a6165641254007f25132c3610c7e9072ebca729cb059832b", func := "loop.example/g00856/laws.FnExactMeetPermutations", spec := "fnExactMeetPermutations", unfollowed := true, recurses := true, apart := false, narrowed := true }
def FnExactMeetPermutationsUptoSaid : Prop := fnExactMeetPermutationsUptoRow.holds Try.pinned (OpenSpec.upto fnExactMeetPermutationsSpec)

/-- 'laws.FnExactJoinPermutations', WHERE WHAT IT READS IS OF BULK AT MOST 1048576: true; the input reads as it did. -/
def fnExactJoinPermutationsUptoRow : OpenClaim := { program := "ytlemecaianmdcab", sum := "22c04ebc67868571a6165641254007f25132c3610c7e9072ebca729cb059832b", func := "loop.example/g00856/laws.FnExactJoinPermutations", spec := "fnExactJoinPermutations", unfollowed := true, recurses := true, apart := false, narrowed := true }
def FnExactJoinPermutationsUptoSaid : Prop := fnExactJoinPermutationsUptoRow.holds Try.pinned (OpenSpec.upto fnExactJoinPermutationsSpec)

/-- 'laws.FnExactRankOf', WHERE WHAT IT READS IS OF BULK AT MOST 1048576: true; the input reads as it did. -/
def fnExactRankOfUptoRow : OpenClaim := { program := "ytlemecaianmdcab", sum := "22c04ebc67868571a6165641254007f25132c3610c7e9072ebca729cb059832b", func := "loop.example/g00856/laws.FnExactRankOf", spec := "fnExactRankOf", apart := false, narrowed := true }
def FnExactRankOfUptoSaid : Prop := fnExactRankOfUptoRow.holds Try.pinned (OpenSpec.upto fnExactRankOfSpec)

/-- 'laws.FnExactPermutationAt', WHERE WHAT IT READS IS OF BULK AT MOST 1048576: true; the input reads as it did. -/
def fnExactPermutationAtUptoRow : OpenClaim := { program := "ytlemecaianmdcab", sum := "22c04ebc67868571a6165641254007f25132c3610c7e9072ebca729cb059832b", func := "loop.example/g00856/laws.FnExactPermutationAt", spec := "fnExactPermutationAt", apart := false, narrowed := true }
def FnExactPermutationAtUptoSaid : Prop := fnExactPermutationAtUptoRow.holds Try.pinned (OpenSpec.upto fnExactPermutationAtSpec)

end Rows
end Go.Proofs.Ytlemecaianmdcab
