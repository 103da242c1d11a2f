/-
  No cell of these rows narrows 'for every input' (looked for: loops, veiled, ifaces, maps, wideKeys, modest, calm, conditions, laid).
  DERIVED. THE GIVEN ROWS OF THIS SEAT. 5 by the template 'for every input the law returns true; each argument reads behind the call as it read before'; 0 by the template 'total and deterministic' (their statements: YtlhpipcmebmpdabTotals.lean).
  GIVEN WITH THE SEED: the statements are not yours to turn. If you find one false, say at which input.
  Laid BY PROGRAM, IN A SANDBOX (cutbox-rows.mjs): the forced cells as the released guide's own fill.sh prints them over the translation 29764e1f53ae3877… (all of the seat's roots in one cut). By AI agents, Wed Nov 11 2026. No macro, syntax, notation, axiom, sorry.
-/
import Derived.Test.YtlhpipcmebmpdabChecked
import GoSem.Claim
import GoSem.ClaimJoined
import GoSem.ClaimMapViews
import Derived.JoinedTies
import Derived.KernelRfl
namespace Go.Proofs.Ytlhpipcmebmpdab
/- THE CELL 'sum', in the pinned program and in every row, IS THE sha256 OF THE DUMP (.gsa) THAT YtlhpipcmebmpdabProg.lean LOADS. Nothing in Lean hashes anything: it is a label: what it is worth is what the hold of that sum in a sandbox is worth. -/
noncomputable def Try.pinned : Pinned := { name := "ytlhpipcmebmpdab", sum := "29764e1f53ae3877422b0df85dc55f29acced0c3fa22b067d38f4f283d104120", checked := Try.checked }
namespace Rows
def none {H : Type} : Left H := { results := [], args := [] }

/-- 'laws.FnExactCourseOf': WHATEVER THE INPUT: true; the input reads as it did. -/
def fnExactCourseOfSpec : ChangeSpec := { name := "fnExactCourseOf", fn := fun _ => fun
  | [d1, d2] => { results := [.lit (.bool true)], args := [d1, d2] }
  | _ => none }
def fnExactCourseOfRow : OpenClaim := { program := "ytlhpipcmebmpdab", sum := "29764e1f53ae3877422b0df85dc55f29acced0c3fa22b067d38f4f283d104120", func := "loop.example/g00856/laws.FnExactCourseOf", spec := "fnExactCourseOf", unfollowed := true, recurses := true, apart := false }
def FnExactCourseOfSaid : Prop := fnExactCourseOfRow.holds Try.pinned (OpenSpec.ofChange fnExactCourseOfSpec)

/-- ITS FALSE NEIGHBOUR: 'it returns false'. Refute it at one input. -/
def fnExactCourseOfWrong : ChangeSpec := { name := "fnExactCourseOf", fn := fun _ => fun
  | [d1, d2] => { results := [.lit (.bool false)], args := [d1, d2] }
  | _ => none }
def FnExactCourseOfWrongFalsely : Prop := fnExactCourseOfRow.holds Try.pinned (OpenSpec.ofChange fnExactCourseOfWrong)

/-- 'laws.FnExactWalesOf': WHATEVER THE INPUT: true; the input reads as it did. -/
def fnExactWalesOfSpec : ChangeSpec := { name := "fnExactWalesOf", fn := fun _ => fun
  | [d] => { results := [.lit (.bool true)], args := [d] }
  | _ => none }
def fnExactWalesOfRow : OpenClaim := { program := "ytlhpipcmebmpdab", sum := "29764e1f53ae3877422b0df85dc55f29acced0c3fa22b067d38f4f283d104120", func := "loop.example/g00856/laws.FnExactWalesOf", spec := "fnExactWalesOf", unfollowed := true, recurses := true, apart := false }
def FnExactWalesOfSaid : Prop := fnExactWalesOfRow.holds Try.pinned (OpenSpec.ofChange fnExactWalesOfSpec)

/-- ITS FALSE NEIGHBOUR: 'it returns false'. Refute it at one input. -/
def fnExactWalesOfWrong : ChangeSpec := { name := "fnExactWalesOf", fn := fun _ => fun
  | [d] => { results := [.lit (.bool false)], args := [d] }
  | _ => none }
def FnExactWalesOfWrongFalsely : Prop := fnExactWalesOfRow.holds Try.pinned (OpenSpec.ofChange fnExactWalesOfWrong)

/-- 'laws.FnExactFabricCounts': WHATEVER THE INPUT: true; the input reads as it did. -/
def fnExactFabricCountsSpec : ChangeSpec := { name := "fnExactFabricCounts", fn := fun _ => fun
  | [d] => { results := [.lit (.bool true)], args := [d] }
  | _ => none }
def fnExactFabricCountsRow : OpenClaim := { program := "ytlhpipcmebmpdab", sum := "29764e1f53ae3877422b0df85dc55f29acced0c3fa22b067d38f4f283d104120", func := "loop.example/g00856/laws.FnExactFabricCounts", spec := "fnExactFabricCounts", unfollowed := true, recurses := true, apart := false }
def FnExactFabricCountsSaid : Prop := fnExactFabricCountsRow.holds Try.pinned (OpenSpec.ofChange fnExactFabricCountsSpec)

/-- ITS FALSE NEIGHBOUR: 'it returns false'. Refute it at one input. -/
def fnExactFabricCountsWrong : ChangeSpec := { name := "fnExactFabricCounts", fn := fun _ => fun
  | [d] => { results := [.lit (.bool false)], args := [d] }
  | _ => none }
def FnExactFabricCountsWrongFalsely : Prop := fnExactFabricCountsRow.holds Try.pinned (OpenSpec.ofChange fnExactFabricCountsWrong)

/-- 'laws.FnExactIsSecure': WHATEVER THE INPUT: true; the input reads as it did. -/
def fnExactIsSecureSpec : ChangeSpec := { name := "fnExactIsSecure", fn := fun _ => fun
  | [d] => { results := [.lit (.bool true)], args := [d] }
  | _ => none }
def fnExactIsSecureRow : OpenClaim := { program := "ytlhpipcmebmpdab", sum := "29764e1f53ae3877422b0df85dc55f29acced0c3fa22b067d38f4f283d104120", func := "loop.example/g00856/laws.FnExactIsSecure", spec := "fnExactIsSecure", unfollowed := true, recurses := true, apart := false }
def FnExactIsSecureSaid : Prop := fnExactIsSecureRow.holds Try.pinned (OpenSpec.ofChange fnExactIsSecureSpec)

/-- ITS FALSE NEIGHBOUR: 'it returns false'. Refute it at one input. -/
def fnExactIsSecureWrong : ChangeSpec := { name := "fnExactIsSecure", fn := fun _ => fun
  | [d] => { results := [.lit (.bool false)], args := [d] }
  | _ => none }
def FnExactIsSecureWrongFalsely : Prop := fnExactIsSecureRow.holds Try.pinned (OpenSpec.ofChange fnExactIsSecureWrong)

/-- 'laws.FnExactLadderOf': WHATEVER THE INPUT: true; the input reads as it did. -/
def fnExactLadderOfSpec : ChangeSpec := { name := "fnExactLadderOf", fn := fun _ => fun
  | [d1, d2] => { results := [.lit (.bool true)], args := [d1, d2] }
  | _ => none }
def fnExactLadderOfRow : OpenClaim := { program := "ytlhpipcmebmpdab", sum := "29764e1f53ae3877422b0df85dc55f29acced0c3fa22b067d38f4f283d104120", func := "loop.example/g00856/laws.FnExactLadderOf", spec := "fnExactLadderOf", unfollowed := true, recurses := true, apart := false }
def FnExactLadderOfSaid : Prop := fnExactLadderOfRow.holds Try.pinned (OpenSpec.ofChange fnExactLadderOfSpec)

/-- ITS FALSE NEIGHBOUR: 'it returns false'. Refute it at one input. -/
def fnExactLadderOfWrong : ChangeSpec := { name := "fnExactLadderOf", fn := fun _ => fun
  | [d1, d2] => { results := [.lit (.bool false)], args := [d1, d2] }
  | _ => none }
def FnExactLadderOfWrongFalsely : Prop := fnExactLadderOfRow.holds Try.pinned (OpenSpec.ofChange fnExactLadderOfWrong)

/- THE SECOND FORM. 'bulk': how many values and letters a reading holds, each counted each time it is reached (what is shared counts as often as it is met; a slice's spare places count too). A statement '..UptoSaid' is the law's where the arguments, and the package variables that the reading takes, are together of bulk at most 1048576: NARROWER than '..Said'. Prove '..Said' where nothing that the law and all that it calls make is longer than what came in: it says more and counts as full. Else prove '..UptoSaid'. A law counts once. -/
mutual
def uptoBulk {H : Type} : DataW H → Nat
  | .lit (.string bytes) => bytes.length + 1
  | .lit _ => 1
  | .nil => 1
  | .ptr d => uptoBulk d + 1
  | .slice elems spare => uptoBulkAll elems + uptoBulkAll spare + 1
  | .agg parts => uptoBulkAll parts + 1
  | .iface _ d => uptoBulk d + 1
  | .map entries => uptoBulkEntries entries + 1
  | .held _ => 1
def uptoBulkAll {H : Type} : List (DataW H) → Nat
  | [] => 0
  | d :: r => uptoBulk d + uptoBulkAll r
def uptoBulkEntries {H : Type} : List (Lit × DataW H) → Nat
  | [] => 0
  | x :: r => uptoBulkEntry x + uptoBulkEntries r
def uptoBulkEntry {H : Type} : Lit × DataW H → Nat
  | (.string bytes, d) => bytes.length + uptoBulk d + 1
  | (_, d) => uptoBulk d + 1
 end
def uptoSmall : (H : Type) → List (DataW H) → Bool := fun _ ds => decide (uptoBulkAll ds ≤ 1048576)
def OpenSpec.upto (s : _root_.Go.ChangeSpec) : _root_.Go.OpenSpec := { _root_.Go.OpenSpec.ofChange s with cond := some uptoSmall }

/-- 'laws.FnExactCourseOf', WHERE WHAT IT READS IS OF BULK AT MOST 1048576: true; the input reads as it did. -/
def fnExactCourseOfUptoRow : OpenClaim := { program := "ytlhpipcmebmpdab", sum := "29764e1f53ae3877422b0df85dc55f29acced0c3fa22b067d38f4f283d104120", func := "loop.example/g00856/laws.FnExactCourseOf", spec := "fnExactCourseOf", unfollowed := true, recurses := true, apart := false, narrowed := true }
def FnExactCourseOfUptoSaid : Prop := fnExactCourseOfUptoRow.holds Try.pinned (OpenSpec.upto fnExactCourseOfSpec)

/-- 'laws.FnExactWalesOf', WHERE WHAT IT READS IS OF BULK AT MOST 1048576: true; the input reads as it did. -/
def fnExactWalesOfUptoRow : OpenClaim := { program := "ytlhpipcmebmpdab", sum := "29764e1f53ae3877422b0df85dc55f29acced0c3fa22b067d38f4f283d104120", func := "loop.example/g00856/laws.FnExactWalesOf", spec := "fnExactWalesOf", unfollowed := true, recurses := true, apart := false, narrowed := true }
def FnExactWalesOfUptoSaid : Prop := fnExactWalesOfUptoRow.holds Try.pinned (OpenSpec.upto fnExactWalesOfSpec)

/-- 'laws.FnExactFabricCounts', WHERE WHAT IT READS IS OF BULK AT MOST 1048576: true; the input reads as it did. -/
def fnExactFabricCountsUptoRow : OpenClaim := { program := "ytlhpipcmebmpdab", sum := "29764e1f53ae3877422b0df85dc55f29acced0c3fa22b067d38f4f283d104120", func := "loop.example/g00856/laws.FnExactFabricCounts", spec := "fnExactFabricCounts", unfollowed := true, recurses := true, apart := false, narrowed := true }
def FnExactFabricCountsUptoSaid : Prop := fnExactFabricCountsUptoRow.holds Try.pinned (OpenSpec.upto fnExactFabricCountsSpec)

/-- 'laws.FnExactIsSecure', WHERE WHAT IT READS IS OF BULK AT MOST 1048576: true; the input reads as it did. -/
def fnExactIsSecureUptoRow : OpenClaim := { program := "ytlhpipcmebmpdab", sum := "29764e1f53ae3877422b0df85dc55f29acced0c3fa22b067d38f4f283d104120", func := "loop.example/g00856/laws.FnExactIsSecure", spec := "fnExactIsSecure", unfollowed := true, recurses := true, apart := false, narrowed := true }
def FnExactIsSecureUptoSaid : Prop := fnExactIsSecureUptoRow.holds Try.pinned (OpenSpec.upto fnExactIsSecureSpec)

/-- 'laws.FnExactLadderOf', WHERE WHAT IT READS IS OF BULK AT MOST 1048576: true; the input reads as it did. -/
def fnExactLadderOfUptoRow : OpenClaim := { program := "ytlhpipcmebmpdab", sum := "29764e1f53ae3877422b0df85dc55f29acced0c3fa22b067d38f4f283d104120", func := "loop.example/g00856/laws.FnExactLadderOf", spec := "fnExactLadderOf", unfollowed := true, recurses := true, apart := false, narrowed := true }
def FnExactLadderOfUptoSaid : Prop := fnExactLadderOfUptoRow.holds Try.pinned (OpenSpec.upto fnExactLadderOfSpec)

end Rows
end Go.Proofs.Ytlhpipcmebmpdab
