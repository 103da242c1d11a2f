/-
  NARROWER THAN 'FOR EVERY INPUT', by the rows' own cells (each row's printed sentence says how): FnExactKindOf: laid · FnExactReadStitches: laid · FnExactStitchesText: laid.
  DERIVED. THE GIVEN ROWS OF THIS SEAT. 3 by the template 'for every input the law returns true; each argument reads behind the call as it read before'; 0 by the template 'total and deterministic' (their statements: YtglkchcfggclaabDoorTotals.lean).
  GIVEN WITH THE SEED: the statements are not yours to turn. If you find one false, say at which input.
  Laid BY PROGRAM, IN A SANDBOX (cutbox-rows.mjs): the forced cells as the released guide's own fill.sh prints them over the translation 42970541387b9d17… (all of the seat's roots in one cut). By AI agents, Wed Nov 11 2026. No macro, syntax, notation, axiom, sorry.
-/
import Derived.Test.YtglkchcfggclaabDoorChecked
import GoSem.Claim
import GoSem.ClaimJoined
import GoSem.ClaimMapViews
import Derived.JoinedTies
import Derived.KernelRfl
namespace Go.Proofs.YtglkchcfggclaabDoor
/- THE CELL 'sum', in the pinned program and in every row, IS THE sha256 OF THE DUMP (.gsa) THAT YtglkchcfggclaabDoorProg.lean LOADS. Nothing in Lean hashes anything: it is a label: what it is worth is what the hold of that sum in a sandbox is worth. -/
noncomputable def Tryd.pinned : Pinned := { name := "ytglkchcfggclaabdoor", sum := "42970541387b9d17c6c44f0056e87a1f359a878e0ec21e9a53b27378f6cd00de", checked := Tryd.checked }
namespace Rows
def none {H : Type} : Left H := { results := [], args := [] }

/- WHAT THE LISTED PACKAGE-LEVEL VARIABLES READ AS WHEN THE CALL BEGINS. Each datum BY PROGRAM (the guide's laid-datum.mjs) off the statement by which the dump's own 'gosem.cut.vars' lays the variable. In a bare row this is a premise. The card (YtglkchcfggclaabDoorCards.lean) ties it to the program's text. -/
def laid_loop_example_g00856_impl_stitches {H : Type} : DataW H := .agg [.agg [.lit (.int .i32 0), .lit (.int .i64 0), .lit (.int .i64 0), .lit (.int .i64 0)], .agg [.lit (.int .i32 107), .lit (.int .i64 1), .lit (.int .i64 1), .lit (.int .i64 1)], .agg [.lit (.int .i32 112), .lit (.int .i64 1), .lit (.int .i64 1), .lit (.int .i64 2)], .agg [.lit (.int .i32 111), .lit (.int .i64 0), .lit (.int .i64 1), .lit (.int .i64 3)], .agg [.lit (.int .i32 100), .lit (.int .i64 2), .lit (.int .i64 1), .lit (.int .i64 5)], .agg [.lit (.int .i32 101), .lit (.int .i64 2), .lit (.int .i64 1), .lit (.int .i64 4)], .agg [.lit (.int .i32 116), .lit (.int .i64 1), .lit (.int .i64 1), .lit (.int .i64 6)], .agg [.lit (.int .i32 115), .lit (.int .i64 1), .lit (.int .i64 1), .lit (.int .i64 7)], .agg [.lit (.int .i32 120), .lit (.int .i64 2), .lit (.int .i64 2), .lit (.int .i64 9)], .agg [.lit (.int .i32 121), .lit (.int .i64 2), .lit (.int .i64 2), .lit (.int .i64 8)], .agg [.lit (.int .i32 88), .lit (.int .i64 4), .lit (.int .i64 4), .lit (.int .i64 11)], .agg [.lit (.int .i32 89), .lit (.int .i64 4), .lit (.int .i64 4), .lit (.int .i64 10)]]

/-- 'laws.FnExactKindOf': WHATEVER THE INPUT: true; the input reads as it did. -/
def fnExactKindOfSpec : ChangeSpec := { name := "fnExactKindOf", vars := ["loop.example/g00856/impl.stitches"], fn := fun _ => fun
  | [d, g1] => { results := [.lit (.bool true)], args := [d], vars := [g1] }
  | _ => none }
def fnExactKindOfRow : OpenClaim := { program := "ytglkchcfggclaabdoor", sum := "42970541387b9d17c6c44f0056e87a1f359a878e0ec21e9a53b27378f6cd00de", func := "loop.example/g00856/laws.FnExactKindOf", spec := "fnExactKindOf", named := ["loop.example/g00856/impl.stitches"], apart := false, laid := [("loop.example/g00856/impl.stitches", laid_loop_example_g00856_impl_stitches)] }
def FnExactKindOfSaid : Prop := fnExactKindOfRow.holds Tryd.pinned (OpenSpec.ofChange fnExactKindOfSpec)

/-- ITS FALSE NEIGHBOUR: 'it returns false'. Refute it at one input. -/
def fnExactKindOfWrong : ChangeSpec := { name := "fnExactKindOf", vars := ["loop.example/g00856/impl.stitches"], fn := fun _ => fun
  | [d, g1] => { results := [.lit (.bool false)], args := [d], vars := [g1] }
  | _ => none }
def FnExactKindOfWrongFalsely : Prop := fnExactKindOfRow.holds Tryd.pinned (OpenSpec.ofChange fnExactKindOfWrong)

/-- 'laws.FnExactReadStitches': WHATEVER THE INPUT: true; the input reads as it did. -/
def fnExactReadStitchesSpec : ChangeSpec := { name := "fnExactReadStitches", vars := ["loop.example/g00856/impl.stitches"], fn := fun _ => fun
  | [d, g1] => { results := [.lit (.bool true)], args := [d], vars := [g1] }
  | _ => none }
def fnExactReadStitchesRow : OpenClaim := { program := "ytglkchcfggclaabdoor", sum := "42970541387b9d17c6c44f0056e87a1f359a878e0ec21e9a53b27378f6cd00de", func := "loop.example/g00856/laws.FnExactReadStitches", spec := "fnExactReadStitches", named := ["loop.example/g00856/impl.stitches"], apart := false, laid := [("loop.example/g00856/impl.stitches", laid_loop_example_g00856_impl_stitches)] }
def FnExactReadStitchesSaid : Prop := fnExactReadStitchesRow.holds Tryd.pinned (OpenSpec.ofChange fnExactReadStitchesSpec)

/-- ITS FALSE NEIGHBOUR: 'it returns false'. Refute it at one input. -/
def fnExactReadStitchesWrong : ChangeSpec := { name := "fnExactReadStitches", vars := ["loop.example/g00856/impl.stitches"], fn := fun _ => fun
  | [d, g1] => { results := [.lit (.bool false)], args := [d], vars := [g1] }
  | _ => none }
def FnExactReadStitchesWrongFalsely : Prop := fnExactReadStitchesRow.holds Tryd.pinned (OpenSpec.ofChange fnExactReadStitchesWrong)

/-- 'laws.FnExactStitchesText': WHATEVER THE INPUT: true; the input reads as it did. -/
def fnExactStitchesTextSpec : ChangeSpec := { name := "fnExactStitchesText", vars := ["loop.example/g00856/impl.stitches"], fn := fun _ => fun
  | [d, g1] => { results := [.lit (.bool true)], args := [d], vars := [g1] }
  | _ => none }
def fnExactStitchesTextRow : OpenClaim := { program := "ytglkchcfggclaabdoor", sum := "42970541387b9d17c6c44f0056e87a1f359a878e0ec21e9a53b27378f6cd00de", func := "loop.example/g00856/laws.FnExactStitchesText", spec := "fnExactStitchesText", inPlace := ["internal/abi.NoEscape"], unfollowed := true, recurses := true, named := ["loop.example/g00856/impl.stitches"], apart := false, laid := [("loop.example/g00856/impl.stitches", laid_loop_example_g00856_impl_stitches)] }
def FnExactStitchesTextSaid : Prop := fnExactStitchesTextRow.holds Tryd.pinned (OpenSpec.ofChange fnExactStitchesTextSpec)

/-- ITS FALSE NEIGHBOUR: 'it returns false'. Refute it at one input. -/
def fnExactStitchesTextWrong : ChangeSpec := { name := "fnExactStitchesText", vars := ["loop.example/g00856/impl.stitches"], fn := fun _ => fun
  | [d, g1] => { results := [.lit (.bool false)], args := [d], vars := [g1] }
  | _ => none }
def FnExactStitchesTextWrongFalsely : Prop := fnExactStitchesTextRow.holds Tryd.pinned (OpenSpec.ofChange fnExactStitchesTextWrong)

/- THE SECOND FORM. 'bulk': how many values and letters a reading holds, each counted each time it is reached (what is shared counts as often as it is met; a slice's spare places count too). A statement '..UptoSaid' is the law's where the arguments, and the package variables that the reading takes, are together of bulk at most 1048576: NARROWER than '..Said'. Prove '..Said' where nothing that the law and all that it calls make is longer than what came in: it says more and counts as full. Else prove '..UptoSaid'. A law counts once. -/
mutual
def uptoBulk {H : Type} : DataW H → Nat
  | .lit (.string bytes) => bytes.length + 1
  | .lit _ => 1
  | .nil => 1
  | .ptr d => uptoBulk d + 1
  | .slice elems spare => uptoBulkAll elems + uptoBulkAll spare + 1
  | .agg parts => uptoBulkAll parts + 1
  | .iface _ d => uptoBulk d + 1
  | .map entries => uptoBulkEntries entries + 1
  | .held _ => 1
def uptoBulkAll {H : Type} : List (DataW H) → Nat
  | [] => 0
  | d :: r => uptoBulk d + uptoBulkAll r
def uptoBulkEntries {H : Type} : List (Lit × DataW H) → Nat
  | [] => 0
  | x :: r => uptoBulkEntry x + uptoBulkEntries r
def uptoBulkEntry {H : Type} : Lit × DataW H → Nat
  | (.string bytes, d) => bytes.length + uptoBulk d + 1
  | (_, d) => uptoBulk d + 1
 end
def uptoSmall : (H : Type) → List (DataW H) → Bool := fun _ ds => decide (uptoBulkAll ds ≤ 1048576)
def OpenSpec.upto (s : _root_.Go.ChangeSpec) : _root_.Go.OpenSpec := { _root_.Go.OpenSpec.ofChange s with cond := some uptoSmall }

/-- 'laws.FnExactKindOf', WHERE WHAT IT READS IS OF BULK AT MOST 1048576: true; the input reads as it did. -/
def fnExactKindOfUptoRow : OpenClaim := { program := "ytglkchcfggclaabdoor", sum := "42970541387b9d17c6c44f0056e87a1f359a878e0ec21e9a53b27378f6cd00de", func := "loop.example/g00856/laws.FnExactKindOf", spec := "fnExactKindOf", named := ["loop.example/g00856/impl.stitches"], apart := false, laid := [("loop.example/g00856/impl.stitches", laid_loop_example_g00856_impl_stitches)], narrowed := true }
def FnExactKindOfUptoSaid : Prop := fnExactKindOfUptoRow.holds Tryd.pinned (OpenSpec.upto fnExactKindOfSpec)

/-- 'laws.FnExactReadStitches', WHERE WHAT IT READS IS OF BULK AT MOST 1048576: true; the input reads as it did. -/
def fnExactReadStitchesUptoRow : OpenClaim := { program := "ytglkchcfggclaabdoor", sum := "42970541387b9d17c6c44f0056e87a1f359a878e0ec21e9a53b27378f6cd00de", func := "loop.example/g00856/laws.FnExactReadStitches", spec := "fnExactReadStitches", named := ["loop.example/g00856/impl.stitches"], apart := false, laid := [("loop.example/g00856/impl.stitches", laid_loop_example_g00856_impl_stitches)], narrowed := true }
def FnExactReadStitchesUptoSaid : Prop := fnExactReadStitchesUptoRow.holds Tryd.pinned (OpenSpec.upto fnExactReadStitchesSpec)

/-- 'laws.FnExactStitchesText', WHERE WHAT IT READS IS OF BULK AT MOST 1048576: true; the input reads as it did. -/
def fnExactStitchesTextUptoRow : OpenClaim := { program := "ytglkchcfggclaabdoor", sum := "42970541387b9d17c6c44f0056e87a1f359a878e0ec21e9a53b27378f6cd00de", func := "loop.example/g00856/laws.FnExactStitchesText", spec := "fnExactStitchesText", inPlace := ["internal/abi.NoEscape"], unfollowed := true, recurses := true, named := ["loop.example/g00856/impl.stitches"], apart := false, laid := [("loop.example/g00856/impl.stitches", laid_loop_example_g00856_impl_stitches)], narrowed := true }
def FnExactStitchesTextUptoSaid : Prop := fnExactStitchesTextUptoRow.holds Tryd.pinned (OpenSpec.upto fnExactStitchesTextSpec)

end Rows
end Go.Proofs.YtglkchcfggclaabDoor
