/-
  NARROWER THAN 'FOR EVERY INPUT', by the rows' own cells (each row's printed sentence says how): FnExactRowLetters: laid · FnExactIsCable: ifaces, laid · FnExactRowBraid: laid.
  DERIVED. THE GIVEN ROWS OF THIS SEAT. 3 by the template 'for every input the law returns true; each argument reads behind the call as it read before'; 0 by the template 'total and deterministic' (their statements: YtiacfejileeieaaDoorTotals.lean).
  GIVEN WITH THE SEED: the statements are not yours to turn. If you find one false, say at which input.
  Laid BY PROGRAM, IN A SANDBOX (cutbox-rows.mjs): the forced cells as the released guide's own fill.sh prints them over the translation 35cf494587431cc6… (all of the seat's roots in one cut). By AI agents, Wed Nov 11 2026. No macro, syntax, notation, axiom, sorry.
-/
import Derived.Test.YtiacfejileeieaaDoorChecked
import GoSem.Claim
import GoSem.ClaimJoined
import GoSem.ClaimMapViews
import Derived.JoinedTies
import Derived.KernelRfl
namespace Go.Proofs.YtiacfejileeieaaDoor
/- THE CELL 'sum', in the pinned program and in every row, IS THE sha256 OF THE DUMP (.gsa) THAT YtiacfejileeieaaDoorProg.lean LOADS. Nothing in Lean hashes anything: it is a label: what it is worth is what the hold of that sum in a sandbox is worth. -/
noncomputable def Tryd.pinned : Pinned := { name := "ytiacfejileeieaadoor", sum := "35cf494587431cc68185ff92f4a72fa4add3b48d6e5e75bf120b6210faf81e30", checked := Tryd.checked }
namespace Rows
def none {H : Type} : Left H := { results := [], args := [] }

/- WHAT THE LISTED PACKAGE-LEVEL VARIABLES READ AS WHEN THE CALL BEGINS. Each datum BY PROGRAM (the guide's laid-datum.mjs) off the statement by which the dump's own 'gosem.cut.vars' lays the variable. In a bare row this is a premise. The card (YtiacfejileeieaaDoorCards.lean) ties it to the program's text. -/
def laid_loop_example_g00856_impl_stitches {H : Type} : DataW H := .agg [.agg [.lit (.int .i32 0), .lit (.int .i64 0), .lit (.int .i64 0), .lit (.int .i64 0)], .agg [.lit (.int .i32 107), .lit (.int .i64 1), .lit (.int .i64 1), .lit (.int .i64 1)], .agg [.lit (.int .i32 112), .lit (.int .i64 1), .lit (.int .i64 1), .lit (.int .i64 2)], .agg [.lit (.int .i32 111), .lit (.int .i64 0), .lit (.int .i64 1), .lit (.int .i64 3)], .agg [.lit (.int .i32 100), .lit (.int .i64 2), .lit (.int .i64 1), .lit (.int .i64 5)], .agg [.lit (.int .i32 101), .lit (.int .i64 2), .lit (.int .i64 1), .lit (.int .i64 4)], .agg [.lit (.int .i32 116), .lit (.int .i64 1), .lit (.int .i64 1), .lit (.int .i64 6)], .agg [.lit (.int .i32 115), .lit (.int .i64 1), .lit (.int .i64 1), .lit (.int .i64 7)], .agg [.lit (.int .i32 120), .lit (.int .i64 2), .lit (.int .i64 2), .lit (.int .i64 9)], .agg [.lit (.int .i32 121), .lit (.int .i64 2), .lit (.int .i64 2), .lit (.int .i64 8)], .agg [.lit (.int .i32 88), .lit (.int .i64 4), .lit (.int .i64 4), .lit (.int .i64 11)], .agg [.lit (.int .i32 89), .lit (.int .i64 4), .lit (.int .i64 4), .lit (.int .i64 10)]]
def laid_loop_example_g00856_impl_errNotChart {H : Type} : DataW H := .iface "*errors.errorString" (.ptr (.agg [.lit (.string [116, 104, 101, 32, 99, 104, 97, 114, 116, 32, 105, 115, 32, 110, 111, 116, 32, 118, 97, 108, 105, 100])]))
def laid_loop_example_g00856_impl_errNotCable {H : Type} : DataW H := .iface "*errors.errorString" (.ptr (.agg [.lit (.string [116, 104, 101, 32, 99, 104, 97, 114, 116, 32, 104, 97, 115, 32, 97, 32, 115, 116, 105, 116, 99, 104, 32, 116, 104, 97, 116, 32, 105, 115, 32, 110, 111, 110, 101, 32, 111, 102, 32, 97, 32, 99, 97, 98, 108, 101])]))

/-- 'laws.FnExactRowLetters': WHATEVER THE INPUT: true; the input reads as it did. -/
def fnExactRowLettersSpec : ChangeSpec := { name := "fnExactRowLetters", vars := ["loop.example/g00856/impl.stitches"], fn := fun _ => fun
  | [d, g1] => { results := [.lit (.bool true)], args := [d], vars := [g1] }
  | _ => none }
def fnExactRowLettersRow : OpenClaim := { program := "ytiacfejileeieaadoor", sum := "35cf494587431cc68185ff92f4a72fa4add3b48d6e5e75bf120b6210faf81e30", func := "loop.example/g00856/laws.FnExactRowLetters", spec := "fnExactRowLetters", unfollowed := true, recurses := true, named := ["loop.example/g00856/impl.stitches"], apart := false, laid := [("loop.example/g00856/impl.stitches", laid_loop_example_g00856_impl_stitches)] }
def FnExactRowLettersSaid : Prop := fnExactRowLettersRow.holds Tryd.pinned (OpenSpec.ofChange fnExactRowLettersSpec)

/-- ITS FALSE NEIGHBOUR: 'it returns false'. Refute it at one input. -/
def fnExactRowLettersWrong : ChangeSpec := { name := "fnExactRowLetters", vars := ["loop.example/g00856/impl.stitches"], fn := fun _ => fun
  | [d, g1] => { results := [.lit (.bool false)], args := [d], vars := [g1] }
  | _ => none }
def FnExactRowLettersWrongFalsely : Prop := fnExactRowLettersRow.holds Tryd.pinned (OpenSpec.ofChange fnExactRowLettersWrong)

/-- 'laws.FnExactIsCable': WHATEVER THE INPUT: true; the input reads as it did. -/
def fnExactIsCableSpec : ChangeSpec := { name := "fnExactIsCable", vars := ["loop.example/g00856/impl.errNotChart", "loop.example/g00856/impl.errNotCable", "loop.example/g00856/impl.stitches"], fn := fun _ => fun
  | [d, g1, g2, g3] => { results := [.lit (.bool true)], args := [d], vars := [g1, g2, g3] }
  | _ => none }
def fnExactIsCableRow : OpenClaim := { program := "ytiacfejileeieaadoor", sum := "35cf494587431cc68185ff92f4a72fa4add3b48d6e5e75bf120b6210faf81e30", func := "loop.example/g00856/laws.FnExactIsCable", spec := "fnExactIsCable", unfollowed := true, recurses := true, named := ["loop.example/g00856/impl.errNotChart", "loop.example/g00856/impl.errNotCable", "loop.example/g00856/impl.stitches"], ifaces := true, apart := false, laid := [("loop.example/g00856/impl.stitches", laid_loop_example_g00856_impl_stitches), ("loop.example/g00856/impl.errNotChart", laid_loop_example_g00856_impl_errNotChart), ("loop.example/g00856/impl.errNotCable", laid_loop_example_g00856_impl_errNotCable)] }
def FnExactIsCableSaid : Prop := fnExactIsCableRow.holds Tryd.pinned (OpenSpec.ofChange fnExactIsCableSpec)

/-- ITS FALSE NEIGHBOUR: 'it returns false'. Refute it at one input. -/
def fnExactIsCableWrong : ChangeSpec := { name := "fnExactIsCable", vars := ["loop.example/g00856/impl.errNotChart", "loop.example/g00856/impl.errNotCable", "loop.example/g00856/impl.stitches"], fn := fun _ => fun
  | [d, g1, g2, g3] => { results := [.lit (.bool false)], args := [d], vars := [g1, g2, g3] }
  | _ => none }
def FnExactIsCableWrongFalsely : Prop := fnExactIsCableRow.holds Tryd.pinned (OpenSpec.ofChange fnExactIsCableWrong)

/-- 'laws.FnExactRowBraid': WHATEVER THE INPUT: true; the input reads as it did. -/
def fnExactRowBraidSpec : ChangeSpec := { name := "fnExactRowBraid", vars := ["loop.example/g00856/impl.stitches"], fn := fun _ => fun
  | [d1, d2, g1] => { results := [.lit (.bool true)], args := [d1, d2], vars := [g1] }
  | _ => none }
def fnExactRowBraidRow : OpenClaim := { program := "ytiacfejileeieaadoor", sum := "35cf494587431cc68185ff92f4a72fa4add3b48d6e5e75bf120b6210faf81e30", func := "loop.example/g00856/laws.FnExactRowBraid", spec := "fnExactRowBraid", unfollowed := true, recurses := true, named := ["loop.example/g00856/impl.stitches"], apart := false, laid := [("loop.example/g00856/impl.stitches", laid_loop_example_g00856_impl_stitches)] }
def FnExactRowBraidSaid : Prop := fnExactRowBraidRow.holds Tryd.pinned (OpenSpec.ofChange fnExactRowBraidSpec)

/-- ITS FALSE NEIGHBOUR: 'it returns false'. Refute it at one input. -/
def fnExactRowBraidWrong : ChangeSpec := { name := "fnExactRowBraid", vars := ["loop.example/g00856/impl.stitches"], fn := fun _ => fun
  | [d1, d2, g1] => { results := [.lit (.bool false)], args := [d1, d2], vars := [g1] }
  | _ => none }
def FnExactRowBraidWrongFalsely : Prop := fnExactRowBraidRow.holds Tryd.pinned (OpenSpec.ofChange fnExactRowBraidWrong)

/- THE SECOND FORM. 'bulk': how many values and letters a reading holds, each counted each time it is reached (what is shared counts as often as it is met; a slice's spare places count too). A statement '..UptoSaid' is the law's where the arguments, and the package variables that the reading takes, are together of bulk at most 1048576: NARROWER than '..Said'. Prove '..Said' where nothing that the law and all that it calls make is longer than what came in: it says more and counts as full. Else prove '..UptoSaid'. A law counts once. -/
mutual
def uptoBulk {H : Type} : DataW H → Nat
  | .lit (.string bytes) => bytes.length + 1
  | .lit _ => 1
  | .nil => 1
  | .ptr d => uptoBulk d + 1
  | .slice elems spare => uptoBulkAll elems + uptoBulkAll spare + 1
  | .agg parts => uptoBulkAll parts + 1
  | .iface _ d => uptoBulk d + 1
  | .map entries => uptoBulkEntries entries + 1
  | .held _ => 1
def uptoBulkAll {H : Type} : List (DataW H) → Nat
  | [] => 0
  | d :: r => uptoBulk d + uptoBulkAll r
def uptoBulkEntries {H : Type} : List (Lit × DataW H) → Nat
  | [] => 0
  | x :: r => uptoBulkEntry x + uptoBulkEntries r
def uptoBulkEntry {H : Type} : Lit × DataW H → Nat
  | (.string bytes, d) => bytes.length + uptoBulk d + 1
  | (_, d) => uptoBulk d + 1
 end
def uptoSmall : (H : Type) → List (DataW H) → Bool := fun _ ds => decide (uptoBulkAll ds ≤ 1048576)
def OpenSpec.upto (s : _root_.Go.ChangeSpec) : _root_.Go.OpenSpec := { _root_.Go.OpenSpec.ofChange s with cond := some uptoSmall }

/-- 'laws.FnExactRowLetters', WHERE WHAT IT READS IS OF BULK AT MOST 1048576: true; the input reads as it did. -/
def fnExactRowLettersUptoRow : OpenClaim := { program := "ytiacfejileeieaadoor", sum := "35cf494587431cc68185ff92f4a72fa4add3b48d6e5e75bf120b6210faf81e30", func := "loop.example/g00856/laws.FnExactRowLetters", spec := "fnExactRowLetters", unfollowed := true, recurses := true, named := ["loop.example/g00856/impl.stitches"], apart := false, laid := [("loop.example/g00856/impl.stitches", laid_loop_example_g00856_impl_stitches)], narrowed := true }
def FnExactRowLettersUptoSaid : Prop := fnExactRowLettersUptoRow.holds Tryd.pinned (OpenSpec.upto fnExactRowLettersSpec)

/-- 'laws.FnExactIsCable', WHERE WHAT IT READS IS OF BULK AT MOST 1048576: true; the input reads as it did. -/
def fnExactIsCableUptoRow : OpenClaim := { program := "ytiacfejileeieaadoor", sum := "35cf494587431cc68185ff92f4a72fa4add3b48d6e5e75bf120b6210faf81e30", func := "loop.example/g00856/laws.FnExactIsCable", spec := "fnExactIsCable", unfollowed := true, recurses := true, named := ["loop.example/g00856/impl.errNotChart", "loop.example/g00856/impl.errNotCable", "loop.example/g00856/impl.stitches"], ifaces := true, apart := false, laid := [("loop.example/g00856/impl.stitches", laid_loop_example_g00856_impl_stitches), ("loop.example/g00856/impl.errNotChart", laid_loop_example_g00856_impl_errNotChart), ("loop.example/g00856/impl.errNotCable", laid_loop_example_g00856_impl_errNotCable)], narrowed := true }
def FnExactIsCableUptoSaid : Prop := fnExactIsCableUptoRow.holds Tryd.pinned (OpenSpec.upto fnExactIsCableSpec)

/-- 'laws.FnExactRowBraid', WHERE WHAT IT READS IS OF BULK AT MOST 1048576: true; the input reads as it did. -/
def fnExactRowBraidUptoRow : OpenClaim := { program := "ytiacfejileeieaadoor", sum := "35cf494587431cc68185ff92f4a72fa4add3b48d6e5e75bf120b6210faf81e30", func := "loop.example/g00856/laws.FnExactRowBraid", spec := "fnExactRowBraid", unfollowed := true, recurses := true, named := ["loop.example/g00856/impl.stitches"], apart := false, laid := [("loop.example/g00856/impl.stitches", laid_loop_example_g00856_impl_stitches)], narrowed := true }
def FnExactRowBraidUptoSaid : Prop := fnExactRowBraidUptoRow.holds Tryd.pinned (OpenSpec.upto fnExactRowBraidSpec)

end Rows
end Go.Proofs.YtiacfejileeieaaDoor
