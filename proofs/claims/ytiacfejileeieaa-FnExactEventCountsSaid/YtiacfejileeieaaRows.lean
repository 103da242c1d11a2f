/-
  No cell of these rows narrows 'for every input' (looked for: loops, veiled, ifaces, maps, wideKeys, modest, calm, conditions, laid).
  DERIVED. THE GIVEN ROWS OF THIS SEAT. 8 by the template 'for every input the law returns true; each argument reads behind the call as it read before'; 0 by the template 'total and deterministic' (their statements: YtiacfejileeieaaTotals.lean).
  GIVEN WITH THE SEED: the statements are not yours to turn. If you find one false, say at which input.
  Laid BY PROGRAM, IN A SANDBOX (cutbox-rows.mjs): the forced cells as the released guide's own fill.sh prints them over the translation fc830f2a3ed94b28… (all of the seat's roots in one cut). By AI agents, Wed Nov 11 2026. No macro, syntax, notation, axiom, sorry.
-/
import Derived.Test.YtiacfejileeieaaChecked
import GoSem.Claim
import GoSem.ClaimJoined
import GoSem.ClaimMapViews
import Derived.JoinedTies
import Derived.KernelRfl
namespace Go.Proofs.Ytiacfejileeieaa
/- THE CELL 'sum', in the pinned program and in every row, IS THE sha256 OF THE DUMP (.gsa) THAT YtiacfejileeieaaProg.lean LOADS. Nothing in Lean hashes anything: it is a label: what it is worth is what the hold of that sum in a sandbox is worth. -/
noncomputable def Try.pinned : Pinned := { name := "ytiacfejileeieaa", sum := "fc830f2a3ed94b285ccf859b4fcd2a6331962b0a9a831e8a1b08786bc1564b40", checked := Try.checked }
namespace Rows
def none {H : Type} : Left H := { results := [], args := [] }

/-- 'laws.FnExactValidSizes': WHATEVER THE INPUT: true; the input reads as it did. -/
def fnExactValidSizesSpec : ChangeSpec := { name := "fnExactValidSizes", fn := fun _ => fun
  | [d] => { results := [.lit (.bool true)], args := [d] }
  | _ => none }
def fnExactValidSizesRow : OpenClaim := { program := "ytiacfejileeieaa", sum := "fc830f2a3ed94b285ccf859b4fcd2a6331962b0a9a831e8a1b08786bc1564b40", func := "loop.example/g00856/laws.FnExactValidSizes", spec := "fnExactValidSizes", unfollowed := true, recurses := true, apart := false }
def FnExactValidSizesSaid : Prop := fnExactValidSizesRow.holds Try.pinned (OpenSpec.ofChange fnExactValidSizesSpec)

/-- ITS FALSE NEIGHBOUR: 'it returns false'. Refute it at one input. -/
def fnExactValidSizesWrong : ChangeSpec := { name := "fnExactValidSizes", fn := fun _ => fun
  | [d] => { results := [.lit (.bool false)], args := [d] }
  | _ => none }
def FnExactValidSizesWrongFalsely : Prop := fnExactValidSizesRow.holds Try.pinned (OpenSpec.ofChange fnExactValidSizesWrong)

/-- 'laws.FnExactYarnOrder': WHATEVER THE INPUT: true; the input reads as it did. -/
def fnExactYarnOrderSpec : ChangeSpec := { name := "fnExactYarnOrder", fn := fun _ => fun
  | [d] => { results := [.lit (.bool true)], args := [d] }
  | _ => none }
def fnExactYarnOrderRow : OpenClaim := { program := "ytiacfejileeieaa", sum := "fc830f2a3ed94b285ccf859b4fcd2a6331962b0a9a831e8a1b08786bc1564b40", func := "loop.example/g00856/laws.FnExactYarnOrder", spec := "fnExactYarnOrder", unfollowed := true, recurses := true, apart := false }
def FnExactYarnOrderSaid : Prop := fnExactYarnOrderRow.holds Try.pinned (OpenSpec.ofChange fnExactYarnOrderSpec)

/-- ITS FALSE NEIGHBOUR: 'it returns false'. Refute it at one input. -/
def fnExactYarnOrderWrong : ChangeSpec := { name := "fnExactYarnOrder", fn := fun _ => fun
  | [d] => { results := [.lit (.bool false)], args := [d] }
  | _ => none }
def FnExactYarnOrderWrongFalsely : Prop := fnExactYarnOrderRow.holds Try.pinned (OpenSpec.ofChange fnExactYarnOrderWrong)

/-- 'laws.FnExactHandCastOn': WHATEVER THE INPUT: true; the input reads as it did. -/
def fnExactHandCastOnSpec : ChangeSpec := { name := "fnExactHandCastOn", fn := fun _ => fun
  | [d1, d2] => { results := [.lit (.bool true)], args := [d1, d2] }
  | _ => none }
def fnExactHandCastOnRow : OpenClaim := { program := "ytiacfejileeieaa", sum := "fc830f2a3ed94b285ccf859b4fcd2a6331962b0a9a831e8a1b08786bc1564b40", func := "loop.example/g00856/laws.FnExactHandCastOn", spec := "fnExactHandCastOn", apart := false }
def FnExactHandCastOnSaid : Prop := fnExactHandCastOnRow.holds Try.pinned (OpenSpec.ofChange fnExactHandCastOnSpec)

/-- ITS FALSE NEIGHBOUR: 'it returns false'. Refute it at one input. -/
def fnExactHandCastOnWrong : ChangeSpec := { name := "fnExactHandCastOn", fn := fun _ => fun
  | [d1, d2] => { results := [.lit (.bool false)], args := [d1, d2] }
  | _ => none }
def FnExactHandCastOnWrongFalsely : Prop := fnExactHandCastOnRow.holds Try.pinned (OpenSpec.ofChange fnExactHandCastOnWrong)

/-- 'laws.FnExactColumnAt': WHATEVER THE INPUT: true; the input reads as it did. -/
def fnExactColumnAtSpec : ChangeSpec := { name := "fnExactColumnAt", fn := fun _ => fun
  | [d1, d2] => { results := [.lit (.bool true)], args := [d1, d2] }
  | _ => none }
def fnExactColumnAtRow : OpenClaim := { program := "ytiacfejileeieaa", sum := "fc830f2a3ed94b285ccf859b4fcd2a6331962b0a9a831e8a1b08786bc1564b40", func := "loop.example/g00856/laws.FnExactColumnAt", spec := "fnExactColumnAt", unfollowed := true, recurses := true, apart := false }
def FnExactColumnAtSaid : Prop := fnExactColumnAtRow.holds Try.pinned (OpenSpec.ofChange fnExactColumnAtSpec)

/-- ITS FALSE NEIGHBOUR: 'it returns false'. Refute it at one input. -/
def fnExactColumnAtWrong : ChangeSpec := { name := "fnExactColumnAt", fn := fun _ => fun
  | [d1, d2] => { results := [.lit (.bool false)], args := [d1, d2] }
  | _ => none }
def FnExactColumnAtWrongFalsely : Prop := fnExactColumnAtRow.holds Try.pinned (OpenSpec.ofChange fnExactColumnAtWrong)

/-- 'laws.FnExactFirstOf': WHATEVER THE INPUT: true; the input reads as it did. -/
def fnExactFirstOfSpec : ChangeSpec := { name := "fnExactFirstOf", fn := fun _ => fun
  | [d1, d2] => { results := [.lit (.bool true)], args := [d1, d2] }
  | _ => none }
def fnExactFirstOfRow : OpenClaim := { program := "ytiacfejileeieaa", sum := "fc830f2a3ed94b285ccf859b4fcd2a6331962b0a9a831e8a1b08786bc1564b40", func := "loop.example/g00856/laws.FnExactFirstOf", spec := "fnExactFirstOf", unfollowed := true, recurses := true, apart := false }
def FnExactFirstOfSaid : Prop := fnExactFirstOfRow.holds Try.pinned (OpenSpec.ofChange fnExactFirstOfSpec)

/-- ITS FALSE NEIGHBOUR: 'it returns false'. Refute it at one input. -/
def fnExactFirstOfWrong : ChangeSpec := { name := "fnExactFirstOf", fn := fun _ => fun
  | [d1, d2] => { results := [.lit (.bool false)], args := [d1, d2] }
  | _ => none }
def FnExactFirstOfWrongFalsely : Prop := fnExactFirstOfRow.holds Try.pinned (OpenSpec.ofChange fnExactFirstOfWrong)

/-- 'laws.FnExactEventCounts': WHATEVER THE INPUT: true; the input reads as it did. -/
def fnExactEventCountsSpec : ChangeSpec := { name := "fnExactEventCounts", fn := fun _ => fun
  | [d] => { results := [.lit (.bool true)], args := [d] }
  | _ => none }
def fnExactEventCountsRow : OpenClaim := { program := "ytiacfejileeieaa", sum := "fc830f2a3ed94b285ccf859b4fcd2a6331962b0a9a831e8a1b08786bc1564b40", func := "loop.example/g00856/laws.FnExactEventCounts", spec := "fnExactEventCounts", apart := false }
def FnExactEventCountsSaid : Prop := fnExactEventCountsRow.holds Try.pinned (OpenSpec.ofChange fnExactEventCountsSpec)

/-- ITS FALSE NEIGHBOUR: 'it returns false'. Refute it at one input. -/
def fnExactEventCountsWrong : ChangeSpec := { name := "fnExactEventCounts", fn := fun _ => fun
  | [d] => { results := [.lit (.bool false)], args := [d] }
  | _ => none }
def FnExactEventCountsWrongFalsely : Prop := fnExactEventCountsRow.holds Try.pinned (OpenSpec.ofChange fnExactEventCountsWrong)

/-- 'laws.FnExactPackLetters': WHATEVER THE INPUT: true; the input reads as it did. -/
def fnExactPackLettersSpec : ChangeSpec := { name := "fnExactPackLetters", fn := fun _ => fun
  | [d] => { results := [.lit (.bool true)], args := [d] }
  | _ => none }
def fnExactPackLettersRow : OpenClaim := { program := "ytiacfejileeieaa", sum := "fc830f2a3ed94b285ccf859b4fcd2a6331962b0a9a831e8a1b08786bc1564b40", func := "loop.example/g00856/laws.FnExactPackLetters", spec := "fnExactPackLetters", unfollowed := true, recurses := true, apart := false }
def FnExactPackLettersSaid : Prop := fnExactPackLettersRow.holds Try.pinned (OpenSpec.ofChange fnExactPackLettersSpec)

/-- ITS FALSE NEIGHBOUR: 'it returns false'. Refute it at one input. -/
def fnExactPackLettersWrong : ChangeSpec := { name := "fnExactPackLetters", fn := fun _ => fun
  | [d] => { results := [.lit (.bool false)], args := [d] }
  | _ => none }
def FnExactPackLettersWrongFalsely : Prop := fnExactPackLettersRow.holds Try.pinned (OpenSpec.ofChange fnExactPackLettersWrong)

/-- 'laws.FnExactRowOfLetters': WHATEVER THE INPUT: true; the input reads as it did. -/
def fnExactRowOfLettersSpec : ChangeSpec := { name := "fnExactRowOfLetters", fn := fun _ => fun
  | [d1, d2, d3, d4] => { results := [.lit (.bool true)], args := [d1, d2, d3, d4] }
  | _ => none }
def fnExactRowOfLettersRow : OpenClaim := { program := "ytiacfejileeieaa", sum := "fc830f2a3ed94b285ccf859b4fcd2a6331962b0a9a831e8a1b08786bc1564b40", func := "loop.example/g00856/laws.FnExactRowOfLetters", spec := "fnExactRowOfLetters", inPlace := ["slices.overlaps[int64]"], unfollowed := true, recurses := true, apart := false }
def FnExactRowOfLettersSaid : Prop := fnExactRowOfLettersRow.holds Try.pinned (OpenSpec.ofChange fnExactRowOfLettersSpec)

/-- ITS FALSE NEIGHBOUR: 'it returns false'. Refute it at one input. -/
def fnExactRowOfLettersWrong : ChangeSpec := { name := "fnExactRowOfLetters", fn := fun _ => fun
  | [d1, d2, d3, d4] => { results := [.lit (.bool false)], args := [d1, d2, d3, d4] }
  | _ => none }
def FnExactRowOfLettersWrongFalsely : Prop := fnExactRowOfLettersRow.holds Try.pinned (OpenSpec.ofChange fnExactRowOfLettersWrong)

/- THE SECOND FORM. 'bulk': how many values and letters a reading holds, each counted each time it is reached (what is shared counts as often as it is met; a slice's spare places count too). A statement '..UptoSaid' is the law's where the arguments, and the package variables that the reading takes, are together of bulk at most 1048576: NARROWER than '..Said'. Prove '..Said' where nothing that the law and all that it calls make is longer than what came in: it says more and counts as full. Else prove '..UptoSaid'. A law counts once. -/
mutual
def uptoBulk {H : Type} : DataW H → Nat
  | .lit (.string bytes) => bytes.length + 1
  | .lit _ => 1
  | .nil => 1
  | .ptr d => uptoBulk d + 1
  | .slice elems spare => uptoBulkAll elems + uptoBulkAll spare + 1
  | .agg parts => uptoBulkAll parts + 1
  | .iface _ d => uptoBulk d + 1
  | .map entries => uptoBulkEntries entries + 1
  | .held _ => 1
def uptoBulkAll {H : Type} : List (DataW H) → Nat
  | [] => 0
  | d :: r => uptoBulk d + uptoBulkAll r
def uptoBulkEntries {H : Type} : List (Lit × DataW H) → Nat
  | [] => 0
  | x :: r => uptoBulkEntry x + uptoBulkEntries r
def uptoBulkEntry {H : Type} : Lit × DataW H → Nat
  | (.string bytes, d) => bytes.length + uptoBulk d + 1
  | (_, d) => uptoBulk d + 1
 end
def uptoSmall : (H : Type) → List (DataW H) → Bool := fun _ ds => decide (uptoBulkAll ds ≤ 1048576)
def OpenSpec.upto (s : _root_.Go.ChangeSpec) : _root_.Go.OpenSpec := { _root_.Go.OpenSpec.ofChange s with cond := some uptoSmall }

/-- 'laws.FnExactValidSizes', WHERE WHAT IT READS IS OF BULK AT MOST 1048576: true; the input reads as it did. -/
def fnExactValidSizesUptoRow : OpenClaim := { program := "ytiacfejileeieaa", sum := "fc830f2a3ed94b285ccf859b4fcd2a6331962b0a9a831e8a1b08786bc1564b40", func := "loop.example/g00856/laws.FnExactValidSizes", spec := "fnExactValidSizes", unfollowed := true, recurses := true, apart := false, narrowed := true }
def FnExactValidSizesUptoSaid : Prop := fnExactValidSizesUptoRow.holds Try.pinned (OpenSpec.upto fnExactValidSizesSpec)

/-- 'laws.FnExactYarnOrder', WHERE WHAT IT READS IS OF BULK AT MOST 1048576: true; the input reads as it did. -/
def fnExactYarnOrderUptoRow : OpenClaim := { program := "ytiacfejileeieaa", sum := "fc830f2a3ed94b285ccf859b4fcd2a6331962b0a9a831e8a1b08786bc1564b40", func := "loop.example/g00856/laws.FnExactYarnOrder", spec := "fnExactYarnOrder", unfollowed := true, recurses := true, apart := false, narrowed := true }
def FnExactYarnOrderUptoSaid : Prop := fnExactYarnOrderUptoRow.holds Try.pinned (OpenSpec.upto fnExactYarnOrderSpec)

/-- 'laws.FnExactHandCastOn', WHERE WHAT IT READS IS OF BULK AT MOST 1048576: true; the input reads as it did. -/
def fnExactHandCastOnUptoRow : OpenClaim := { program := "ytiacfejileeieaa", sum := "fc830f2a3ed94b285ccf859b4fcd2a6331962b0a9a831e8a1b08786bc1564b40", func := "loop.example/g00856/laws.FnExactHandCastOn", spec := "fnExactHandCastOn", apart := false, narrowed := true }
def FnExactHandCastOnUptoSaid : Prop := fnExactHandCastOnUptoRow.holds Try.pinned (OpenSpec.upto fnExactHandCastOnSpec)

/-- 'laws.FnExactColumnAt', WHERE WHAT IT READS IS OF BULK AT MOST 1048576: true; the input reads as it did. -/
def fnExactColumnAtUptoRow : OpenClaim := { program := "ytiacfejileeieaa", sum := "fc830f2a3ed94b285ccf859b4fcd2a6331962b0a9a831e8a1b08786bc1564b40", func := "loop.example/g00856/laws.FnExactColumnAt", spec := "fnExactColumnAt", unfollowed := true, recurses := true, apart := false, narrowed := true }
def FnExactColumnAtUptoSaid : Prop := fnExactColumnAtUptoRow.holds Try.pinned (OpenSpec.upto fnExactColumnAtSpec)

/-- 'laws.FnExactFirstOf', WHERE WHAT IT READS IS OF BULK AT MOST 1048576: true; the input reads as it did. -/
def fnExactFirstOfUptoRow : OpenClaim := { program := "ytiacfejileeieaa", sum := "fc830f2a3ed94b285ccf859b4fcd2a6331962b0a9a831e8a1b08786bc1564b40", func := "loop.example/g00856/laws.FnExactFirstOf", spec := "fnExactFirstOf", unfollowed := true, recurses := true, apart := false, narrowed := true }
def FnExactFirstOfUptoSaid : Prop := fnExactFirstOfUptoRow.holds Try.pinned (OpenSpec.upto fnExactFirstOfSpec)

/-- 'laws.FnExactEventCounts', WHERE WHAT IT READS IS OF BULK AT MOST 1048576: true; the input reads as it did. -/
def fnExactEventCountsUptoRow : OpenClaim := { program := "ytiacfejileeieaa", sum := "fc830f2a3ed94b285ccf859b4fcd2a6331962b0a9a831e8a1b08786bc1564b40", func := "loop.example/g00856/laws.FnExactEventCounts", spec := "fnExactEventCounts", apart := false, narrowed := true }
def FnExactEventCountsUptoSaid : Prop := fnExactEventCountsUptoRow.holds Try.pinned (OpenSpec.upto fnExactEventCountsSpec)

/-- 'laws.FnExactPackLetters', WHERE WHAT IT READS IS OF BULK AT MOST 1048576: true; the input reads as it did. -/
def fnExactPackLettersUptoRow : OpenClaim := { program := "ytiacfejileeieaa", sum := "fc830f2a3ed94b285ccf859b4fcd2a6331962b0a9a831e8a1b08786bc1564b40", func := "loop.example/g00856/laws.FnExactPackLetters", spec := "fnExactPackLetters", unfollowed := true, recurses := true, apart := false, narrowed := true }
def FnExactPackLettersUptoSaid : Prop := fnExactPackLettersUptoRow.holds Try.pinned (OpenSpec.upto fnExactPackLettersSpec)

/-- 'laws.FnExactRowOfLetters', WHERE WHAT IT READS IS OF BULK AT MOST 1048576: true; the input reads as it did. -/
def fnExactRowOfLettersUptoRow : OpenClaim := { program := "ytiacfejileeieaa", sum := "fc830f2a3ed94b285ccf859b4fcd2a6331962b0a9a831e8a1b08786bc1564b40", func := "loop.example/g00856/laws.FnExactRowOfLetters", spec := "fnExactRowOfLetters", inPlace := ["slices.overlaps[int64]"], unfollowed := true, recurses := true, apart := false, narrowed := true }
def FnExactRowOfLettersUptoSaid : Prop := fnExactRowOfLettersUptoRow.holds Try.pinned (OpenSpec.upto fnExactRowOfLettersSpec)

end Rows
end Go.Proofs.Ytiacfejileeieaa
