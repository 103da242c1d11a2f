/-
  The library's table of powers of ten, read out of the list that a row lays; and the decimal forms of both sides.
-/
import Derived.Test.YtbonccflocogbaaDoorRows
import Derived.Test.YtbonccflocogbaaDoorDec
import Derived.Test.YtbonccflocogbaaDoorShelfFi
import Derived.WalkKit
import Derived.WalkSmall
import Derived.ProofKit
import Derived.Below
import Derived.MakeChecks
import Derived.Stop.LaidErr
import Derived.Lib.LaidTab
import Derived.Lib.QuietBelow
namespace Go.Proofs.YtbonccflocogbaaDoor.lt
open Go.RowKit Go.Sort
set_option linter.unusedVariables false

theorem gPow : Tryd.prog.globalNamed "internal/strconv.uint64pow10" = some 3 := by kernel_rfl

theorem tab {w : World} {l : List (String × DataW Unit)} {x y : String × DataW Unit}
    (hp : ((x :: y :: ("internal/strconv.uint64pow10", Rows.laid_internal_strconv_uint64pow10) :: l).all fun x => x.2.handleName?.isNone) = true)
    (h : laidMetH Tryd.prog (x :: y :: ("internal/strconv.uint64pow10", Rows.laid_internal_strconv_uint64pow10) :: l) w) :
    Lib.TabIs Tryd.prog w "internal/strconv.uint64pow10" .u64 Lib.pow10Tab := by
  rw [MakeChecks.laidMetH_plain _ _ _ hp] at h
  have h2 := h.tail.tail
  exact Lib.tabIs_of_head gPow (t := 103) (e := 75) (n := 20) (by kernel_rfl) (by kernel_rfl) (by kernel_rfl) (by kernel_rfl) (by kernel_rfl) h2

theorem carry {w w' : World} (h : Lib.TabIs Tryd.prog w "internal/strconv.uint64pow10" .u64 Lib.pow10Tab) (hb : Below w.heap.size w w') : Lib.TabIs Tryd.prog w' "internal/strconv.uint64pow10" .u64 Lib.pow10Tab :=
  var?_below hb gPow (block_lt_of_cell (h.cell gPow 0 (by decide))) h

theorem i64 {n : Int} (h : (Lit.int .i64 n).wf = true) : -9223372036854775808 ≤ n ∧ n ≤ 9223372036854775807 := by
  have h1 : IntKind.i64.min = -9223372036854775808 := by decide
  have h2 : IntKind.i64.max = 9223372036854775807 := by decide
  simp [Lit.wf, h1, h2] at h; omega

/-- The program's decimal form of every int64. -/
theorem implDecimal (n : Int) (w : World) (h0 : -9223372036854775808 ≤ n) (h1 : n ≤ 9223372036854775807) (hT : Lib.TabIs Tryd.prog w "internal/strconv.uint64pow10" .u64 Lib.pow10Tab) :
    Calls Tryd.prog 26 #[.int .i64 n] w fun e w' => e = .returned (.string ⟨(Lib.itoa n).toArray⟩) ∧ Below w.heap.size w w' := by
  go_enter Tryd.func26, Tryd.ntmps26
  go_wp2_with fail
  refine (Tryd.strconv_FormatInt_10 _ h0 h1 _ hT).mono ?_
  rintro e w1 ⟨rfl, k, os, hb1⟩
  have hb : Below w.heap.size w w1 := by rw [hb1]; exact below_regrown w (w.drawn + k) os
  clear hb1
  go_wp2
  go_ret
  exact ⟨rfl, hb⟩

end Go.Proofs.YtbonccflocogbaaDoor.lt
