/-
  strconv.FormatInt at base 10, over the shelf's contract of the function that it calls.
-/
import Derived.Test.YthpcfolmkfhgnaaDoorRows
import Derived.Test.YthpcfolmkfhgnaaDoorShelfFi
import Derived.WalkKit
import Derived.WalkSmall
import Derived.ProofKit
namespace Go.Proofs.YthpcfolmkfhgnaaDoor.fm
open Go.RowKit Go.Sort
theorem fmt (n : Int) (h0 : -9223372036854775808 ≤ n) (h1 : n ≤ 9223372036854775807) (w : World) (htab : Lib.TabIs Tryd.prog w "internal/strconv.uint64pow10" .u64 Lib.pow10Tab) :
    Calls Tryd.prog 25 #[.int .i64 n, .int .i64 10] w fun e w' => e = .returned (.string ⟨(Lib.itoa n).toArray⟩) ∧ ∃ k os, w' = grow (w.drewN k) os := by
  go_enter Tryd.func25, Tryd.ntmps25
  go_wp2_with fail
  refine (Tryd.internal_strconv_FormatInt_10 n h0 h1 _ htab).mono ?_
  rintro e w1 ⟨rfl, k, os, rfl⟩
  go_wp2
  go_ret
  exact ⟨rfl, k, os, rfl⟩
end Go.Proofs.YthpcfolmkfhgnaaDoor.fm
