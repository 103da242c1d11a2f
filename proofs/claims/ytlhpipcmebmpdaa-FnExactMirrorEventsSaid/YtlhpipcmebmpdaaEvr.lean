/-
  StitchesOf of both sides.
-/
import Derived.Test.YtlhpipcmebmpdaaEv6
import Derived.Shelf.Abstract
namespace Go.Proofs.Ytlhpipcmebmpdaa.ev
open Go.RowKit Go.Sort Go.Proofs.Ytlhpipcmebmpdaa.sl
set_option linter.unusedVariables false
set_option linter.unusedSimpArgs false

def isX (x : V) : Bool := x.a0 == 1
def stW (xs : List V) : List V := xs.filter fun x => !isX x
theorem stW_len (xs : List V) : (stW xs).length ≤ xs.length := List.length_filter_le _ _


theorem predX : PredFor isX 90 #[] := by
  intro x W
  obtain ⟨x0, x1, x2, x3, x4, x5⟩ := x
  obtain ⟨q, hq⟩ : ∃ q, q = (x0 == 1) := ⟨_, rfl⟩
  have HQ : Hid (isX ⟨x0, x1, x2, x3, x4, x5⟩ = q) := hid (by rw [hq]; rfl)
  rw [HQ.out]
  replace hq := hq.symm
  simp only [V.val, Array.append_empty]
  have hb := (Below.refl W.heap.size W).alloc (Nat.le_refl _) (.cells #[.int .i64 x0, .int .i64 x1, .int .i64 x2, .int .i64 x3, .int .i64 x4, .int .i64 x5] 97)
  go_enter Try.func90, Try.ntmps90
  go_wp2
  go_ret
  exact ⟨rfl, hb⟩

end Go.Proofs.Ytlhpipcmebmpdaa.ev
