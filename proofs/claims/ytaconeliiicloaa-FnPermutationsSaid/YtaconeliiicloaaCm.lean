/-
  cmp.Compare of integers.
-/
import Derived.Test.YtaconeliiicloaaSl
namespace Go.Proofs.Ytaconeliiicloaa.mj
open Go.RowKit Go.Proofs.Ytaconeliiicloaa.sl

def cmpI (x y : Int) : Int := if x < y then -1 else if y < x then 1 else 0

theorem nanI (x : Int) (w : World) : Calls Try.prog 162 #[.int .i64 x] w fun e w' => e = .returned (.bool false) ∧ w' = w := by
  have h : (x != x) = false := by simp
  go_enter Try.func162, Try.ntmps162
  go_wp2
  go_ret
  exact ⟨rfl, rfl⟩

end Go.Proofs.Ytaconeliiicloaa.mj
