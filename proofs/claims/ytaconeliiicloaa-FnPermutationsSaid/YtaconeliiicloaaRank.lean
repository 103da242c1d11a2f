/-
  Contract of the model's RankOf.
-/
import Derived.Test.YtaconeliiicloaaFact
namespace Go.Proofs.Ytaconeliiicloaa.bt
open Go.RowKit Go.Proofs.Ytaconeliiicloaa.sl Go.Proofs.Ytaconeliiicloaa.pm

/-- The model's sum after k things. -/
def rsum (p : List Int) (k : Nat) : Nat := sumN k fun i => lessL p i * fact (p.length - 1 - i)
theorem rsum_le (p : List Int) (hn : p.length ≤ 12) (k : Nat) (hk : k ≤ 12) : rsum p k ≤ 69000000000 := by
  have h := sum_le k 5748019200 (fun i => lessL p i * fact (p.length - 1 - i)) (fun i _ => by
    have h1 := lessL_le p i
    have h2 := fact_le (p.length - 1 - i) (by omega)
    have h3 : lessL p i * fact (p.length - 1 - i) ≤ 12 * 479001600 := Nat.mul_le_mul (by omega) h2
    omega)
  unfold rsum
  omega
theorem rsum_step (p : List Int) (hn : p.length ≤ 12) (k : Nat) (hk : k < p.length) : wrap64 ((rsum p k : Int) + wrap64 ((lessL p k : Int) * (fact (p.length - 1 - k) : Int))) = (rsum p (k + 1) : Int) := by
  have h1 := rsum_le p hn k (by omega)
  have h2 := lessL_le p k
  have h3 := fact_le (p.length - 1 - k) (by omega)
  have h4 : lessL p k * fact (p.length - 1 - k) ≤ 12 * 479001600 := Nat.mul_le_mul (by omega) h3
  have h5 : rsum p k + lessL p k * fact (p.length - 1 - k) = rsum p (k + 1) := rfl
  rw [mulw _ _ (by omega), ← h5]
  rw [IntWalk.wrap64_in _ ⟨by omega, by omega⟩]
  omega

end Go.Proofs.Ytaconeliiicloaa.bt
