/-
  Contracts of both factorials and of RankOf, of the program and of its model.
-/
import Derived.Test.YtedajefapddekaaInvs
namespace Go.Proofs.Ytedajefapddekaa.bt
open Go.RowKit Go.Proofs.Ytedajefapddekaa.sl Go.Proofs.Ytedajefapddekaa.pm

def fact : Nat → Nat
  | 0 => 1
  | n + 1 => fact n * (n + 1)
theorem fact_pos (n : Nat) : 0 < fact n := by
  induction n with
  | zero => simp [fact]
  | succ n ih => exact Nat.mul_pos ih (by omega)
theorem fact_mono (n m : Nat) (h : n ≤ m) : fact n ≤ fact m := by
  induction m with
  | zero => obtain rfl : n = 0 := by omega
            exact Nat.le_refl _
  | succ m ih =>
    rcases Nat.lt_or_ge n (m + 1) with h1 | h1
    · exact Nat.le_trans (ih (by omega)) (Nat.le_mul_of_pos_right _ (by omega))
    · obtain rfl : n = m + 1 := by omega
      exact Nat.le_refl _
theorem fact_le (n : Nat) (h : n ≤ 12) : fact n ≤ 479001600 := fact_mono n 12 h
theorem mulw (a b : Nat) (h : a * b ≤ 9223372036854775807) : wrap64 ((a : Int) * (b : Int)) = ((a * b : Nat) : Int) := by
  rw [← Int.natCast_mul]
  exact IntWalk.wrap64_in _ ⟨by omega, by omega⟩

theorem fact_step (k : Nat) (hk : k + 1 ≤ 12) : wrap64 ((fact k : Int) * ((k : Int) + 1)) = (fact (k + 1) : Int) := by
  have hf := fact_le (k + 1) hk
  have hw := mulw (fact k) (k + 1) (by show fact (k + 1) ≤ _; omega)
  have e : ((k + 1 : Nat) : Int) = (k : Int) + 1 := by omega
  rw [e] at hw
  exact hw

/-! ### the rank -/
/-- How many smaller things stand behind thing i. -/
def lessL (p : List Int) (i : Nat) : Nat := sumN p.length fun j => pr p i j
theorem lessL_cnt (p : List Int) (hn : p.length ≤ 12) (i : Nat) : cnt 16 (row p i) = lessL p i := by
  rw [row_cnt]
  exact sum_more _ _ _ (by omega) (fun j hj _ => by unfold pr; rw [if_neg (by omega)])
theorem lessL_le (p : List Int) (i : Nat) : lessL p i ≤ p.length := by
  have := sum_le p.length 1 (fun j => pr p i j) (fun j _ => pr_le p i j)
  unfold lessL; omega
/-- The program's way: the digits one after the other. -/
def horner (p : List Int) : Nat → Nat
  | 0 => 0
  | k + 1 => horner p k * (p.length - k) + lessL p k
def rankN (p : List Int) : Nat := horner p p.length
theorem horner_le (p : List Int) (hn : p.length ≤ 12) (k : Nat) : horner p k ≤ 13 ^ k - 1 := by
  induction k with
  | zero => simp [horner]
  | succ k ih =>
    have h1 := lessL_le p k
    have h2 : horner p k * (p.length - k) ≤ (13 ^ k - 1) * 12 := Nat.mul_le_mul ih (by omega)
    have h3 : 0 < 13 ^ k := Nat.pow_pos (by omega)
    rw [horner, Nat.pow_succ]
    omega
theorem horner_sum (p : List Int) (k : Nat) (hk : k ≤ p.length) : (sumN k fun i => lessL p i * fact (p.length - 1 - i)) = horner p k * fact (p.length - k) := by
  induction k with
  | zero => simp [sumN, horner]
  | succ k ih =>
    rw [sumN, ih (by omega), horner]
    have e : p.length - k = (p.length - (k + 1)) + 1 := by omega
    have e2 : p.length - 1 - k = p.length - (k + 1) := by omega
    rw [e2, e, fact, Nat.add_mul, ← e]
    congr 1
    rw [Nat.mul_assoc, Nat.mul_comm (fact (p.length - (k + 1)))]
theorem horner_all (p : List Int) : (sumN p.length fun i => lessL p i * fact (p.length - 1 - i)) = rankN p := by
  rw [horner_sum p p.length (Nat.le_refl _), Nat.sub_self]; simp [fact, rankN]
def rankP (p : List Int) : Int := if permB p = true then (rankN p : Int) else -1

theorem horner_step (p : List Int) (hn : p.length ≤ 12) (k : Nat) (hk : k < p.length) : wrap64 (wrap64 ((horner p k : Int) * ((p.length : Int) - (k : Int))) + (lessL p k : Int)) = (horner p (k + 1) : Int) := by
  have h1 := horner_le p hn k
  have h2 := horner_le p hn (k + 1)
  have h3 := lessL_le p k
  have h4 : 13 ^ (k + 1) ≤ 13 ^ 12 := Nat.pow_le_pow_right (by omega) (by omega)
  have h5 : (13 : Nat) ^ 12 = 23298085122481 := by decide
  have e : (p.length : Int) - (k : Int) = ((p.length - k : Nat) : Int) := by omega
  have h6 : horner p k * (p.length - k) + lessL p k = horner p (k + 1) := rfl
  rw [e, mulw _ _ (by omega), ← h6]
  rw [IntWalk.wrap64_in _ ⟨by omega, by omega⟩]
  omega

end Go.Proofs.Ytedajefapddekaa.bt
