/-
  Contracts of InversionsOf, of the program and of its model: both count the pairs that change their order.
-/
import Derived.Test.YtedajefapddekaaBits
namespace Go.Proofs.Ytedajefapddekaa.bt
open Go.RowKit Go.Proofs.Ytedajefapddekaa.sl Go.Proofs.Ytedajefapddekaa.pm

def sumN : Nat → (Nat → Nat) → Nat
  | 0, _ => 0
  | n + 1, f => sumN n f + f n
theorem sum_congr (n : Nat) (f g : Nat → Nat) (h : ∀ i, i < n → f i = g i) : sumN n f = sumN n g := by
  induction n with
  | zero => rfl
  | succ n ih => rw [sumN, sumN, ih (fun i hi => h i (by omega)), h n (by omega)]
theorem sum_zero (n : Nat) (f : Nat → Nat) (h : ∀ i, i < n → f i = 0) : sumN n f = 0 := by
  induction n with
  | zero => rfl
  | succ n ih => rw [sumN, ih (fun i hi => h i (by omega)), h n (by omega)]
theorem sum_add (n : Nat) (f g : Nat → Nat) : sumN n (fun i => f i + g i) = sumN n f + sumN n g := by
  induction n with
  | zero => rfl
  | succ n ih => simp only [sumN, ih]; omega
theorem sum_swap (n m : Nat) (g : Nat → Nat → Nat) : sumN n (fun i => sumN m (fun j => g i j)) = sumN m (fun j => sumN n (fun i => g i j)) := by
  induction n with
  | zero => simp only [sumN]; exact (sum_zero m _ (fun _ _ => rfl)).symm
  | succ n ih =>
    rw [sumN, ih, ← sum_add]
    rfl
theorem sum_more (n m : Nat) (f : Nat → Nat) (hnm : n ≤ m) (h : ∀ i, n ≤ i → i < m → f i = 0) : sumN m f = sumN n f := by
  induction m with
  | zero => obtain rfl : n = 0 := by omega
            rfl
  | succ m ih =>
    rcases Nat.lt_or_ge n (m + 1) with h1 | h1
    · rw [sumN, ih (by omega) (fun i a b => h i a (by omega)), h m (by omega) (by omega)]; omega
    · obtain rfl : n = m + 1 := by omega
      rfl
theorem sum_le (n c : Nat) (f : Nat → Nat) (h : ∀ i, i < n → f i ≤ c) : sumN n f ≤ n * c := by
  induction n with
  | zero => simp [sumN]
  | succ n ih =>
    have h1 := ih (fun i hi => h i (by omega))
    have h2 := h n (by omega)
    rw [sumN, Nat.add_mul]; omega

/-- 1 where the things i and j change their order. -/
def pr (p : List Int) (i j : Nat) : Nat := if i < j ∧ j < p.length ∧ p.getD j 0 < p.getD i 0 then 1 else 0
theorem pr_le (p : List Int) (i j : Nat) : pr p i j ≤ 1 := by unfold pr; split <;> omega
/-- How many pairs change their order. -/
def invs (p : List Int) : Nat := sumN p.length fun j => sumN j fun i => pr p i j

theorem cnt_sum (f x : Nat) : cnt f x = sumN f fun b => if x.testBit b = true then 1 else 0 := by
  induction f with
  | zero => rfl
  | succ f ih =>
    rw [sumN, ← ih]
    unfold cnt
    rw [List.range_succ, List.countP_append]
    simp only [List.countP_cons, List.countP_nil]
    omega
theorem row_cnt (p : List Int) (i : Nat) : cnt 16 (row p i) = sumN 16 fun j => pr p i j := by
  rw [cnt_sum]
  apply sum_congr
  intro j _
  rw [row, rowTo_bit]
  unfold pr
  by_cases h : i < j ∧ j < p.length ∧ p.getD j 0 < p.getD i 0
  · rw [if_pos h, if_pos (by simp only [decide_eq_true_eq]; exact ⟨h.2.1, h.1, h.2.2⟩)]
  · rw [if_neg h, if_neg (by simp only [decide_eq_true_eq]; rintro ⟨a, b, c⟩; exact h ⟨b, a, c⟩)]
theorem rows_sum (p : List Int) (hn : p.length ≤ 12) : sumN 12 (fun i => cnt 16 (row p i)) = invs p := by
  rw [sum_congr 12 _ _ (fun i _ => row_cnt p i), sum_swap]
  have h1 : sumN 16 (fun j => sumN 12 fun i => pr p i j) = sumN p.length (fun j => sumN 12 fun i => pr p i j) :=
    sum_more _ _ _ (by omega) (fun j hj _ => sum_zero _ _ (fun i _ => by unfold pr; rw [if_neg (by omega)]))
  rw [h1]
  apply sum_congr
  intro j hj
  exact sum_more _ _ _ (by omega) (fun i hi _ => by unfold pr; rw [if_neg (by omega)])
theorem invs_le (p : List Int) (hn : p.length ≤ 12) : invs p ≤ 144 := by
  have h1 := sum_le p.length 12 (fun j => sumN j fun i => pr p i j) (fun j hj => by
    have := sum_le j 1 (fun i => pr p i j) (fun i _ => pr_le p i j)
    omega)
  have h2 : p.length * 12 ≤ 12 * 12 := Nat.mul_le_mul_right _ hn
  unfold invs
  omega

def invP (p : List Int) : Int := if permB p = true then (invs p : Int) else -1

theorem pr_yes (p : List Int) (i j : Nat) (h : i < j ∧ j < p.length ∧ p.getD j 0 < p.getD i 0) : pr p i j = 1 := by unfold pr; rw [if_pos h]
theorem pr_no (p : List Int) (i j : Nat) (h : ¬ p.getD j 0 < p.getD i 0) : pr p i j = 0 := by unfold pr; rw [if_neg (by rintro ⟨_, _, h'⟩; exact h h')]

end Go.Proofs.Ytedajefapddekaa.bt
