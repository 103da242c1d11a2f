/-
  Letters of a row: mathematics.
-/
import Derived.Test.YtbbnheiibkcgiaaDoorSt3
import Derived.Test.YtbbnheiibkcgiaaDoorDb0
import Derived.Test.YtbbnheiibkcgiaaDoorVr5
namespace Go.Proofs.YtbbnheiibkcgiaaDoor.rl
open Go.Proofs.YtbbnheiibkcgiaaDoor.bw Go.Proofs.YtbbnheiibkcgiaaDoor.st
set_option linter.unusedVariables false

def cbN (k : Int) : Nat := if k = 9 ∨ k = 5 ∨ k = 8 then 1 else if k = 11 ∨ k = 10 then 2 else 0
def cbS (k : Int) : Int := if k = 9 ∨ k = 5 ∨ k = 11 then -1 else 1
/-- The letters of a stitch whose first column is c. -/
def lsW (k c : Int) : List Int := db.swO (cbS k) c (cbN k) (cbN k)
def lsS (k c : Int) : List Int := if k = 8 then [c + 1] else if k = 9 ∨ k = 5 then [-c - 1] else if k = 10 then [c + 2, c + 1, c + 3, c + 2] else if k = 11 then [-c - 2, -c - 1, -c - 3, -c - 2] else []
theorem cbS_pm (k : Int) : cbS k = 1 ∨ cbS k = -1 := by unfold cbS; split <;> simp
theorem cbN_le (k : Int) : cbN k ≤ 2 := by unfold cbN; split <;> (try split) <;> omega
theorem ls_same (k c : Int) : lsW k c = lsS k c := by
  unfold lsW lsS cbN cbS db.swO db.swI
  by_cases h8 : k = 8
  · subst h8; simp [List.range_succ]
  · by_cases h9 : k = 9 ∨ k = 5
    · have h1 : k = 9 ∨ k = 5 ∨ k = 8 := by omega
      have h2 : k = 9 ∨ k = 5 ∨ k = 11 := by omega
      rw [if_pos h1, if_pos h2, if_neg h8, if_pos h9]
      simp [List.range_succ]; omega
    · by_cases h10 : k = 10
      · subst h10; simp [List.range_succ]; omega
      · by_cases h11 : k = 11
        · subst h11; simp [List.range_succ]; omega
        · have h1 : ¬ (k = 9 ∨ k = 5 ∨ k = 8) := by omega
          have h2 : ¬ (k = 9 ∨ k = 5 ∨ k = 11) := by omega
          have h3 : ¬ (k = 11 ∨ k = 10) := by omega
          rw [if_neg h1, if_neg h2, if_neg h3, if_neg h8, if_neg h9, if_neg h10, if_neg h11]
          simp
theorem lsS_len (k c : Int) : (lsS k c).length ≤ 4 := by unfold lsS; split <;> (try split) <;> (try split) <;> (try split) <;> simp
/-- The letters of the first k stitches. -/
def rlT (xs : List Int) (k : Nat) : List Int := ((List.range k).map fun i => lsS (xs.getD i 0) (sF tk xs i)).flatten
theorem rlT_zero (xs : List Int) : rlT xs 0 = [] := rfl
theorem rlT_succ (xs : List Int) (k : Nat) : rlT xs (k + 1) = rlT xs k ++ lsS (xs.getD k 0) (sF tk xs k) := by simp [rlT, List.range_succ]
theorem rlT_len (xs : List Int) (k : Nat) : (rlT xs k).length ≤ 4 * k := by
  induction k with
  | zero => simp [rlT]
  | succ k ih => rw [rlT_succ, List.length_append]; have := lsS_len (xs.getD k 0) (sF tk xs k); omega
theorem lst_take {xs : List Int} (h : lst xs = true) (k : Nat) : lst (xs.take k) = true := by
  simp only [lst, Bool.and_eq_true, decide_eq_true_eq, List.all_eq_true] at h ⊢
  exact ⟨by rw [List.length_take]; omega, fun x hx => h.2 x (List.mem_of_mem_take hx)⟩
theorem tk_take {xs : List Int} (h : lst xs = true) (k : Nat) (hk : k ≤ xs.length) : tkS (xs.take k) = sF tk xs k := by
  rw [tkS_yes (lst_take h k)]
  unfold sF sumTo
  rw [List.length_take, Nat.min_eq_left hk, List.map_take, List.take_take, Nat.min_self]

/-- Whether a row is laid out, as a code. -/
def laQ (xs : List Int) : Bool := decide (1 ≤ tkS xs ∧ tkS xs ≤ 8) && decide (1 ≤ mdS xs ∧ mdS xs ≤ 8)
def laC (d c : Int) (xs : List Int) : Int := if vr5.rowB d c xs = true then (if laQ xs = true then 0 else 10) else 1
theorem la_no {d c : Int} {xs : List Int} (h : vr5.rowB d c xs = false) : laC d c xs = 1 := by simp [laC, h]
theorem la_bad {d c : Int} {xs : List Int} (h : vr5.rowB d c xs = true) (h2 : laQ xs = false) : laC d c xs = 10 := by simp [laC, h, h2]
theorem la_ok {d c : Int} {xs : List Int} (h : vr5.rowB d c xs = true) (h2 : laQ xs = true) : laC d c xs = 0 := by simp [laC, h, h2]
theorem row_lst {d c : Int} {xs : List Int} (h : vr5.rowB d c xs = true) : lst xs = true := by
  simp only [vr5.rowB, Bool.and_eq_true] at h
  exact h.2.2
theorem row_len {d c : Int} {xs : List Int} (h : vr5.rowB d c xs = true) : xs.length ≤ 16 := (lst_parts (row_lst h)).1
def rlW (d c : Int) (xs : List Int) : List Int := if laC d c xs = 0 then rlT xs xs.length else []
theorem rlW_len (d c : Int) (xs : List Int) : (rlW d c xs).length ≤ 1000 := by
  unfold rlW
  split
  · rename_i h
    have h1 : vr5.rowB d c xs = true := by
      cases hr : vr5.rowB d c xs
      · rw [la_no hr] at h; omega
      · rfl
    have := rlT_len xs xs.length
    have := row_len h1
    omega
  · simp
end Go.Proofs.YtbbnheiibkcgiaaDoor.rl
