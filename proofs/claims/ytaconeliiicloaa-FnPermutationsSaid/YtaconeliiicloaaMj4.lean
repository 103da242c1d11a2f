/-
  Pair sets: contracts of union and closed.
-/
import Derived.Test.YtaconeliiicloaaMj3
namespace Go.Proofs.Ytaconeliiicloaa.mj
open Go.RowKit Go.Proofs.Ytaconeliiicloaa.sl Go.Proofs.Ytaconeliiicloaa.bt Go.Proofs.Ytaconeliiicloaa.la

theorem rows_al {w : World} {b T : Nat} {f : Nat → Nat} (h : Rows12 w b T f) (o : Obj) : Rows12 (w.alloc o) b T f := by
  unfold Rows12
  rw [Below.heap_alloc w o b h.lt]
  exact h
theorem rows_other {w : World} {b T : Nat} {f : Nat → Nat} (h : Rows12 w b T f) (c i : Nat) (u : Value) (hc : b ≠ c) : Rows12 (w.setCell ⟨c, i, none⟩ u) b T f := by
  unfold Rows12
  rw [heap_setCell_other _ _ _ _ (by intro e; simp at e; omega)]
  exact h

/-! ### union -/
def uSt (f h : Nat → Nat) (k r : Nat) : Nat := if r < k then f r ||| h r else f r
theorem uSt_zero (f h : Nat → Nat) : uSt f h 0 = f := by funext r; simp [uSt]
theorem uSt_at (f h : Nat → Nat) (k : Nat) : uSt f h k k = f k := by simp [uSt]
theorem uSt_step (f h : Nat → Nat) (k r : Nat) : uSt f h (k + 1) r = if r = k then f k ||| h k else uSt f h k r := by
  unfold uSt
  by_cases e : r = k
  · subst e; rw [if_pos (by omega), if_pos rfl]
  · rw [if_neg e]
    by_cases h1 : r < k
    · rw [if_pos (by omega), if_pos h1]
    · rw [if_neg (by omega), if_neg h1]
theorem or_val2 (x y : Nat) (hx : x < 65536) (hy : y < 65536) : bits .or .u16 (x : Int) (y : Int) = ((x ||| y : Nat) : Int) := u16_or_nat x y hx hy

/-! ### closed -/
/-- Row r while pivot j has met the rows below i. -/
def pv (f : Nat → Nat) (j i r : Nat) : Nat := if r < i ∧ (f r).testBit j = true then f r ||| f j else f r
def cls (f : Nat → Nat) : Nat → Nat → Nat
  | 0 => f
  | j + 1 => pv (cls f j) j j
theorem pv_zero (f : Nat → Nat) (j : Nat) : pv f j 0 = f := by funext r; simp [pv]
theorem pv_self (f : Nat → Nat) (j i r : Nat) (h : i ≤ r) : pv f j i r = f r := by rw [pv, if_neg (by omega)]
theorem pv_no (f : Nat → Nat) (j i : Nat) (h : (f i).testBit j = false) : pv f j (i + 1) = pv f j i := by
  funext r
  unfold pv
  by_cases e : r = i
  · subst e; rw [h]; simp
  · by_cases h1 : r < i
    · have : r < i + 1 := by omega
      simp [h1, this]
    · have : ¬ r < i + 1 := by omega
      simp [h1, this]
theorem pv_yes (f : Nat → Nat) (j i : Nat) (h : (f i).testBit j = true) (r : Nat) : pv f j (i + 1) r = if r = i then f i ||| f j else pv f j i r := by
  by_cases e : r = i
  · subst e; rw [if_pos rfl, pv, if_pos ⟨by omega, h⟩]
  · rw [if_neg e]
    unfold pv
    by_cases h1 : r < i
    · have : r < i + 1 := by omega
      simp [h1, this]
    · have : ¬ r < i + 1 := by omega
      simp [h1, this]
theorem pv_lt (f : Nat → Nat) (hf : ∀ i, f i < 2 ^ 12) (j i r : Nat) : pv f j i r < 2 ^ 12 := by
  unfold pv
  split
  · exact Nat.or_lt_two_pow (hf r) (hf j)
  · exact hf r
theorem cls_lt (f : Nat → Nat) (hf : ∀ i, f i < 2 ^ 12) (j r : Nat) : cls f j r < 2 ^ 12 := by
  induction j generalizing r with
  | zero => exact hf r
  | succ j ih => exact pv_lt _ ih j j r
theorem cls_bits {n : Nat} {u : Nat → Nat → Bool} (f : Nat → Nat) (hu : Up n u) (hf : ∀ i k, (f i).testBit k = u i k) (j i k : Nat) : (cls f j i).testBit k = reach u j i k := by
  induction j generalizing i k with
  | zero => exact hf i k
  | succ j ih =>
    have e1 : (cls f j j).testBit k = u j k := by rw [ih, reach_low hu j j k (by omega)]
    show (pv (cls f j) j j i).testBit k = (reach u j i k || (reach u j i j && u j k))
    unfold pv
    by_cases h1 : i < j
    · cases h2 : (cls f j i).testBit j
      · rw [if_neg (by simp)]
        rw [ih] at h2
        rw [ih, h2]; simp
      · rw [if_pos ⟨h1, rfl⟩, Nat.testBit_or, e1, ih]
        rw [ih] at h2
        rw [h2]; simp
    · rw [if_neg (by omega), ih]
      cases h2 : reach u j i j
      · simp
      · have := reach_up hu j i j h2; omega

end Go.Proofs.Ytaconeliiicloaa.mj
