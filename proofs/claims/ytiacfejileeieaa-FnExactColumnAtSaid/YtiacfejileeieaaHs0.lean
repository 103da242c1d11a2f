/-
  Numbers of strands of columns: when they are valid, which column a strand is in, which strand a column begins with. Mathematics alone.
-/
import Derived.Test.YtiacfejileeieaaSt0
namespace Go.Proofs.Ytiacfejileeieaa.hk
open Go.Proofs.Ytiacfejileeieaa.bw Go.Proofs.Ytiacfejileeieaa.st
set_option linter.unusedVariables false

def szOk (xs : List Int) : Bool := decide (0 < xs.length) && (stks xs && decide (sumL xs ≤ 12))
theorem stks_all {xs : List Int} (h : stks xs = true) : xs.length ≤ 8 ∧ ∀ j, j < xs.length → 1 ≤ xs.getD j 0 ∧ xs.getD j 0 ≤ 4 := by
  simp only [stks, Bool.and_eq_true, decide_eq_true_eq, List.all_eq_true] at h
  refine ⟨h.1, fun j hj => ?_⟩
  have := h.2 (xs.getD j 0) (by
    rw [show xs.getD j 0 = xs[j] from by simp [List.getD, List.getElem?_eq_getElem hj]]
    exact List.getElem_mem hj)
  simpa [stk] using this
theorem szOk_parts {xs : List Int} (h : szOk xs = true) : 0 < xs.length ∧ stks xs = true ∧ sumL xs ≤ 12 := by
  simpa [szOk, and_assoc] using h
theorem szOk_mk {xs : List Int} (h1 : 0 < xs.length) (h2 : stks xs = true) : szOk xs = decide (sumL xs ≤ 12) := by simp [szOk, h1, h2]
theorem szOk_nil {xs : List Int} (h : ¬ 0 < xs.length) : szOk xs = false := by simp [szOk, h]
theorem szOk_not {xs : List Int} (h : stks xs = false) : szOk xs = false := by simp [szOk, h]
/-- Elements from 0 to 4: all partial sums are small. -/
theorem sum_small {xs : List Int} (h1 : xs.length ≤ 8) (h2 : ∀ j, j < xs.length → 1 ≤ xs.getD j 0 ∧ xs.getD j 0 ≤ 4) (k : Nat) (hk : k ≤ xs.length) : -32 ≤ sumTo xs k ∧ sumTo xs k ≤ 32 := by
  have := sumTo_le xs 4 (fun j hj => by have := h2 j hj; exact ⟨by omega, by omega⟩) k hk
  omega
theorem sum_up {xs : List Int} (h2 : ∀ j, j < xs.length → 1 ≤ xs.getD j 0 ∧ xs.getD j 0 ≤ 4) : ∀ (d k : Nat), k + d ≤ xs.length → sumTo xs k ≤ sumTo xs (k + d)
  | 0, k, _ => Int.le_refl _
  | d + 1, k, h => by
    have h3 := sum_up h2 d k (by omega)
    have h4 := h2 (k + d) (by omega)
    have h5 := sumTo_succ xs (k + d) (by omega)
    rw [show k + (d + 1) = k + d + 1 from rfl, h5]
    omega
theorem sum_le_all {xs : List Int} (h2 : ∀ j, j < xs.length → 1 ≤ xs.getD j 0 ∧ xs.getD j 0 ≤ 4) (k : Nat) (h : k ≤ xs.length) : sumTo xs k ≤ sumL xs := by
  rw [← sumTo_all]
  have := sum_up h2 (xs.length - k) k (by omega)
  rwa [show k + (xs.length - k) = xs.length from by omega] at this

/-- The column of a strand. -/
def colN (xs : List Int) (t : Int) : Nat := (List.range xs.length).findIdx fun j => decide (t < sumTo xs (j + 1))
theorem colN_eq {xs : List Int} {t : Int} (k : Nat) (h : k < xs.length) (h1 : t < sumTo xs (k + 1)) (h2 : ∀ j, j < k → sumTo xs (j + 1) ≤ t) : colN xs t = k := by
  unfold colN
  rw [List.findIdx_eq (by simpa using h)]
  refine ⟨by simpa using h1, fun j hj => ?_⟩
  have := h2 j hj
  simp; omega
def colB (xs : List Int) (t : Int) : Bool := szOk xs && (decide (0 ≤ t) && decide (t < sumL xs))
def colI (xs : List Int) (t : Int) : Int := if colB xs t = true then (colN xs t : Int) else 0
theorem col_no {xs : List Int} {t : Int} (h : szOk xs = false) : colB xs t = false ∧ colI xs t = 0 := by simp [colB, colI, h]
theorem col_neg {xs : List Int} {t : Int} (h : t < 0) : colB xs t = false ∧ colI xs t = 0 := by
  have : ¬ (0 ≤ t) := by omega
  simp [colB, colI, this]
theorem col_big {xs : List Int} {t : Int} (h : sumL xs ≤ t) : colB xs t = false ∧ colI xs t = 0 := by
  have : ¬ (t < sumL xs) := by omega
  simp [colB, colI, this]
theorem col_yes {xs : List Int} {t : Int} (h : szOk xs = true) (h0 : 0 ≤ t) (k : Nat) (hk : k < xs.length) (h1 : t < sumTo xs (k + 1)) (h2 : ∀ j, j < k → sumTo xs (j + 1) ≤ t) : colB xs t = true ∧ colI xs t = (k : Int) := by
  have hp := szOk_parts h
  have h3 := sum_le_all (stks_all hp.2.1).2 (k + 1) (by omega)
  have hb : colB xs t = true := by simp [colB, h, h0]; omega
  exact ⟨hb, by rw [colI, if_pos hb, colN_eq k hk h1 h2]⟩

/-- The first strand of a column. -/
def fstB (xs : List Int) (c : Int) : Bool := szOk xs && decide (0 ≤ c ∧ c ≤ (xs.length : Int) - 1)
def fstI (xs : List Int) (c : Int) : Int := if fstB xs c = true then sumTo xs c.toNat else 0
theorem fst_no {xs : List Int} {c : Int} (h : fstB xs c = false) : fstI xs c = 0 := by simp [fstI, h]
theorem fst_yes {xs : List Int} {c : Int} (h : szOk xs = true) (k : Nat) (hk : k < xs.length) (hc : c = (k : Int)) : fstB xs c = true ∧ fstI xs c = sumL (xs.take k) := by
  subst hc
  have hb : fstB xs (k : Int) = true := by simp [fstB, h]; omega
  exact ⟨hb, by rw [fstI, if_pos hb]; simp [sumTo, sumL]⟩
end Go.Proofs.Ytiacfejileeieaa.hk
