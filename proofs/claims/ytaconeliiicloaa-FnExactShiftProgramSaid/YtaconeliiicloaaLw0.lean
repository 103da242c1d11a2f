/-
  Facts on valid operations.
-/
import Derived.Test.YtaconeliiicloaaOw
namespace Go.Proofs.Ytaconeliiicloaa.os
open Go.RowKit Go.Sort Go.Proofs.Ytaconeliiicloaa.sl Go.Proofs.Ytaconeliiicloaa.vo Go.Proofs.Ytaconeliiicloaa.nd
set_option linter.unusedVariables false
set_option linter.unusedSimpArgs false

theorem needle_range {b t : Int} (h : validB b t = true) : 0 ≤ t ∧ t ≤ 23 := by
  simp [validB] at h; omega
/-- Needles that are used are needles; others are zero. -/
theorem val_range {x : OpV} (h : valB x = true) : (0 ≤ x.fa ∧ x.fa ≤ 23) ∧ (0 ≤ x.ta ∧ x.ta ≤ 23) := by
  obtain ⟨k, d, fb, fa, tb, ta, c, r⟩ := x
  simp only [valB] at h ⊢
  unfold opB at h
  have key : (validB fb fa = true ∨ fa = 0) ∧ (validB tb ta = true ∨ ta = 0) := by
    repeat' (split at h)
    all_goals simp_all
  refine ⟨?_, ?_⟩
  · rcases key.1 with h1 | h1
    · exact needle_range h1
    · omega
  · rcases key.2 with h1 | h1
    · exact needle_range h1
    · omega

theorem ops_all {wd : Int} {xs : List OpV} (h : opsB wd xs = true) : xs.all (okB wd) = true ∧ xs.length ≤ 1500 := by
  simp only [opsB, Bool.and_eq_true, decide_eq_true_eq] at h
  exact ⟨h.2, h.1.2⟩
/-- Directions and racks are small, and a needle that is not used is zero. -/
theorem val_more {x : OpV} (h : valB x = true) : (-1 ≤ x.d ∧ x.d ≤ 1) ∧ (-3 ≤ x.r ∧ x.r ≤ 3) ∧ (validB x.fb x.fa = true ∨ x.fb = 0 ∧ x.fa = 0) ∧ (validB x.tb x.ta = true ∨ x.tb = 0 ∧ x.ta = 0) := by
  obtain ⟨k, d, fb, fa, tb, ta, c, r⟩ := x
  simp only [valB] at h ⊢
  unfold opB at h
  have key : (dirB d = true ∨ d = 0) ∧ (r = 0 ∨ -3 ≤ r ∧ r ≤ 3) ∧ (validB fb fa = true ∨ fb = 0 ∧ fa = 0) ∧ (validB tb ta = true ∨ tb = 0 ∧ ta = 0) := by
    repeat' (split at h)
    all_goals simp_all
  obtain ⟨h1, h2, h3, h4⟩ := key
  refine ⟨?_, by omega, h3, h4⟩
  rcases h1 with h1 | h1
  · simp [dirB] at h1; omega
  · omega
theorem valid_bed {b t : Int} (h : validB b t = true) : ¬ b = 0 := by
  simp [validB] at h; omega
end Go.Proofs.Ytaconeliiicloaa.os
