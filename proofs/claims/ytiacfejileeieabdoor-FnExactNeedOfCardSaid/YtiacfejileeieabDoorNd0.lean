/-
  Sums over pieces: the model.
-/
import Derived.Test.YtiacfejileeieabDoorPcs
import Derived.Test.YtiacfejileeieabDoorPit
import Derived.Test.YtiacfejileeieabDoorSt1
import Derived.BigQuiet
namespace Go.Proofs.YtiacfejileeieabDoor.pc
open Go.RowKit Go.Sort Go.Proofs.YtiacfejileeieabDoor.sl Go.Proofs.YtiacfejileeieabDoor.st
set_option linter.unusedVariables false
set_option linter.unusedSimpArgs false

theorem sum_b {xs : List V} {g : Nat} (h : arP g xs = true) : 0 ≤ sumP tk xs ∧ sumP tk xs ≤ 262144 * (xs.length : Int) := by
  have h1 := sumP_bound tk 4 (fun k hk => tk_bound hk) xs.length xs g rfl h
  have h2 : 16 ^ (4 - g) ≤ 16 ^ 4 := Nat.pow_le_pow_right (by omega) (by omega)
  have h3 : 4 * 16 ^ (4 - g) * xs.length ≤ 262144 * xs.length := Nat.mul_le_mul_right _ (by omega)
  refine ⟨h1.1, ?_⟩
  have h4 := h1.2
  have h5 : ((4 * 16 ^ (4 - g) * xs.length : Nat) : Int) ≤ ((262144 * xs.length : Nat) : Int) := by exact_mod_cast h3
  have h6 : ((262144 * xs.length : Nat) : Int) = 262144 * (xs.length : Int) := by simp
  omega
/-- What a valid list says of the piece at a place. -/
theorem arP_at {xs : List V} {g k : Nat} (h : arP g (xs.drop k) = true) (hk : k < xs.length) : vld (xs.getD k oz) g = true ∧ (xs.getD k oz).a2 = ((inside xs k).length : Int) ∧ arP (g + 1) (inside xs k) = true ∧ arP g (xs.drop (nx xs k)) = true := by
  rw [drop_at hk, arP_cons] at h
  simp only [Bool.and_eq_true, decide_eq_true_eq, List.drop_drop] at h
  obtain ⟨h1, h2, h3, h4⟩ := h
  exact ⟨h1, by rw [inside_len]; exact h2, h3, h4⟩
theorem sumP_at (f : Int → Int) {xs : List V} {k : Nat} (hk : k < xs.length) : sumP f (xs.drop k) = (xs.getD k oz).a1 * (if grp (xs.getD k oz) then sumP f (inside xs k) else f (xs.getD k oz).a0) + sumP f (xs.drop (nx xs k)) := by
  rw [drop_at hk, sumP_cons, List.drop_drop]
  rfl
theorem nx_in (xs : List V) (k : Nat) : nx xs k = k + 1 + (inside xs k).length := by rw [inside_len]; rfl
theorem vld_parts {x : V} {g : Nat} (h : vld x g = true) : g ≤ 3 ∧ 0 ≤ x.a1 ∧ x.a1 ≤ 16 ∧ (grp x = false → knd x.a0 = true ∧ x.a2 = 0) ∧ (grp x = true → x.a0 = 12) := by
  simp only [vld, Bool.and_eq_true, decide_eq_true_eq] at h
  obtain ⟨h1, h2, h3⟩ := h
  refine ⟨h1, h2.1, h2.2, fun hg => ?_, fun hg => by simpa [grp] using hg⟩
  rw [hg] at h3
  simp only [Bool.false_eq_true, if_false, Bool.and_eq_true, decide_eq_true_eq] at h3
  exact ⟨h3.1, h3.2.2⟩
end Go.Proofs.YtiacfejileeieabDoor.pc
