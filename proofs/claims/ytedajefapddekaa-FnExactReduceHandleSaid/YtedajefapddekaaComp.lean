/-
  Contracts of IdentityPermutation, ComposePermutations and InvertPermutation, of the program and of its model.
-/
import Derived.Test.YtedajefapddekaaIds
namespace Go.Proofs.Ytedajefapddekaa.fn
open Go.RowKit Go.Proofs.Ytedajefapddekaa.sl Go.Proofs.Ytedajefapddekaa.pm

/-! ### IdentityPermutation -/
def idOk (n : Int) : Bool := decide (0 ≤ n ∧ n ≤ 12)
def idL (n : Int) : List Int := if idOk n = true then ids n.toNat else []
theorem idL_len (n : Int) : (idL n).length ≤ 12 := by
  unfold idL
  split
  · rename_i h; simp only [idOk, decide_eq_true_eq] at h; rw [ids_len]; omega
  · simp

/-! ### ComposePermutations -/
def cmpL (p q : List Int) : List Int := if bothB p q = true then compL p q else []
theorem both_parts {p q : List Int} (h : bothB p q = true) : permB p = true ∧ permB q = true ∧ p.length = q.length := by
  simp only [bothB, Bool.and_eq_true, decide_eq_true_eq] at h
  exact ⟨h.1.1, h.1.2, h.2⟩
theorem cmpL_len (p q : List Int) : (cmpL p q).length ≤ 12 := by
  unfold cmpL
  split
  · rename_i h; rw [compL_len]; exact perm_len (both_parts h).1
  · simp

end Go.Proofs.Ytedajefapddekaa.fn
