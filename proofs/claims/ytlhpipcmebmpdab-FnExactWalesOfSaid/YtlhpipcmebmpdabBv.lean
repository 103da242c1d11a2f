/-
  Valid braids: contracts of both tests, and of both comparisons.
-/
import Derived.Test.YtlhpipcmebmpdabBr
import Derived.Shelf.Abstract
namespace Go.Proofs.Ytlhpipcmebmpdab.br
open Go.RowKit Go.Proofs.Ytlhpipcmebmpdab.sl Go.Proofs.Ytlhpipcmebmpdab.pm Go.Proofs.Ytlhpipcmebmpdab.bw

theorem quiet_in (c lo hi : Int) (q : Bool) (hq : decide (lo ≤ c ∧ c ≤ hi) = q) (w : World) : Calls Try.prog 62 #[.int .i64 c, .int .i64 lo, .int .i64 hi] w fun e w' => e = .returned (.bool q) ∧ w' = w :=
  (specIn c lo hi w).mono fun _ _ h => ⟨by rw [h.1, hq], h.2.symm⟩
/-- The first place at which p holds. -/
def idxOf (p : Int → Bool) (xs : List Int) : Int := if xs.any p = true then ((xs.findIdx p : Nat) : Int) else -1
theorem idx_no (p : Int → Bool) (xs : List Int) (h : ∀ j, j < xs.length → p (xs.getD j 0) = false) : xs.any p = false ∧ idxOf p xs = -1 := by
  have h1 : xs.any p = false := by
    rw [List.any_eq_false]
    intro x hx
    obtain ⟨j, hj, rfl⟩ := List.getElem_of_mem hx
    have := h j hj
    rw [show xs.getD j 0 = xs[j] from by simp [List.getD, List.getElem?_eq_getElem hj]] at this
    simp [this]
  exact ⟨h1, by rw [idxOf, h1]; rfl⟩
theorem idx_yes (p : Int → Bool) (xs : List Int) (k : Nat) (hk : k < xs.length) (h : ∀ j, j < k → p (xs.getD j 0) = false) (hp : p (xs.getD k 0) = true) : xs.any p = true ∧ idxOf p xs = (k : Int) := by
  have ek : xs.getD k 0 = xs[k] := by simp [List.getD, List.getElem?_eq_getElem hk]
  have h1 : xs.any p = true := by
    rw [List.any_eq_true]
    exact ⟨xs[k], List.getElem_mem hk, by rw [← ek]; exact hp⟩
  refine ⟨h1, ?_⟩
  rw [idxOf, if_pos h1, (List.findIdx_eq hk).2 ⟨by rw [← ek]; exact hp, fun j hj => ?_⟩]
  have := h j hj
  rwa [show xs.getD j 0 = xs[j] from by simp [List.getD, List.getElem?_eq_getElem (show j < xs.length by omega)]] at this

theorem idx_sign (p : Int → Bool) (xs : List Int) (h : xs.length ≤ 1099511627776) : decide (0 ≤ idxOf p xs) = xs.any p ∧ -1 ≤ idxOf p xs ∧ idxOf p xs ≤ 1099511627776 := by
  unfold idxOf
  by_cases h1 : xs.any p = true
  · rw [if_pos h1, h1]
    have := List.findIdx_le_length (p := p) (xs := xs)
    exact ⟨by simp, by omega, by omega⟩
  · rw [if_neg h1]
    have h2 : xs.any p = false := by simpa using h1
    rw [h2]
    exact ⟨by simp, by omega, by omega⟩
end Go.Proofs.Ytlhpipcmebmpdab.br
