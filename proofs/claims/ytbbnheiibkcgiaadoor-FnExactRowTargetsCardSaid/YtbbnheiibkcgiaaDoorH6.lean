/-
  The word of a permutation braid: contracts of the model's word and of the program's letters.
-/
import Derived.Test.YtbbnheiibkcgiaaDoorH3
import Derived.Test.YtbbnheiibkcgiaaDoorRed
namespace Go.Proofs.YtbbnheiibkcgiaaDoor.fn
open Go.RowKit Go.Proofs.YtbbnheiibkcgiaaDoor.sl Go.Proofs.YtbbnheiibkcgiaaDoor.pm

def upW (ws : List Int) : List Int := ws.map (· + 1)
theorem upW_len (ws : List Int) : (upW ws).length = ws.length := by simp [upW]
theorem upW_snoc (ws : List Int) (k : Int) : upW (ws ++ [k]) = upW ws ++ [k + 1] := by simp [upW]

/-! ### the program's letters -/
theorem redF_small (f : Nat) (p : List Int) : ∀ x ∈ redF f p, 0 ≤ x ∧ x ≤ (p.length : Int) := by
  induction f generalizing p with
  | zero => simp [redF]
  | succ f ih =>
    unfold redF
    cases hf : firstDesc p with
    | none => simp
    | some k =>
      have hk : k < p.length - 1 := by
        have := List.mem_of_find?_eq_some hf
        simpa using this
      intro x hx
      simp only [List.mem_cons] at hx
      rcases hx with rfl | hx
      · omega
      · have := ih (swapAt p k) x hx
        rw [swap_len] at this
        exact this
theorem redP_small (p : List Int) (h : permB p = true) : ∀ j, j < (redP p).length → 0 ≤ (redP p).getD j 0 ∧ (redP p).getD j 0 ≤ 1099511627776 := by
  intro j hj
  have hm : (redP p).getD j 0 ∈ redP p := by
    rw [show (redP p).getD j 0 = (redP p)[j] from by simp [List.getD, List.getElem?_eq_getElem hj]]
    exact List.getElem_mem hj
  have e : redP p = redF (inv p) p := by rw [redP, if_pos h]; rfl
  rw [e] at hm
  have h1 := redF_small (inv p) p _ hm
  have h2 := perm_len h
  rw [e]
  omega

end Go.Proofs.YtbbnheiibkcgiaaDoor.fn
