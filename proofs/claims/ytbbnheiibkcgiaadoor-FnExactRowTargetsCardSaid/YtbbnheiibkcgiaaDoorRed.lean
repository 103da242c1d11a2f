/-
  Contracts of slices.Clone and of ReducedWord, of the program and of its model.
-/
import Derived.Test.YtbbnheiibkcgiaaDoorWd
import Derived.WalkSpells
namespace Go.Proofs.YtbbnheiibkcgiaaDoor.fn
open Go.RowKit Go.Proofs.YtbbnheiibkcgiaaDoor.sl Go.Proofs.YtbbnheiibkcgiaaDoor.pm

def redP (p : List Int) : List Int := if permB p = true then redW p else []
theorem redP_len (p : List Int) : (redP p).length ≤ 144 := by
  unfold redP
  split
  · rename_i h
    have h1 := perm_len h
    have h2 := inv_le p
    have h3 := red_len (inv p) p
    have h4 : p.length * p.length ≤ 12 * 12 := Nat.mul_le_mul h1 h1
    unfold redW
    omega
  · simp

theorem descL_nil (p : List Int) : descL p = [] ↔ NoDesc p (p.length - 1) := by
  rw [descL, desc_filter, List.map_eq_nil_iff, List.filter_eq_nil_iff]
  constructor
  · intro h j hj
    have := h j (by simpa using hj)
    simpa [isDesc] using this
  · intro h j hj
    have := h j (by simpa using hj)
    simpa [isDesc] using this
theorem descL_cons (p : List Int) (x : Int) (r : List Int) (h : descL p = x :: r) : ∃ k : Nat, x = (k : Int) ∧ k + 1 < p.length ∧ NoDesc p k ∧ p.getD (k + 1) 0 < p.getD k 0 := by
  have h1 := desc_first p
  rw [h] at h1
  cases hf : firstDesc p with
  | none => rw [hf] at h1; simp at h1
  | some k =>
    rw [hf] at h1
    simp only [List.head?_cons, Option.map_some, Option.some.injEq] at h1
    unfold firstDesc at hf
    have h2 := List.find?_some hf
    have h3 := List.mem_of_find?_eq_some hf
    simp only [List.mem_range] at h3
    refine ⟨k, h1, by omega, ?_, of_decide_eq_true h2⟩
    intro j hj
    have e : p.length - 1 = j + (p.length - 1 - j - 1) + 1 := by omega
    intro hd
    have hb : isDesc p j = true := decide_eq_true hd
    rw [List.find?_range_eq_some] at hf
    have := hf.2.2 j hj
    simp [hb] at this

end Go.Proofs.YtbbnheiibkcgiaaDoor.fn
