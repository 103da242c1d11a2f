/-
  The letters with which permutation braids begin and end: contracts of StartLetters and FinishLetters, of the program and of its model.
-/
import Derived.Test.YtedajefapddekaaH1
import Derived.Test.YtedajefapddekaaDesc
import Derived.Test.YtedajefapddekaaInv
namespace Go.Proofs.Ytedajefapddekaa.fn
open Go.RowKit Go.Proofs.Ytedajefapddekaa.sl Go.Proofs.Ytedajefapddekaa.pm

def startTo (p : List Int) (k : Nat) : List Int := (descTo p k).map (· + 1)
def startL (p : List Int) : List Int := (descL p).map (· + 1)
theorem startTo_len (p : List Int) (k : Nat) : (startTo p k).length ≤ k := by simp [startTo]; exact descTo_len p k
theorem startL_len (p : List Int) : (startL p).length ≤ p.length := by
  have := descTo_len p (p.length - 1)
  simp only [startL, descL, List.length_map]; omega
theorem start_yes (p : List Int) (k : Nat) (h : p.getD (k + 1) 0 < p.getD k 0) : startTo p (k + 1) = startTo p k ++ [(k : Int) + 1] := by simp [startTo, desc_yes p k h]
theorem start_no (p : List Int) (k : Nat) (h : ¬ p.getD (k + 1) 0 < p.getD k 0) : startTo p (k + 1) = startTo p k := by simp [startTo, desc_no p k h]
theorem descTo_mem (p : List Int) (k : Nat) (x : Int) : x ∈ descTo p k ↔ ∃ j : Nat, j < k ∧ p.getD (j + 1) 0 < p.getD j 0 ∧ x = (j : Int) := by
  induction k with
  | zero => simp [descTo]
  | succ k ih =>
    by_cases h : p.getD (k + 1) 0 < p.getD k 0
    · rw [desc_yes p k h, List.mem_append, ih]
      constructor
      · rintro (⟨j, hj, hd, rfl⟩ | hx)
        · exact ⟨j, by omega, hd, rfl⟩
        · exact ⟨k, by omega, h, by simpa using hx⟩
      · rintro ⟨j, hj, hd, rfl⟩
        by_cases e : j = k
        · subst e; exact .inr (by simp)
        · exact .inl ⟨j, by omega, hd, rfl⟩
    · rw [desc_no p k h, ih]
      constructor
      · rintro ⟨j, hj, hd, rfl⟩; exact ⟨j, by omega, hd, rfl⟩
      · rintro ⟨j, hj, hd, rfl⟩
        by_cases e : j = k
        · subst e; exact absurd hd h
        · exact ⟨j, by omega, hd, rfl⟩
theorem startL_mem (p : List Int) (x : Int) : x ∈ startL p ↔ ∃ j : Nat, j + 1 < p.length ∧ p.getD (j + 1) 0 < p.getD j 0 ∧ x = (j : Int) + 1 := by
  simp only [startL, descL, List.mem_map, descTo_mem]
  constructor
  · rintro ⟨y, ⟨j, hj, hd, rfl⟩, rfl⟩; exact ⟨j, by omega, hd, rfl⟩
  · rintro ⟨j, hj, hd, rfl⟩; exact ⟨_, ⟨j, by omega, hd, rfl⟩, rfl⟩

def stP (p : List Int) : List Int := if permB p = true then startL p else []
theorem stP_len (p : List Int) : (stP p).length ≤ 12 := by
  unfold stP
  split
  · rename_i h; exact Nat.le_trans (startL_len p) (perm_len h)
  · simp

/-! ### the program -/
theorem succ_at (p : List Int) (k : Nat) (h : k < p.length) : (p.map (· + 1)).getD k 0 = p.getD k 0 + 1 := by
  simp [List.getD, List.getElem?_eq_getElem h]
theorem succ_set (p : List Int) (k : Nat) (h : k < p.length) : (sl.part (p.map (· + 1)) k).set k (p.getD k 0 + 1) = sl.part (p.map (· + 1)) (k + 1) := by
  rw [← succ_at p k h]; exact sl.part_set _ k (by simpa using h)
theorem succ_plen (p : List Int) (k : Nat) (h : k ≤ p.length) : (sl.part (p.map (· + 1)) k).length = p.length := by rw [sl.part_len _ k (by simpa using h)]; simp

theorem desc_small (p : List Int) (h : p.length ≤ 1099511627776) : ∀ j, j < (descL p).length → 0 ≤ (descL p).getD j 0 ∧ (descL p).getD j 0 ≤ 1099511627776 := by
  intro j hj
  have hm : (descL p).getD j 0 ∈ descL p := by
    rw [show (descL p).getD j 0 = (descL p)[j] from by simp [List.getD, List.getElem?_eq_getElem hj]]
    exact List.getElem_mem hj
  obtain ⟨i, hi, _, e⟩ := (descTo_mem p _ _).1 hm
  omega

/-! ### the letters at the end -/
def fiP (p : List Int) : List Int := if permB p = true then startL (invL p) else []
theorem fiP_len (p : List Int) : (fiP p).length ≤ 12 := by
  unfold fiP
  split
  · rename_i h; have h1 := startL_len (invL p); rw [invL_len] at h1; exact Nat.le_trans h1 (perm_len h)
  · simp

end Go.Proofs.Ytedajefapddekaa.fn
