/-
  ActionPermutation: both sides.
-/
import Derived.Test.YtfechjhngcmdpabAi
import Derived.Test.YtfechjhngcmdpabSrc2
namespace Go.Proofs.Ytfechjhngcmdpab.ao
open Go.RowKit Go.Proofs.Ytfechjhngcmdpab.sl Go.Proofs.Ytfechjhngcmdpab.pm Go.Proofs.Ytfechjhngcmdpab.bw Go.Proofs.Ytfechjhngcmdpab.br Go.Proofs.Ytfechjhngcmdpab.fn Go.Proofs.Ytfechjhngcmdpab.fv Go.Proofs.Ytfechjhngcmdpab.fr Go.Proofs.Ytfechjhngcmdpab.ss Go.Proofs.Ytfechjhngcmdpab.ai
set_option linter.unusedVariables false

structure SmallR (rows : List (List Int)) : Prop where
  len : rows.length ≤ 1048576
  short : Short rows 1099511627776
theorem small_of {left : Int} {rows : List (List Int)} (h0 : 0 ≤ left) (h1 : left ≤ 1048576) (h : 0 ≤ szR left rows) : SmallR rows := by
  obtain ⟨_, h2, h3⟩ := szR_bound h0 h
  exact ⟨by omega, fun j hj => by have := h3 j hj; omega⟩

theorem getD_lt (l : List Int) (j : Nat) (h : j < l.length) : l.getD j 0 = l[j] := by simp [List.getD, List.getElem?_eq_getElem h]
/-- What is left of a word between what conjugates it. -/
def cor (r : List Int) : List Int := coB (redL r)
/-- The generators of which the rows are conjugates, as places. -/
def pl (rows : List (List Int)) : List Int := rows.map fun r => (cor r).getD 0 0 - 1
theorem pl_len (rows : List (List Int)) : (pl rows).length = rows.length := by simp [pl]
theorem pl_at (rows : List (List Int)) (k : Nat) (h : k < rows.length) : (pl rows).getD k 0 = (cor (rows.getD k [])).getD 0 0 - 1 := by
  simp [pl, List.getD, h]
theorem pl_take (rows : List (List Int)) (k : Nat) (h : k < rows.length) : (pl rows).take (k + 1) = (pl rows).take k ++ [(cor (rows.getD k [])).getD 0 0 - 1] := by
  rw [List.take_succ_eq_append_getElem (by rw [pl_len]; exact h), ← pl_at rows k h]
  simp [List.getD, pl_len, h]
def oneB (rows : List (List Int)) : Bool := rows.all fun r => decide ((cor r).length = 1)
def apB (rows : List (List Int)) : Bool := imB rows && (oneB rows && permB (pl rows))
def apL (rows : List (List Int)) : List Int := if apB rows = true then pl rows else []
theorem ap_no {rows : List (List Int)} (h : apB rows = false) : apL rows = [] := by rw [apL, h]; rfl
theorem ap_yes {rows : List (List Int)} (h : apB rows = true) : apL rows = pl rows := by rw [apL, if_pos h]
theorem ap_len (rows : List (List Int)) : (apL rows).length ≤ 12 := by
  unfold apL
  split
  · rename_i h
    simp only [apB, Bool.and_eq_true] at h
    exact perm_len h.2.2
  · simp
theorem ap_im {rows : List (List Int)} (h : imB rows = false) : apB rows = false := by rw [apB, h]; rfl
theorem ap_one {rows : List (List Int)} (k : Nat) (hk : k < rows.length) (h : ¬ (cor (rows.getD k [])).length = 1) : apB rows = false := by
  have h1 : oneB rows = false := by
    rw [oneB, List.all_eq_false]
    refine ⟨rows.getD k [], ?_, by simpa using h⟩
    rw [show rows.getD k [] = rows[k] from by simp [List.getD, List.getElem?_eq_getElem hk]]
    exact List.getElem_mem hk
  rw [apB, h1]; simp
theorem one_good {rows : List (List Int)} (h : ∀ k, k < rows.length → (cor (rows.getD k [])).length = 1) : oneB rows = true := by
  rw [oneB, List.all_eq_true]
  intro r hr
  obtain ⟨j, hj, rfl⟩ := List.getElem_of_mem hr
  have := h j hj
  rw [show rows.getD j [] = rows[j] from by simp [List.getD, List.getElem?_eq_getElem hj]] at this
  simpa using this
theorem ap_perm {rows : List (List Int)} (h1 : imB rows = true) (h2 : oneB rows = true) : apB rows = permB (pl rows) := by rw [apB, h1, h2]; rfl
theorem cor_sub (r : List Int) : ∀ x ∈ cor r, x ∈ r := fun x hx => red_sub r x (by
  unfold cor coB at hx
  exact List.mem_of_mem_drop (List.mem_of_mem_take hx))
theorem cor_range {rows : List (List Int)} (h : imB rows = true) (k : Nat) (hk : k < rows.length) (h1 : (cor (rows.getD k [])).length = 1) :
    (cor (rows.getD k [])).getD 0 0 ≠ 0 ∧ -(rows.length : Int) ≤ (cor (rows.getD k [])).getD 0 0 ∧ (cor (rows.getD k [])).getD 0 0 ≤ (rows.length : Int) := by
  have hm : (cor (rows.getD k [])).getD 0 0 ∈ rows.getD k [] := cor_sub _ _ (by
    rw [getD_lt _ 0 (by omega)]
    exact List.getElem_mem _)
  obtain ⟨j, hj, he⟩ := List.getElem_of_mem hm
  have hg := (fr_parts (im_at h k hk)).2.2.2 j hj
  rw [getD_lt _ j hj, he] at hg
  exact g_parts hg
theorem ap_low {rows : List (List Int)} (k : Nat) (hk : k < rows.length) (h : (cor (rows.getD k [])).getD 0 0 < 1) : apB rows = false := by
  have h1 : permB (pl rows) = false := by
    cases hp : permB (pl rows)
    · rfl
    · simp only [permB, Bool.and_eq_true, List.all_eq_true] at hp
      have hx := hp.1.2 ((pl rows).getD k 0) (by
        rw [show (pl rows).getD k 0 = (pl rows)[k]'(by rw [pl_len]; exact hk) from by simp [List.getD, pl_len, hk]]
        exact List.getElem_mem _)
      rw [pl_at rows k hk] at hx
      simp only [inR, decide_eq_true_eq] at hx
      omega
  rw [apB, h1]; simp
theorem ap_dup {rows : List (List Int)} (k : Nat) (hk : k < rows.length) (h : hasB ((pl rows).take k) ((cor (rows.getD k [])).getD 0 0 - 1) = true) : apB rows = false := by
  have h1 : permB (pl rows) = false := by
    cases hp : permB (pl rows)
    · rfl
    · simp only [permB, Bool.and_eq_true, decide_eq_true_eq] at hp
      have hn := hp.2.sublist (List.take_sublist (k + 1) (pl rows))
      rw [pl_take rows k hk, List.nodup_append] at hn
      simp only [hasB, List.contains_eq_mem, decide_eq_true_eq] at h
      exact absurd rfl (hn.2.2 _ h _ (by simp))
  rw [apB, h1]; simp
theorem ap_good {rows : List (List Int)} (h : imB rows = true) (h1 : ∀ k, k < rows.length → (cor (rows.getD k [])).length = 1 ∧ 1 ≤ (cor (rows.getD k [])).getD 0 0 ∧ hasB ((pl rows).take k) ((cor (rows.getD k [])).getD 0 0 - 1) = false) : apB rows = true := by
  rw [ap_perm h (one_good fun k hk => (h1 k hk).1)]
  refine sr.permB_mk (pl rows) (by rw [pl_len]; exact im_small h) (fun j hj => ?_) (fun i j hi hj he => ?_)
  · rw [pl_len] at hj ⊢
    have h2 := h1 j hj
    have h3 := cor_range h j hj h2.1
    rw [pl_at rows j hj]
    exact ⟨((cor (rows.getD j [])).getD 0 0 - 1).toNat, by omega, by omega⟩
  · rw [pl_len] at hi hj
    have key : ∀ i j, i < j → j < rows.length → (pl rows).getD i 0 = (pl rows).getD j 0 → False := fun i j hij hj he => by
      have h2 := (h1 j hj).2.2
      rw [← pl_at rows j hj, ← he] at h2
      have h3 := has_yes ((pl rows).take j) ((pl rows).getD i 0) i (by rw [List.length_take, pl_len]; omega) (by simp [List.getD, hij])
      rw [h2] at h3; cases h3
    rcases Nat.lt_trichotomy i j with h | h | h
    · exact (key i j h hj he).elim
    · exact h
    · exact (key j i h hi he.symm).elim

theorem ap_im_of {rows : List (List Int)} (h : imB rows = true) (k : Nat) (hk : k < rows.length) : fcB (rows.length : Int) (rows.getD k []) = cor (rows.getD k []) := (fc_yes (im_at h k hk)).2

theorem row_small {n : Int} {xs : List Int} (h : frB n xs = true) : Small xs := fun j hj => by
  have h1 := fr_parts h
  have h2 := g_parts (h1.2.2.2 j hj)
  omega
theorem red_small' {n : Int} {xs : List Int} (h : frB n xs = true) : Small (redL xs) := fun j hj => by
  have hm := red_sub xs _ (show (redL xs)[j] ∈ redL xs from List.getElem_mem hj)
  obtain ⟨i, hi, he⟩ := List.getElem_of_mem hm
  have h1 := row_small h i hi
  rw [getD_lt xs i hi, he] at h1
  rw [getD_lt _ j hj]; exact h1


end Go.Proofs.Ytfechjhngcmdpab.ao
