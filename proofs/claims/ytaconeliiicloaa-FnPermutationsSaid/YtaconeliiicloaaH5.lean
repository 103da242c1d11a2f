/-
  Left-weighted pairs: contracts of LeftWeighted, of the program and of its model.
-/
import Derived.Test.YtaconeliiicloaaH3
import Derived.Test.YtaconeliiicloaaWd
import Derived.BigQuiet
namespace Go.Proofs.Ytaconeliiicloaa.fn
open Go.RowKit Go.Proofs.Ytaconeliiicloaa.sl Go.Proofs.Ytaconeliiicloaa.pm

/-! ### inverses of permutations, in plain words -/
theorem perm_nodup {p : List Int} (h : permB p = true) : p.Nodup := by
  simp only [permB, Bool.and_eq_true, decide_eq_true_eq] at h
  exact h.2
theorem mem_at {p : List Int} {x : Int} (h : x ∈ p) : ∃ j, j < p.length ∧ p.getD j 0 = x := by
  obtain ⟨j, hj, he⟩ := List.mem_iff_getElem.1 h
  exact ⟨j, hj, by simpa [List.getD, List.getElem?_eq_getElem hj] using he⟩
theorem perm_surj {p : List Int} (h : permB p = true) (a : Nat) (ha : a < p.length) : ∃ j, j < p.length ∧ p.getD j 0 = (a : Int) := by
  by_cases hm : (a : Int) ∈ p
  · exact mem_at hm
  · exfalso
    have hsub : p ⊆ (ids p.length).erase (a : Int) := by
      intro x hx
      obtain ⟨j, hj, he⟩ := mem_at hx
      obtain ⟨m, hm1, hm2⟩ := perm_places h j hj
      have hxm : x = (m : Int) := by rw [← he, hm1]
      have hne : x ≠ (a : Int) := by rintro rfl; exact hm hx
      rw [List.mem_erase_of_ne hne, hxm]
      simp only [ids, List.mem_map, List.mem_range]
      exact ⟨m, hm2, rfl⟩
    have h1 := (perm_nodup h).length_le_of_subset hsub
    have h2 : (a : Int) ∈ ids p.length := by simp only [ids, List.mem_map, List.mem_range]; exact ⟨a, ha, rfl⟩
    rw [List.length_erase_of_mem h2, ids_len] at h1
    omega
theorem nodup_at {p : List Int} (h : p.Nodup) (i j : Nat) (hi : i < p.length) (hj : j < p.length) (he : p.getD i 0 = p.getD j 0) : i = j := by
  simp only [List.getD, List.getElem?_eq_getElem hi, List.getElem?_eq_getElem hj, Option.getD_some] at he
  rw [List.Nodup, List.pairwise_iff_getElem] at h
  rcases Nat.lt_trichotomy i j with h1 | h1 | h1
  · exact absurd he (h i j hi hj h1)
  · exact h1
  · exact absurd he.symm (h j i hj hi h1)
theorem getD_put (xs : List Int) (i j : Nat) (x : Int) (h : j < xs.length) : (xs.set i x).getD j 0 = if j = i then x else xs.getD j 0 := by
  by_cases e : j = i
  · subst e; simp [List.getD, h]
  · rw [if_neg e]; simp [List.getD, show ¬ i = j from fun h => e h.symm]
theorem inv_at {p : List Int} (h : permB p = true) (i m : Nat) (hi : i < p.length) (hm : p.getD i 0 = (m : Int)) : (invL p).getD m 0 = (i : Int) := by
  have hml : m < p.length := by
    obtain ⟨m', h1, h2⟩ := perm_places h i hi
    rw [hm] at h1
    omega
  have key : ∀ k, k ≤ p.length → i < k → (invTo p k).getD m 0 = (i : Int) := by
    intro k
    induction k with
    | zero => intro _ h; omega
    | succ k ih =>
      intro hk hik
      obtain ⟨m', h1, h2⟩ := perm_places h k (by omega)
      rw [invTo_succ p k m' h1, getD_put _ _ _ _ (by rw [invTo_len]; exact hml)]
      by_cases e : m = m'
      · have : i = k := nodup_at (perm_nodup h) i k hi (by omega) (by rw [hm, h1, e])
        subst this
        rw [if_pos e]
      · rw [if_neg e]
        have : i ≠ k := by rintro rfl; rw [hm] at h1; omega
        exact ih (by omega) (by omega)
  exact key p.length (Nat.le_refl _) hi
theorem inv_ne {p : List Int} (h : permB p = true) (a b : Nat) (ha : a < p.length) (hb : b < p.length) (hab : a ≠ b) : (invL p).getD a 0 ≠ (invL p).getD b 0 := by
  obtain ⟨i, hi, hia⟩ := perm_surj h a ha
  obtain ⟨j, hj, hjb⟩ := perm_surj h b hb
  rw [inv_at h i a hi hia, inv_at h j b hj hjb]
  intro e
  have : i = j := by omega
  subst this
  rw [hia] at hjb
  omega

/-! ### both tests in plain words -/
def badK (p q : List Int) (k : Nat) : Bool := decide (q.getD (k + 1) 0 < q.getD k 0) && decide ((invL p).getD k 0 < (invL p).getD (k + 1) 0)
def lwTo (p q : List Int) (k : Nat) : Prop := ∀ j, j < k → badK p q j = false
def lwB (p q : List Int) : Bool := (List.range (q.length - 1)).all fun k => !badK p q k
theorem lwB_yes {p q : List Int} (h : lwTo p q (q.length - 1)) : lwB p q = true := by
  simp only [lwB, List.all_eq_true, List.mem_range, Bool.not_eq_true']
  exact h
theorem lwB_no {p q : List Int} (k : Nat) (hk : k + 1 < q.length) (h : badK p q k = true) : lwB p q = false := by
  rw [lwB, List.all_eq_false]
  exact ⟨k, by simp; omega, by simp [h]⟩
def exL (p q : List Int) : Int := ((startL q).find? fun x => !(startL (invL p)).contains x).getD 0
theorem ex_lw {p q : List Int} (h : bothB p q = true) : decide (exL p q = 0) = lwB p q := by
  obtain ⟨hp, hq, hl⟩ := both_parts h
  cases hf : (startL q).find? fun x => !(startL (invL p)).contains x with
  | none =>
    have e : exL p q = 0 := by rw [exL, hf]; rfl
    rw [List.find?_eq_none] at hf
    have : lwB p q = true := by
      refine lwB_yes fun j hj => ?_
      cases hb : badK p q j
      · rfl
      · exfalso
        simp only [badK, Bool.and_eq_true, decide_eq_true_eq] at hb
        have h1 := hf ((j : Int) + 1) ((startL_mem q _).2 ⟨j, by omega, hb.1, rfl⟩)
        simp only [Bool.not_eq_true', Bool.not_eq_false, List.contains_eq_mem, decide_eq_true_eq] at h1
        obtain ⟨i, hi, hd, he⟩ := (startL_mem _ _).1 h1
        have : i = j := by omega
        subst this
        omega
    rw [this, e]; rfl
  | some x =>
    have e : exL p q = x := by rw [exL, hf]; rfl
    have hm := List.mem_of_find?_eq_some hf
    have hx := List.find?_some hf
    obtain ⟨j, hj, hd, rfl⟩ := (startL_mem q _).1 hm
    have hlw : lwB p q = false := by
      refine lwB_no j hj ?_
      simp only [badK, Bool.and_eq_true, decide_eq_true_eq]
      refine ⟨hd, ?_⟩
      have hne := inv_ne hp j (j + 1) (by omega) (by omega) (by omega)
      by_cases hlt : (invL p).getD (j + 1) 0 < (invL p).getD j 0
      · exfalso
        have : ((j : Int) + 1) ∈ startL (invL p) := (startL_mem _ _).2 ⟨j, by rw [invL_len]; omega, hlt, rfl⟩
        simp [List.contains_eq_mem, this] at hx
      · omega
    rw [hlw, e]
    simp; omega

def leftB (p q : List Int) : Bool := bothB p q && lwB p q

/-! ### the program -/
/-! ### the model -/
theorem find_step (l : List Int) (f : Int → Bool) (k : Nat) (hk : k < l.length) (h : ∀ j, j < k → f (l.getD j 0) = false) (hf : f (l.getD k 0) = true) : l.find? f = some (l.getD k 0) := by
  have e : l = l.take k ++ l.getD k 0 :: l.drop (k + 1) := by
    have h1 : l.getD k 0 = l[k] := by simp [List.getD, List.getElem?_eq_getElem hk]
    rw [h1, ← List.drop_eq_getElem_cons hk, List.take_append_drop]
  have hno : (l.take k).find? f = none := by
    rw [List.find?_eq_none]
    intro x hx
    obtain ⟨j, hj, he⟩ := List.mem_iff_getElem.1 hx
    have hj' : j < k ∧ j < l.length := by simp at hj; omega
    have := h j hj'.1
    rw [List.getElem_take] at he
    rw [show l.getD j 0 = x by simp [List.getD, List.getElem?_eq_getElem hj'.2, he]] at this
    simp [this]
  generalize l.getD k 0 = y at *
  rw [e, List.find?_append, hno]
  simp [hf]
theorem find_all (l : List Int) (f : Int → Bool) (h : ∀ j, j < l.length → f (l.getD j 0) = false) : l.find? f = none := by
  rw [List.find?_eq_none]
  intro x hx
  obtain ⟨j, hj, he⟩ := mem_at hx
  rw [← he, h j hj]; simp

end Go.Proofs.Ytaconeliiicloaa.fn
