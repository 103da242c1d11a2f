/-
  DoubleBraid: its letters are letters of the wide braid.
-/
import Derived.Test.YtedajefapddekaaDb4
namespace Go.Proofs.Ytedajefapddekaa.db
open Go.RowKit Go.Proofs.Ytedajefapddekaa.sl Go.Proofs.Ytedajefapddekaa.pm Go.Proofs.Ytedajefapddekaa.fn Go.Proofs.Ytedajefapddekaa.br Go.Proofs.Ytedajefapddekaa.bw Go.Proofs.Ytedajefapddekaa.wk
set_option linter.unusedVariables false

theorem sumL_cons (x : Int) (xs : List Int) : sumL (x :: xs) = x + sumL xs := by
  have H : ∀ (l : List Int) (a : Int), l.foldl (· + ·) a = a + l.foldl (· + ·) 0 := by
    intro l
    induction l with
    | nil => intro a; simp
    | cons y l ih => intro a; rw [List.foldl_cons, List.foldl_cons, ih (a + y), ih (0 + y)]; omega
  unfold sumL
  rw [List.foldl_cons, H xs (0 + x)]
  omega
theorem sumL_swap : ∀ (p : List Int) (k : Nat), k + 1 < p.length → sumL (swapAt p k) = sumL p := by
  intro p
  induction p with
  | nil => intro k h; simp at h
  | cons x p ih =>
    intro k h
    cases k with
    | zero =>
      cases p with
      | nil => simp at h
      | cons y p => simp only [swapAt, List.getD, List.getElem?_cons_zero, List.getElem?_cons_succ, Option.getD_some, List.set_cons_zero, List.set_cons_succ, Nat.zero_add]; rw [sumL_cons, sumL_cons, sumL_cons, sumL_cons]; omega
    | succ k =>
      have e : swapAt (x :: p) (k + 1) = x :: swapAt p k := by simp [swapAt, List.getD]
      rw [e, sumL_cons, sumL_cons, ih k (by simpa using h)]
theorem sumL_part (p : List Int) (hs : Sm p) : ∀ k, k ≤ p.length → sumL (p.take k) ≤ sumL p := by
  intro k hk
  have H : ∀ d, k + d ≤ p.length → sumL (p.take k) ≤ sumL (p.take (k + d)) := by
    intro d
    induction d with
    | zero => intro _; exact Int.le_refl _
    | succ d ih =>
      intro h
      have h1 := ih (by omega)
      have h2 := sum_take p (k + d) (by omega)
      have h3 := hs (k + d)
      rw [show k + (d + 1) = k + d + 1 by omega, h2]
      omega
  have := H (p.length - k) (by omega)
  rw [show k + (p.length - k) = p.length by omega, List.take_length] at this
  exact this
theorem dbN_sum (ss xs : List Int) (hok : ∀ j, j < xs.length → xs.getD j 0 ≠ 0 ∧ 1 - (ss.length : Int) ≤ xs.getD j 0 ∧ xs.getD j 0 ≤ (ss.length : Int) - 1) : ∀ k, k ≤ xs.length → sumL (dbN ss xs k) = sumL ss := by
  intro k
  induction k with
  | zero => intro _; rw [dbN_zero]
  | succ k ih =>
    intro h
    obtain ⟨q, h1, h2, h3⟩ := ab_place (hok k (by omega))
    rw [dbN_succ ss xs k (by omega), h3, sumL_swap _ _ (by rw [dbN_len ss xs k (by omega)]; exact h2), ih (by omega)]
theorem swO_mem {sg pl y : Int} {a b : Nat} (h : y ∈ swO sg pl a b) : ∃ t j : Nat, t < b ∧ j < a ∧ y = sg * (pl + (t : Int) + ((a : Int) - 1 - (j : Int)) + 1) := by
  simp only [swO, swI, List.mem_flatten, List.mem_map, List.mem_range] at h
  obtain ⟨l, ⟨t, ht, rfl⟩, hy⟩ := h
  simp only [List.mem_map, List.mem_range] at hy
  obtain ⟨j, hj, rfl⟩ := hy
  exact ⟨t, j, ht, hj, rfl⟩
theorem dbW_let (ss xs : List Int) (hsm : Sm ss) (hl : ss.length ≤ 12) (hok : ∀ j, j < xs.length → xs.getD j 0 ≠ 0 ∧ 1 - (ss.length : Int) ≤ xs.getD j 0 ∧ xs.getD j 0 ≤ (ss.length : Int) - 1) (y : Int) (hy : y ∈ dbW ss xs xs.length) : y ≠ 0 ∧ 1 - sumL ss ≤ y ∧ y ≤ sumL ss - 1 := by
  simp only [dbW, List.mem_flatten, List.mem_map, List.mem_range] at hy
  obtain ⟨l, ⟨k, hk, rfl⟩, hy⟩ := hy
  obtain ⟨q, h1, h2, h3⟩ := ab_place (hok k hk)
  have hn : Sm (dbN ss xs k) := dbN_all (P := fun y => 0 ≤ y ∧ y ≤ 4) ⟨by omega, by omega⟩ ss xs hsm k (by omega)
  have hs := dbN_sum ss xs hok k (by omega)
  have hlen := dbN_len ss xs k (by omega)
  unfold dbL at hy
  rw [h3] at hy
  obtain ⟨t, j, ht, hj, rfl⟩ := swO_mem hy
  generalize dbN ss xs k = now at *
  have a1 := hn q
  have a2 := hn (q + 1)
  have b1 := sum_take now q (by omega)
  have b2 := sum_take now (q + 1) (by omega)
  have b3 := sumL_part now hn (q + 1 + 1) (by omega)
  have b4 := (sm_sum now hn q (by omega)).1
  rw [b2, b1, hs] at b3
  rcases sg_one (xs.getD k 0) with h | h
  · rw [h]; omega
  · rw [h]; omega
end Go.Proofs.Ytedajefapddekaa.db
