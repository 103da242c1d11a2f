/-
  The numbers of stitches of all carriers (mathematics).
-/
import Derived.Test.YtnmnikpgjglonaaVc0
import Derived.Test.YtnmnikpgjglonaaCco
namespace Go.Proofs.Ytnmnikpgjglonaa.cu
open Go.RowKit Go.Proofs.Ytnmnikpgjglonaa.sl Go.Proofs.Ytnmnikpgjglonaa.br
set_option linter.unusedVariables false
set_option linter.unusedSimpArgs false

def bump (l : List Int) (x : Int) : List Int := l.set (x - 1).toNat (l.getD (x - 1).toNat 0 + 1)
def ccT (ys : List Int) (k : Nat) : List Int := (ys.take k).foldl bump (List.replicate 4 0)
theorem bump_len (l : List Int) (x : Int) : (bump l x).length = l.length := by simp [bump]
theorem ccT_zero (ys : List Int) : ccT ys 0 = List.replicate 4 0 := rfl
theorem ccT_succ (ys : List Int) (k : Nat) (h : k < ys.length) : ccT ys (k + 1) = bump (ccT ys k) (ys.getD k 0) := by
  have e : ys.getD k 0 = ys[k] := by simp [List.getD, List.getElem?_eq_getElem h]
  unfold ccT
  rw [List.take_succ_eq_append_getElem h, List.foldl_append, e]; rfl
theorem ccT_fact (ys : List Int) : ∀ k, k ≤ ys.length → (ccT ys k).length = 4 ∧ ∀ q, 0 ≤ (ccT ys k).getD q 0 ∧ (ccT ys k).getD q 0 ≤ k
  | 0, _ => ⟨by simp [ccT], fun q => by
      rw [ccT_zero]
      have : (List.replicate 4 (0 : Int)).getD q 0 = 0 := by
        simp only [List.getD, List.getElem?_replicate]
        split <;> rfl
      omega⟩
  | k + 1, h => by
    obtain ⟨h1, h2⟩ := ccT_fact ys k (by omega)
    rw [ccT_succ ys k (by omega)]
    refine ⟨by rw [bump_len, h1], fun q => ?_⟩
    unfold bump
    generalize (ys.getD k 0 - 1).toNat = m
    generalize hl : ccT ys k = l at *
    by_cases e : m = q
    · subst e
      by_cases hq : m < l.length
      · have : (l.set m (l.getD m 0 + 1)).getD m 0 = l.getD m 0 + 1 := by simp [List.getD, hq]
        rw [this]
        have := h2 m
        omega
      · have : (l.set m (l.getD m 0 + 1)).getD m 0 = 0 := by simp [List.getD, hq]
        rw [this]; omega
    · have : (l.set m (l.getD m 0 + 1)).getD q 0 = l.getD q 0 := by simp [List.getD, e]
      rw [this]
      have := h2 q
      omega
def cclW (c : Int) (rows : List (List Int)) : List Int := if colB c rows = true then ccT rows.flatten rows.flatten.length else []
theorem cclW_len (c : Int) (rows : List (List Int)) : (cclW c rows).length ≤ 20000 := by
  unfold cclW
  split
  · rw [(ccT_fact _ _ (Nat.le_refl _)).1]; omega
  · simp
theorem flat_at (L : List (List Int)) (k q : Nat) (hk : k < L.length) (hq : q < (L.getD k []).length) : L.flatten.getD (br.tot L k + q) 0 = (L.getD k []).getD q 0 := by
  have e : L.getD k [] = L[k] := by simp [List.getD, List.getElem?_eq_getElem hk]
  have h : L.flatten = (L.take k).flatten ++ (L.getD k [] ++ (L.drop (k + 1)).flatten) := by
    rw [e, ← List.flatten_cons, ← List.drop_eq_getElem_cons hk, ← List.flatten_append, List.take_append_drop]
  rw [h]
  simp only [List.getD, br.tot]
  rw [List.getElem?_append_right (by omega), Nat.add_sub_cancel_left, List.getElem?_append_left (by simpa [List.getD] using hq)]
theorem flat_lt (L : List (List Int)) (k q : Nat) (hk : k < L.length) (hq : q < (L.getD k []).length) : br.tot L k + q < L.flatten.length := by
  have := br.tot_le L (k + 1)
  rw [br.tot_succ L k hk] at this
  omega
theorem flat_all (L : List (List Int)) : br.tot L L.length = L.flatten.length := by simp [br.tot]
/-- What a valid colour chart tells. -/
structure ColK (c : Int) (rows : List (List Int)) : Prop where
  c1 : 1 ≤ c
  c8 : c ≤ 8
  n1 : 1 ≤ rows.length
  n8 : rows.length ≤ 8
  len : ∀ j, j < rows.length → ((rows.getD j []).length : Int) = c
  car : ∀ j q, j < rows.length → q < (rows.getD j []).length → 1 ≤ (rows.getD j []).getD q 0 ∧ (rows.getD j []).getD q 0 ≤ 4
theorem col_k {c : Int} {rows : List (List Int)} (h : colB c rows = true) : ColK c rows := by
  simp only [colB, Bool.and_eq_true, decide_eq_true_eq] at h
  obtain ⟨⟨h1, h2⟩, ⟨h3, h4⟩, h5⟩ := h
  rw [List.all_eq_true] at h5
  have hr : ∀ j, j < rows.length → rowB c (rows.getD j []) = true := fun j hj => h5 _ (by
    rw [show rows.getD j [] = rows[j] from by simp [List.getD, List.getElem?_eq_getElem hj]]
    exact List.getElem_mem hj)
  refine ⟨h1, h2, by omega, by omega, fun j hj => ?_, fun j q hj hq => ?_⟩
  · have := hr j hj
    simp only [rowB, Bool.and_eq_true, decide_eq_true_eq] at this
    exact this.1
  · have := hr j hj
    simp only [rowB, Bool.and_eq_true, List.all_eq_true] at this
    generalize rows.getD j [] = r at *
    have h6 := this.2 (r.getD q 0) (by
      rw [show r.getD q 0 = r[q] from by simp [List.getD, List.getElem?_eq_getElem hq]]
      exact List.getElem_mem hq)
    simpa [vo.carB] using h6
theorem flat_car {c : Int} {rows : List (List Int)} (h : ColK c rows) (k : Nat) (hk : k < rows.flatten.length) : 1 ≤ rows.flatten.getD k 0 ∧ rows.flatten.getD k 0 ≤ 4 := by
  have hm : rows.flatten.getD k 0 ∈ rows.flatten := by
    rw [show rows.flatten.getD k 0 = rows.flatten[k] from by simp [List.getD, List.getElem?_eq_getElem hk]]
    exact List.getElem_mem hk
  generalize rows.flatten.getD k 0 = x at hm
  rw [List.mem_flatten] at hm
  obtain ⟨l, hl, hx⟩ := hm
  obtain ⟨j, hj, rfl⟩ := List.getElem_of_mem hl
  obtain ⟨q, hq, rfl⟩ := List.getElem_of_mem hx
  have e : rows.getD j [] = rows[j] := by simp [List.getD, List.getElem?_eq_getElem hj]
  have := h.car j q hj (by rw [e]; exact hq)
  rw [e, show (rows[j]).getD q 0 = rows[j][q] from by simp [List.getD, List.getElem?_eq_getElem hq]] at this
  exact this
theorem flat_len {c : Int} {rows : List (List Int)} (h : ColK c rows) : rows.flatten.length ≤ 64 := by
  have : ∀ k, k ≤ rows.length → br.tot rows k ≤ k * 8 := by
    intro k
    induction k with
    | zero => intro _; simp [br.tot]
    | succ k ih =>
      intro hk
      rw [br.tot_succ rows k (by omega)]
      have h1 := ih (by omega)
      have h2 := h.len k (by omega)
      have h3 := h.c8
      omega
  have h1 := this rows.length (Nat.le_refl _)
  rw [flat_all] at h1
  have := h.n8
  omega
end Go.Proofs.Ytnmnikpgjglonaa.cu
