/-
  IsAction: plain mathematics.
-/
import Derived.Test.YtfechjhngcmdpabPv
import Derived.Test.YtfechjhngcmdpabSn
namespace Go.Proofs.Ytfechjhngcmdpab.ia
open Go.RowKit Go.Proofs.Ytfechjhngcmdpab.sl Go.Proofs.Ytfechjhngcmdpab.pm Go.Proofs.Ytfechjhngcmdpab.bw Go.Proofs.Ytfechjhngcmdpab.br Go.Proofs.Ytfechjhngcmdpab.fv Go.Proofs.Ytfechjhngcmdpab.fn Go.Proofs.Ytfechjhngcmdpab.fr Go.Proofs.Ytfechjhngcmdpab.ss Go.Proofs.Ytfechjhngcmdpab.ai Go.Proofs.Ytfechjhngcmdpab.ao Go.Proofs.Ytfechjhngcmdpab.pv
set_option linter.unusedVariables false

/-- A row gets shorter when it is reduced. -/
def shB (r : List Int) : Bool := decide ((redL r).length < r.length)
theorem push_cases (st : List Int) (x : Int) : bw.push st x = st ++ [x] ∨ (bw.push st x).length ≤ st.length := by
  unfold bw.push
  split
  · exact .inr (by simp)
  · exact .inl rfl
theorem red_same (r : List Int) : (redL r).length = r.length → redL r = r := by
  refine snoc_ind (P := fun r => (redL r).length = r.length → redL r = r) (fun _ => rfl) (fun xs x ih h => ?_) r
  rw [redL_snoc] at h ⊢
  have h1 := redL_len xs
  simp only [List.length_append, List.length_cons, List.length_nil, Nat.zero_add] at h
  rcases push_cases (redL xs) x with h2 | h2
  · rw [h2] at h ⊢
    simp only [List.length_append, List.length_cons, List.length_nil, Nat.zero_add] at h
    rw [ih (by omega)]
  · omega
theorem sh_same (r : List Int) : sameB (redL r) r = !shB r := by
  have h1 := redL_len r
  by_cases h : (redL r).length < r.length
  · have h2 : redL r ≠ r := fun e => by rw [e] at h; omega
    simp [sameB, shB, h, h2]
  · have h2 := red_same r (by omega)
    simp [sameB, shB, h2]
theorem sh_reduced {r : List Int} (h : shB r = false) : Reduced r := by
  have h1 := redL_len r
  have h2 : ¬ (redL r).length < r.length := of_decide_eq_false h
  have h3 := red_same r (by omega)
  have := red_reduced r
  rwa [h3] at this
/-- The generators, one after the other. -/
def genL (n : Nat) : List (List Int) := (List.range n).map fun i : Nat => [(i : Int) + 1]
theorem gen_len (n : Nat) : (genL n).length = n := by simp [genL]
theorem gen_at (n k : Nat) (h : k < n) : (genL n).getD k [] = [(k : Int) + 1] := by simp [genL, List.getD, h]
theorem gen_flat (n : Nat) : (genL n).flatten = (List.range n).map fun i : Nat => (i : Int) + 1 := by
  rw [genL, ← List.flatMap_def]
  induction n with
  | zero => rfl
  | succ n ih => rw [List.range_succ, List.flatMap_append, ih]; simp
theorem flat_length (n : Nat) : (genL n).flatten.length = n := by rw [gen_flat]; simp
theorem flat_at (n k : Nat) (h : k < n) : (genL n).flatten.getD k 0 = (k : Int) + 1 := by rw [gen_flat]; simp [List.getD, h]
def isB (rows : List (List Int)) : Bool := apB rows && (!(rows.any shB) && sameB (redL rows.flatten) (genL rows.length).flatten)
theorem is_ap {rows : List (List Int)} (h : apB rows = false) : isB rows = false := by rw [isB, h]; rfl
theorem is_sh {rows : List (List Int)} (h : rows.any shB = true) : isB rows = false := by simp [isB, h]
theorem is_last {rows : List (List Int)} (h : apB rows = true) (h2 : rows.any shB = false) : isB rows = sameB (redL rows.flatten) (genL rows.length).flatten := by rw [isB, h, h2]; rfl
theorem is_row {rows : List (List Int)} (k : Nat) (hk : k < rows.length) (h : sameB (redL (rows.getD k [])) (rows.getD k []) = false) : isB rows = false :=
  is_sh (rany_yes shB rows k hk (by rw [sh_same] at h; simpa using h))
theorem is_rows {rows : List (List Int)} (h : ∀ k, k < rows.length → sameB (redL (rows.getD k [])) (rows.getD k []) = true) : rows.any shB = false :=
  rany_no shB rows fun k hk => by have := h k hk; rw [sh_same] at this; simpa using this
theorem ap_parts {rows : List (List Int)} (h : apB rows = true) : imB rows = true ∧ ∀ k, k < rows.length → 0 < (rows.getD k []).length := by
  simp only [apB, Bool.and_eq_true] at h
  refine ⟨h.1, fun k hk => ?_⟩
  have h1 := h.2.1
  rw [oneB, List.all_eq_true] at h1
  have h2 := h1 (rows.getD k []) (by rw [rows_mem rows k hk]; exact List.getElem_mem hk)
  have h3 : (cor (rows.getD k [])).length = 1 := by simpa using h2
  obtain ⟨x, hx⟩ : ∃ x, x ∈ cor (rows.getD k []) := ⟨(cor (rows.getD k []))[0]'(by omega), List.getElem_mem _⟩
  exact List.length_pos_of_mem (cor_sub _ x hx)
theorem any_not {rows : List (List Int)} (h : rows.any shB = false) (k : Nat) (hk : k < rows.length) : shB (rows.getD k []) = false := by
  rw [List.any_eq_false] at h
  have := h (rows.getD k []) (by rw [rows_mem rows k hk]; exact List.getElem_mem hk)
  simpa using this
theorem flat_bound {rows : List (List Int)} (h : imB rows = true) : rows.flatten.length ≤ 240000 := by
  have h1 := im_small h
  have h2 := flat_len rows 20000 (fun r hr => by
    obtain ⟨j, hj, rfl⟩ := List.getElem_of_mem hr
    have := (fr_parts (im_at h j hj)).2.2.1
    rw [rows_mem rows j hj] at this
    exact this)
  have h3 : rows.length * 20000 ≤ 12 * 20000 := Nat.mul_le_mul_right _ h1
  omega
theorem im_rows {rows : List (List Int)} (h : imB rows = true) (k : Nat) (hk : k < rows.length) : (rows.getD k []).length ≤ 20000 ∧ Small (rows.getD k []) :=
  ⟨(fr_parts (im_at h k hk)).2.2.1, row_small (im_at h k hk)⟩
theorem red_snoc_rows (rows : List (List Int)) (k : Nat) (hk : k < rows.length) : redL ((rows.take (k + 1)).flatten) = (rows.getD k []).foldl bw.push (redL ((rows.take k).flatten)) := by
  rw [br.flat_snoc rows k hk]
  simp [redL, List.foldl_append]
theorem take_flat_len (rows : List (List Int)) (k : Nat) : (redL ((rows.take k).flatten)).length ≤ rows.flatten.length := by
  have h1 := redL_len ((rows.take k).flatten)
  have h2 := br.tot_le rows k
  unfold br.tot at h2
  omega
/-- The model's comparison with the generators. -/
theorem last_no {z : List Int} {n : Nat} (h : ¬ z.length = n) : sameB z (genL n).flatten = false := by
  simp only [sameB, decide_eq_false_iff_not]
  rintro rfl
  exact h (flat_length n)
theorem last_bad {z : List Int} {n k : Nat} (hk : k < n) (h : ¬ z.getD k 0 = (k : Int) + 1) : sameB z (genL n).flatten = false := by
  simp only [sameB, decide_eq_false_iff_not]
  rintro rfl
  exact h (flat_at n k hk)
theorem last_yes {z : List Int} {n : Nat} (h1 : z.length = n) (h : ∀ k, k < n → z.getD k 0 = (k : Int) + 1) : sameB z (genL n).flatten = true := by
  have : z = (genL n).flatten := sl.list_eq_of (by rw [flat_length, h1]) fun j hj => by rw [h j (by omega), flat_at n j (by omega)]
  simp [sameB, ← this]
end Go.Proofs.Ytfechjhngcmdpab.ia
