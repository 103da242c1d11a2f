/-
  Slices of slices of int64: contracts of szInt64SS, markInt64SS, heldInt64SS; an argument opened to its rows.
-/
import Derived.Test.YtedajefapddekaaSs
namespace Go.Proofs.Ytedajefapddekaa.ss
open Go.RowKit Go.Proofs.Ytedajefapddekaa.sl Go.Proofs.Ytedajefapddekaa.br
set_option linter.unusedVariables false

/-! ### szInt64SS -/
def szStep (l : Int) (n : Nat) : Int := if l < 0 then -1 else szL l n
def szGo (l : Int) (ns : List Nat) : Int := ns.foldl szStep l
theorem szStep_le {l : Int} {n : Nat} (h : 0 ≤ l) : szStep l n = -1 ∨ (0 ≤ szStep l n ∧ szStep l n = l - (n : Int)) := by
  unfold szStep; rw [if_neg (by omega)]; unfold szL; split <;> omega
theorem szGo_neg (ns : List Nat) : szGo (-1) ns = -1 := by
  induction ns with
  | nil => rfl
  | cons n ns ih => exact ih
theorem szGo_bound (ns : List Nat) : ∀ l : Int, 0 ≤ l → 0 ≤ szGo l ns → szGo l ns ≤ l ∧ ∀ n ∈ ns, (n : Int) ≤ l := by
  induction ns with
  | nil => intro l h h2; exact ⟨Int.le_refl _, by simp⟩
  | cons n ns ih =>
    intro l h h2
    have h3 : szGo l (n :: ns) = szGo (szStep l n) ns := rfl
    rw [h3] at h2 ⊢
    rcases szStep_le (n := n) h with h4 | ⟨h4, h5⟩
    · rw [h4, szGo_neg] at h2; omega
    · obtain ⟨h6, h7⟩ := ih _ h4 h2
      refine ⟨by omega, fun m hm => ?_⟩
      rcases List.mem_cons.1 hm with rfl | hm
      · omega
      · have := h7 m hm; omega
theorem szGo_pos (ns : List Nat) : ∀ l : Int, 0 ≤ l → szGo l ns = -1 ∨ 0 ≤ szGo l ns := by
  induction ns with
  | nil => intro l h; exact .inr h
  | cons n ns ih =>
    intro l h
    have h3 : szGo l (n :: ns) = szGo (szStep l n) ns := rfl
    rw [h3]
    rcases szStep_le (n := n) h with h4 | ⟨h4, h5⟩
    · rw [h4]; exact .inl (szGo_neg _)
    · exact ih _ h4
def lens (rows : List (List Int)) : List Nat := rows.map List.length
theorem lens_len (rows : List (List Int)) : (lens rows).length = rows.length := by simp [lens]
theorem lens_at (rows : List (List Int)) (k : Nat) (h : k < rows.length) : (lens rows)[k]'(by rw [lens_len]; exact h) = (rows.getD k []).length := by
  simp [lens, List.getD, List.getElem?_eq_getElem h]
def szTo (l : Int) (rows : List (List Int)) (k : Nat) : Int := szGo l ((lens rows).take k)
theorem szTo_zero (l : Int) (rows : List (List Int)) : szTo l rows 0 = l := rfl
theorem szTo_succ (l : Int) (rows : List (List Int)) (k : Nat) (h : k < rows.length) : szTo l rows (k + 1) = szStep (szTo l rows k) (rows.getD k []).length := by
  unfold szTo szGo
  rw [List.take_succ_eq_append_getElem (by rw [lens_len]; exact h), List.foldl_append, lens_at rows k h]
  rfl
theorem szTo_all (l : Int) (rows : List (List Int)) : szTo l rows rows.length = szGo l (lens rows) := by
  unfold szTo; rw [List.take_of_length_le (by rw [lens_len]; omega)]
theorem szTo_neg {l : Int} {rows : List (List Int)} {k : Nat} (h : szTo l rows k = -1) : szGo l (lens rows) = -1 := by
  have h1 : szGo l (lens rows) = szGo (szTo l rows k) ((lens rows).drop k) := by
    unfold szTo szGo
    rw [← List.foldl_append, List.take_append_drop]
  rw [h1, h, szGo_neg]
/-- What is left of a budget behind rows. -/
def szR (left : Int) (rows : List (List Int)) : Int := szGo (szL left rows.length) (lens rows)
theorem szR_bound {left : Int} {rows : List (List Int)} (h0 : 0 ≤ left) (h : 0 ≤ szR left rows) : szR left rows ≤ left ∧ (rows.length : Int) ≤ left ∧ ∀ j, j < rows.length → ((rows.getD j []).length : Int) ≤ left := by
  unfold szR at h ⊢
  by_cases h1 : left - (rows.length : Int) < 0
  · have h2 : szL left rows.length = -1 := by rw [szL, if_pos h1]
    rw [h2, szGo_neg] at h; omega
  · have h2 : szL left rows.length = left - (rows.length : Int) := by rw [szL, if_neg h1]
    rw [h2] at h ⊢
    obtain ⟨h3, h4⟩ := szGo_bound _ _ (by omega) h
    refine ⟨by omega, by omega, fun j hj => ?_⟩
    have := h4 (rows.getD j []).length (by rw [← lens_at rows j hj]; exact List.getElem_mem _)
    omega
theorem szR_pos {left : Int} {rows : List (List Int)} (h0 : 0 ≤ left) : szR left rows = -1 ∨ 0 ≤ szR left rows := by
  unfold szR
  by_cases h1 : left - (rows.length : Int) < 0
  · rw [szL, if_pos h1]; exact .inl (szGo_neg _)
  · rw [szL, if_neg h1]; exact szGo_pos _ _ (by omega)

/-! ### markInt64SS, heldInt64SS -/
def pre (rows : List (List Int)) (k : Nat) : Nat := ((lens rows).take k).sum
theorem pre_zero (rows : List (List Int)) : pre rows 0 = 0 := rfl
theorem pre_succ (rows : List (List Int)) (k : Nat) (h : k < rows.length) : pre rows (k + 1) = pre rows k + (rows.getD k []).length := by
  unfold pre
  rw [List.take_succ_eq_append_getElem (by rw [lens_len]; exact h), List.sum_append, lens_at rows k h]
  simp
/-- All elements of all rows are numbered. -/
def marksR (k0 : Int) (rows : List (List Int)) : List (List Int) := (List.range rows.length).map fun j => marks (k0 + (pre rows j : Int)) (rows.getD j []).length
theorem marksR_len (k0 : Int) (rows : List (List Int)) : (marksR k0 rows).length = rows.length := by simp [marksR]
theorem marksR_at (k0 : Int) (rows : List (List Int)) (j : Nat) (h : j < rows.length) : (marksR k0 rows).getD j [] = marks (k0 + (pre rows j : Int)) (rows.getD j []).length := by
  simp [marksR, List.getD, h]
/-- So many elements are there. -/
def tot (rows : List (List Int)) : Nat := pre rows rows.length
theorem pre_mono (rows : List (List Int)) (k : Nat) (h : k ≤ rows.length) : pre rows k ≤ tot rows := by
  unfold tot
  obtain ⟨d, hd⟩ : ∃ d, rows.length = k + d := ⟨rows.length - k, by omega⟩
  rw [hd]
  have : ∀ d, k + d ≤ rows.length → pre rows k ≤ pre rows (k + d) := by
    intro d
    induction d with
    | zero => intro _; exact Nat.le_refl _
    | succ d ih =>
      intro h2
      have := ih (by omega)
      rw [← Nat.add_assoc, pre_succ rows (k + d) (by omega)]
      omega
  exact this d (by omega)

theorem szGo_sum (ns : List Nat) : ∀ l : Int, 0 ≤ l → 0 ≤ szGo l ns → szGo l ns = l - (ns.sum : Int) := by
  induction ns with
  | nil => intro l h h2; simp [szGo]
  | cons n ns ih =>
    intro l h h2
    have h3 : szGo l (n :: ns) = szGo (szStep l n) ns := rfl
    rw [h3] at h2 ⊢
    rcases szStep_le (n := n) h with h4 | ⟨h4, h5⟩
    · rw [h4, szGo_neg] at h2; omega
    · rw [ih _ h4 h2, h5]; simp; omega
theorem tot_le {left : Int} {rows : List (List Int)} (h0 : 0 ≤ left) (h1 : left ≤ 1048576) (h : 0 ≤ szR left rows) : tot rows ≤ 1048576 := by
  have hb := szR_bound h0 h
  have h2 : szL left rows.length = left - (rows.length : Int) := by rw [szL, if_neg (by omega)]
  unfold szR at h
  rw [h2] at h
  have h3 := szGo_sum (lens rows) _ (by omega) h
  have h4 : tot rows = (lens rows).sum := by
    unfold tot pre
    rw [List.take_of_length_le (by rw [lens_len]; omega)]
  omega
/-! ### An argument -/
/-- An argument's rows; their numbers fit. -/
structure RowsIn (w : World) (v : Value) (rows : List (List Int)) : Prop where
  rd : Rows w w.heap.size v rows
  len : rows.length ≤ 9223372036854775807
  short : Short rows 9223372036854775807
  wf : ∀ r ∈ rows, ∀ n ∈ r, (Lit.int .i64 n).wf = true

theorem rows_open {H : Type} {enc : TypeId × Value → H} {P : Program} {w : World} {base : Nat} {held : Bool} {t e q : TypeId} {fuel : Nat} {v : Value} {x : DataW H × List MemPlace}
    (ht : P.underlying t = some (.slice e)) (he : P.underlying e = some (.slice q)) (hq : P.underlying q = some (.int .i64)) (ce : P.cellsOf e = 1) (cq : P.cellsOf q = 1)
    (h : DataW.trod enc P w base (fun _ => true) held fuel t [v] = some x) : ∃ rows, RowsIn w v rows := by
  rcases Go.Deep.open_int_rows ht he hq ce cq h with ⟨hcs, _⟩ | ⟨a, len, cap, A, L, C, Z, hcs, _, hl, hm, _, hr⟩
  · simp only [List.cons.injEq, and_true] at hcs
    subst hcs
    exact ⟨[], .inl ⟨rfl, _, _, rfl⟩, by simp, fun j hj => by simp at hj, by simp⟩
  · simp only [List.cons.injEq, and_true] at hcs
    subst hcs
    unfold maxLen at hm
    have hlen : ((List.range len).map fun r => (Z r).take (L r)).length = len := by simp
    have hat : ∀ j, j < len → ((List.range len).map fun r => (Z r).take (L r)).getD j [] = (Z j).take (L j) := fun j hj => by simp [List.getD, hj]
    refine ⟨(List.range len).map fun r => (Z r).take (L r), ?_, by rw [hlen]; omega, fun j hj => ?_, fun r hr' n hn => ?_⟩
    · by_cases h0 : len = 0
      · subst h0; exact .inl ⟨rfl, _, _, rfl⟩
      · obtain ⟨b, off, spot⟩ := a
        have hc0 := (hr 0 (by omega)).1
        have hspot : spot = none := by simpa [Addr.add] using World.cell?_spot hc0
        subst hspot
        refine .inr ⟨by rw [hlen]; omega, b, off, cap, fun r => .slice (A r) (L r) (C r), by rw [hlen], ?_, fun j hj => ?_⟩
        · have := World.block_lt_of_cell? w _ hc0
          simpa [Addr.add] using this
        · rw [hlen] at hj
          rw [hat j hj]
          obtain ⟨h1, h2, h3, h4, h5, h6, h7⟩ := hr j (by omega)
          rw [Addr.add_lit] at h1
          refine ⟨h1, ?_⟩
          have hzl : ((Z j).take (L j)).length = L j := by simp; omega
          by_cases hz : L j = 0
          · exact .inl ⟨by rw [hz]; rfl, A j, C j, by show Value.slice (A j) (L j) (C j) = _; rw [hz]⟩
          · cases hA : A j with
            | none => have := h6 hA; omega
            | some a' =>
              obtain ⟨_, h8⟩ := h7 a' hA
              obtain ⟨b', off', spot'⟩ := a'
              have hc1 := h8 0 (by omega)
              have hspot' : spot' = none := by simpa [Addr.add] using World.cell?_spot hc1
              subst hspot'
              refine .inr ⟨by rw [hzl]; omega, b', off', C j, by show Value.slice (A j) (L j) (C j) = _; rw [hzl, hA], ?_, fun i hi => ?_⟩
              · have := World.block_lt_of_cell? w _ hc1
                simpa [Addr.add] using this
              · rw [hzl] at hi
                have h9 := h8 i (by omega)
                rw [Addr.add_lit] at h9
                rw [h9]
                simp [List.getD, hi]
    · rw [hlen] at hj
      rw [hat j hj]
      obtain ⟨h1, h2, h3, h4, h5, h6, h7⟩ := hr j (by omega)
      unfold maxLen at h3
      simp; omega
    · simp only [List.mem_map, List.mem_range] at hr'
      obtain ⟨j, hj, rfl⟩ := hr'
      exact (hr j (by omega)).2.2.2.2.1 n (List.mem_of_mem_take hn)
end Go.Proofs.Ytedajefapddekaa.ss
