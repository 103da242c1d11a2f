/-
  The mirror image of a colour chart (mathematics).
-/
import Derived.Test.YtnmnikpgjglonaaCnt
namespace Go.Proofs.Ytnmnikpgjglonaa.cu
open Go.RowKit Go.Proofs.Ytnmnikpgjglonaa.sl Go.Proofs.Ytnmnikpgjglonaa.br Go.Proofs.Ytnmnikpgjglonaa.ss
set_option linter.unusedVariables false

def miR (c : Int) (rows : List (List Int)) : List (List Int) := if colB c rows = true then rows.map List.reverse else []
def miS (c : Int) (rows : List (List Int)) : Int := if colB c rows = true then c else 0
def colC (c : Int) (rows : List (List Int)) : Int := if colB c rows = true then 0 else 1
theorem lens_rev (rows : List (List Int)) : ss.lens (rows.map List.reverse) = ss.lens rows := by
  simp [ss.lens, List.map_map, Function.comp_def]
theorem tot_rev (rows : List (List Int)) : ss.tot (rows.map List.reverse) = ss.tot rows := by
  simp [ss.tot, ss.pre, lens_rev]
theorem miR_small (c : Int) (rows : List (List Int)) (h : nb.Small rows) : nb.Small (miR c rows) := by
  unfold miR
  split
  · refine ⟨by simpa using h.len, fun j hj => ?_⟩
    have hj' : j < rows.length := by simpa using hj
    have := h.short j hj'
    have e : (rows.map List.reverse).getD j [] = (rows.getD j []).reverse := by simp [List.getD, hj']
    rw [e, List.length_reverse]
    exact this
  · exact ⟨by simp, fun j hj => by simp at hj⟩
theorem miR_tot (c : Int) (rows : List (List Int)) (h : ss.tot rows ≤ 1048576) : ss.tot (miR c rows) ≤ 1048576 := by
  unfold miR
  split
  · rw [tot_rev]; exact h
  · simp [ss.tot, ss.pre]
theorem rev_at (rows : List (List Int)) (j : Nat) (h : j < rows.length) : (rows.map List.reverse).getD j [] = (rows.getD j []).reverse := by simp [List.getD, h]
theorem rev_snoc (rows : List (List Int)) (k : Nat) (h : k < rows.length) : ((rows.map List.reverse).take k) ++ [(rows.getD k []).reverse] = (rows.map List.reverse).take (k + 1) := by
  rw [List.take_succ_eq_append_getElem (by simpa using h)]
  simp [List.getD, h]
/-- The first q elements of the mirror image of a row. -/
def rvTo (xs : List Int) (q : Nat) : List Int := xs.reverse.take q
theorem rvTo_succ (xs : List Int) (q : Nat) (h : q < xs.length) : rvTo xs q ++ [xs.getD (xs.length - 1 - q) 0] = rvTo xs (q + 1) := by
  unfold rvTo
  rw [List.take_succ_eq_append_getElem (by simpa using h)]
  congr 1
  simp [List.getElem_reverse, List.getD, show xs.length - 1 - q < xs.length by omega]
theorem rvTo_all (xs : List Int) : rvTo xs xs.length = xs.reverse := by unfold rvTo; rw [List.take_of_length_le (by simp)]
end Go.Proofs.Ytnmnikpgjglonaa.cu
