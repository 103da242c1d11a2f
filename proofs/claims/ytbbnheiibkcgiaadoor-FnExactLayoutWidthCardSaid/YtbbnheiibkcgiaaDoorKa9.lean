/-
  StacksOf of the model; ColumnsAfter of both sides.
-/
import Derived.Test.YtbbnheiibkcgiaaDoorKas
namespace Go.Proofs.YtbbnheiibkcgiaaDoor.kn
open Go.RowKit Go.Proofs.YtbbnheiibkcgiaaDoor.sl Go.Proofs.YtbbnheiibkcgiaaDoor.br Go.Proofs.YtbbnheiibkcgiaaDoor.bw Go.Proofs.YtbbnheiibkcgiaaDoor.st Go.Proofs.YtbbnheiibkcgiaaDoor.cx Go.Proofs.YtbbnheiibkcgiaaDoor.ro
set_option linter.unusedVariables false

theorem take_succ9 (R : List (List Int)) (j : Nat) (h : j < R.length) : R.take (j + 1) = R.take j ++ [R.getD j []] := by
  rw [List.take_succ_eq_append_getElem h]; simp [List.getD, List.getElem?_eq_getElem h]
theorem row8 (c : Int) (xs : List V) (j : Nat) (h : j < (chW c xs).length) : ((chW c xs).getD j []).length ≤ 8 := by
  cases hb : chB c xs
  · rw [chW_no hb] at h; simp at h
  · have e : chW c xs = chL c xs xs.length := by rw [chW, if_pos hb]
    rw [e] at h ⊢
    rw [chL_len] at h
    have : (chL c xs xs.length).getD j [] = nowAt c xs (j + 1) := by simp [chL, List.getD, h]
    rw [this]; exact row_len c xs j
theorem tot_b9 (rows : List (List Int)) (M : Nat) (h : ∀ r ∈ rows, r.length ≤ M) : ss.tot rows ≤ rows.length * M := by
  have e : ss.tot rows = (rows.map List.length).sum := by
    unfold ss.tot ss.pre ss.lens
    rw [List.take_of_length_le (by simp)]
  rw [e]
  clear e
  induction rows with
  | nil => simp
  | cons x rows ih =>
    have h1 := h x (by simp)
    have h2 := ih (fun r hr => h r (by simp [hr]))
    rw [List.map_cons, List.sum_cons, List.length_cons, Nat.succ_mul]
    omega
theorem chW_tot (c : Int) (xs : List V) : (chW c xs).length ≤ 1048576 ∧ ss.Short (chW c xs) 1099511627776 ∧ ss.tot (chW c xs) ≤ 1048576 := by
  have h1 := chW_len c xs
  refine ⟨by omega, fun j hj => by have := row8 c xs j hj; omega, ?_⟩
  have := tot_b9 (chW c xs) 8 (fun r hr => by
    obtain ⟨j, hj⟩ := List.getElem?_of_mem hr
    have hl : j < (chW c xs).length := (List.getElem?_eq_some_iff.1 hj).1
    have := row8 c xs j hl
    rw [show (chW c xs).getD j [] = r from by simp [List.getD, hj]] at this
    exact this)
  have h3 : (chW c xs).length * 8 ≤ 8 * 8 := Nat.mul_le_mul_right 8 h1
  omega
/-- One row of the answer. -/
theorem rown_at {w : World} {lo hi : Nat} {v : Value} {R : List (List Int)} (h : ss.ROwn w lo hi v R) (j : Nat) (hj : j < R.length) :
    ∃ g off cap V, v = .slice (some ⟨g, off, none⟩) R.length cap ∧ g < w.heap.size ∧ w.cell? ⟨g, off + j, none⟩ = some V ∧ Ints w w.heap.size V (R.getD j []) ∧ fn.NilOk V := by
  rcases h.2 with ⟨h0, _⟩ | ⟨hp, g, off, cap, V, Lo, Hi, hv, h1, h2, h3⟩
  · rw [h0] at hj; simp at hj
  · have := h3 j hj
    exact ⟨g, off, cap, V j, hv, Nat.lt_of_lt_of_le h2 h.1, this.1, this.2.1.ints.mono this.2.1.2.2, fn.nilok_own this.2.1⟩

end Go.Proofs.YtbbnheiibkcgiaaDoor.kn
