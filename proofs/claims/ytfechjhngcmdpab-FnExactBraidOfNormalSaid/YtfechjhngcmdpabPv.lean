/-
  The product of reduced words that a slice holds: mathematics, slices.Values, productOf.
-/
import Derived.Test.YtfechjhngcmdpabFr6
import Derived.Test.YtfechjhngcmdpabAo
namespace Go.Proofs.Ytfechjhngcmdpab.pv
open Go.RowKit Go.Proofs.Ytfechjhngcmdpab.sl Go.Proofs.Ytfechjhngcmdpab.pm Go.Proofs.Ytfechjhngcmdpab.bw Go.Proofs.Ytfechjhngcmdpab.br Go.Proofs.Ytfechjhngcmdpab.fv Go.Proofs.Ytfechjhngcmdpab.fn Go.Proofs.Ytfechjhngcmdpab.fr Go.Proofs.Ytfechjhngcmdpab.ss Go.Proofs.Ytfechjhngcmdpab.ai
set_option linter.unusedVariables false
attribute [local go_sem] Oper.semAt_some

/-! ### a reduced word more -/
theorem pto_zero (st ys : List Int) : pTo st ys 0 = st := rfl
theorem pto_pop {xs ys : List Int} {c : Nat} (h : Canc xs ys c) : ∀ i, i ≤ c → pTo xs ys i = xs.take (xs.length - i) := by
  intro i
  induction i with
  | zero => intro _; rw [pto_zero, Nat.sub_zero, List.take_length]
  | succ i ih =>
    intro hi
    have h1 := h.lx
    have h2 := h.ly
    rw [pTo_succ xs ys i (by omega), ih (by omega)]
    have ha := h.all i (by omega)
    have hl : (xs.take (xs.length - i)).length = xs.length - i - 1 + 1 := by rw [List.length_take]; omega
    rw [push_pop _ _ (xs.length - i - 1) hl (by
      rw [show xs.length - i - 1 = xs.length - 1 - i by omega]
      rw [← ha]
      simp only [List.getD, List.getElem?_take]
      rw [if_pos (by omega)])]
    rw [List.take_take]
    congr 1
    omega
theorem pto_app {xs ys : List Int} {c : Nat} (h : Canc xs ys c) (hr : Reduced ys) : ∀ d, c + d ≤ ys.length → pTo xs ys (c + d) = xs.take (xs.length - c) ++ (ys.take (c + d)).drop c := by
  intro d
  induction d with
  | zero =>
    intro hd
    rw [Nat.add_zero, pto_pop h c (Nat.le_refl _)]
    have : (ys.take c).drop c = [] := by rw [List.drop_eq_nil_iff, List.length_take]; omega
    rw [this, List.append_nil]
  | succ d ih =>
    intro hd
    have h1 := h.lx
    rw [show c + (d + 1) = c + d + 1 by omega, pTo_succ xs ys (c + d) (by omega), ih (by omega)]
    have e : ys.take (c + d + 1) = ys.take (c + d) ++ [ys.getD (c + d) 0] := take_snoc ys (c + d) (by omega)
    have e2 : (ys.take (c + d + 1)).drop c = (ys.take (c + d)).drop c ++ [ys.getD (c + d) 0] := by
      rw [e, List.drop_append_of_le_length (by rw [List.length_take]; omega)]
    rw [e2, ← List.append_assoc]
    generalize hst : xs.take (xs.length - c) ++ (ys.take (c + d)).drop c = st
    have hlen : st.length = xs.length - c + d := by rw [← hst]; simp; omega
    by_cases h0 : st.length = 0
    · have : st = [] := List.length_eq_zero_iff.1 h0
      rw [this]; rfl
    · refine push_app st _ (st.length - 1) (by omega) ?_
      by_cases hd0 : d = 0
      · subst hd0
        have hs := h.stop (by omega) (by omega)
        have : st.getD (st.length - 1) 0 = xs.getD (xs.length - 1 - c) 0 := by
          rw [hlen, ← hst]
          simp only [List.getD, Nat.add_zero]
          rw [List.getElem?_append_left (by rw [List.length_take]; omega), List.getElem?_take, if_pos (by omega), show xs.length - c - 1 = xs.length - 1 - c by omega]
        rw [this, Nat.add_zero]
        exact hs
      · have hs := hr (c + d - 1) (by omega)
        have : st.getD (st.length - 1) 0 = ys.getD (c + d - 1) 0 := by
          rw [hlen, ← hst]
          simp only [List.getD]
          rw [List.getElem?_append_right (by rw [List.length_take]; omega), List.length_take, List.getElem?_drop, List.getElem?_take, if_pos (by omega)]
          congr 2
          omega
        rw [this]
        rw [show c + d - 1 + 1 = c + d by omega] at hs
        exact hs
theorem push_fold {xs ys : List Int} {c : Nat} (h : Canc xs ys c) (hr : Reduced ys) : pushL xs ys c = ys.foldl bw.push xs := by
  have h2 := h.ly
  rw [← pTo_all, show ys.length = c + (ys.length - c) by omega, pto_app h hr (ys.length - c) (by omega), show c + (ys.length - c) = ys.length by omega, List.take_length]
  rfl
theorem red_of {r : List Int} (h : Reduced r) : redL r = r := by
  have hc : Canc ([] : List Int) r 0 := ⟨Nat.le_refl _, Nat.zero_le _, fun i hi => by omega, fun h => by simp at h⟩
  have := push_fold hc h
  simpa [pushL, redL] using this.symm

/-- The stack behind some rows. -/
def stkR {n : Nat} (rows : List (List Int)) (pre : List (Fin n)) : List Int := redL (pre.map fun i => rows.getD i.val []).flatten
theorem stkR_nil {n : Nat} (rows : List (List Int)) : stkR (n := n) rows [] = [] := rfl
theorem stkR_snoc {n : Nat} (rows : List (List Int)) (pre : List (Fin n)) (i : Fin n) : stkR rows (pre ++ [i]) = (rows.getD i.val []).foldl bw.push (stkR rows pre) := by
  simp [stkR, redL, List.foldl_append]
theorem flat_len (L : List (List Int)) (m : Nat) (h : ∀ r ∈ L, r.length ≤ m) : L.flatten.length ≤ L.length * m := by
  induction L with
  | nil => simp
  | cons a L ih =>
    have h1 := h a (by simp)
    have h2 := ih (fun r hr => h r (by simp [hr]))
    simp only [List.flatten_cons, List.length_append, List.length_cons, Nat.succ_mul]
    omega
theorem rows_mem (rows : List (List Int)) (k : Nat) (h : k < rows.length) : rows.getD k [] = rows[k] := by simp [List.getD, List.getElem?_eq_getElem h]
theorem stkR_len {n : Nat} (rows : List (List Int)) (hn : n = rows.length) (m : Nat) (h : ∀ k, k < rows.length → (rows.getD k []).length ≤ m) (pre : List (Fin n)) : (stkR rows pre).length ≤ pre.length * m := by
  have h1 := redL_len (pre.map fun i => rows.getD i.val []).flatten
  have h2 := flat_len (pre.map fun i => rows.getD i.val []) m (fun r hr => by
    rw [List.mem_map] at hr
    obtain ⟨i, _, rfl⟩ := hr
    exact h i.val (by rw [← hn]; exact i.isLt))
  rw [List.length_map] at h2
  exact Nat.le_trans h1 h2
theorem stkR_all {rows : List (List Int)} {n : Nat} (hn : n = rows.length) (pre : List (Fin n)) (h : pre.map (fun i => i.val) = List.range n) : stkR rows pre = redL rows.flatten := by
  have e : (pre.map fun i => rows.getD i.val []) = rows := by
    have h1 : (pre.map fun i => rows.getD i.val []) = (pre.map fun i => i.val).map fun j => rows.getD j [] := by rw [List.map_map]; rfl
    rw [h1, h, hn]
    apply List.ext_getElem (by simp)
    intro i h1 h2
    simp [List.getD, h2]
  rw [stkR, e]

/-! ### slices.Values -/
def encV (V : Nat → Value) (n : Nat) (i : Fin n) : Array Value := #[V i.val]

/-- The stack between two rounds. -/
def StR {n : Nat} (rows : List (List Int)) (w : World) (pre : List (Fin n)) (W : World) : Prop := (∃ v, Boxed W w.heap.size 56 v ∧ W.ownsRow w.heap.size 2 1 v (stkR rows pre).length ((stkR rows pre).map (Value.int .i64)) ∧ True) ∧ Below w.heap.size w W

end Go.Proofs.Ytfechjhngcmdpab.pv
