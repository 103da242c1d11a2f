/-
  Letters in groups that do not touch: mathematics.
-/
import Derived.Test.YtiacfejileeieaaBrm
import Derived.Test.YtiacfejileeieaaSs2
namespace Go.Proofs.Ytiacfejileeieaa.pk
open Go.Proofs.Ytiacfejileeieaa.bw
set_option linter.unusedVariables false

def tchQ (y x : Int) : Bool := decide (-1 ≤ ab y - ab x ∧ ab y - ab x ≤ 1)
def tch (ys : List Int) (x : Int) : Bool := ys.any fun y => tchQ y x
theorem tchQ_comm (x y : Int) : tchQ x y = tchQ y x := by
  unfold tchQ
  rw [decide_eq_decide]; omega
def lastL (L : List (List Int)) : List Int := L.getD (L.length - 1) []
def newQ (L : List (List Int)) (x : Int) : Bool := decide (L.length = 0) || tch (lastL L) x
def pk (L : List (List Int)) (x : Int) : List (List Int) := if newQ L x = true then L ++ [[x]] else L.set (L.length - 1) (lastL L ++ [x])
def pkT (xs : List Int) (k : Nat) : List (List Int) := (xs.take k).foldl pk []
theorem pkT_zero (xs : List Int) : pkT xs 0 = [] := rfl
theorem pkT_succ (xs : List Int) (k : Nat) (h : k < xs.length) : pkT xs (k + 1) = pk (pkT xs k) (xs.getD k 0) := by
  unfold pkT
  rw [List.take_succ_eq_append_getElem h, List.foldl_append]
  simp [List.getD, List.getElem?_eq_getElem h]
/-- No row is empty, and no row is long. -/
def okL (L : List (List Int)) (n : Nat) : Prop := L.length ≤ n ∧ ∀ j, j < L.length → 0 < (L.getD j []).length ∧ (L.getD j []).length ≤ n
theorem newQ_pos {L : List (List Int)} {x : Int} (h : newQ L x = false) : 0 < L.length := by
  rcases Nat.eq_zero_or_pos L.length with h0 | h0
  · simp [newQ, h0] at h
  · exact h0
theorem okL_pk {L : List (List Int)} {n : Nat} {x : Int} (h : okL L n) : okL (pk L x) (n + 1) := by
  obtain ⟨h1, h2⟩ := h
  unfold pk
  split
  · refine ⟨by simp; omega, fun j hj => ?_⟩
    simp only [List.length_append, List.length_cons, List.length_nil, Nat.zero_add] at hj
    by_cases hl : j < L.length
    · have e : (L ++ [[x]]).getD j [] = L.getD j [] := by simp [List.getD, List.getElem?_append_left hl]
      rw [e]
      have := h2 j hl
      omega
    · obtain rfl : j = L.length := by omega
      have e : (L ++ [[x]]).getD L.length [] = [x] := by simp [List.getD]
      rw [e]
      simp
  · rename_i hq
    have hp : 0 < L.length := newQ_pos (x := x) (by simpa using hq)
    refine ⟨by simp; omega, fun j hj => ?_⟩
    rw [List.length_set] at hj
    by_cases hl : j = L.length - 1
    · subst hl
      have e : (L.set (L.length - 1) (lastL L ++ [x])).getD (L.length - 1) [] = lastL L ++ [x] := by simp [List.getD, hj]
      rw [e]
      have := h2 _ hj
      have e2 : (lastL L ++ [x]).length = (L.getD (L.length - 1) []).length + 1 := by simp [lastL]
      omega
    · have e : (L.set (L.length - 1) (lastL L ++ [x])).getD j [] = L.getD j [] := by simp [List.getD, Ne.symm hl]
      rw [e]
      have := h2 j hj
      omega
theorem okL_T (xs : List Int) : ∀ k, k ≤ xs.length → okL (pkT xs k) k
  | 0, _ => ⟨by simp [pkT], fun j hj => by simp [pkT] at hj⟩
  | k + 1, h => by
    rw [pkT_succ xs k h]
    exact okL_pk (okL_T xs k (by omega))
def pkW (s : Int) (xs : List Int) : List (List Int) := if okB s xs = true then pkT xs xs.length else []
theorem pk_no {s : Int} {xs : List Int} (h : okB s xs = false) : pkW s xs = [] := by simp [pkW, h]
theorem pk_yes {s : Int} {xs : List Int} (h : okB s xs = true) : pkW s xs = pkT xs xs.length := by simp [pkW, h]
theorem tot_small (L : List (List Int)) (n : Nat) (hn : n ≤ 40) (h : okL L n) : L.length ≤ 1048576 ∧ ss.Short L 1099511627776 ∧ ss.tot L ≤ 1048576 := by
  have hm : ∀ r ∈ L, r.length ≤ 40 := by
    intro r hr
    obtain ⟨j, hj, rfl⟩ := List.getElem_of_mem hr
    have := (h.2 j hj).2
    simp [List.getD, List.getElem?_eq_getElem hj] at this
    omega
  have h1 := h.1
  refine ⟨by omega, fun j hj => ?_, ?_⟩
  · have := (h.2 j hj).2; omega
  · have ht : ∀ k, k ≤ L.length → ss.pre L k ≤ k * 40 := by
      intro k
      induction k with
      | zero => intro _; simp [ss.pre]
      | succ k ih =>
        intro hk
        have := ih (by omega)
        have h3 := (h.2 k (by omega)).2
        rw [ss.pre_succ L k (by omega)]
        omega
    have := ht L.length (Nat.le_refl _)
    have hle : L.length * 40 ≤ 40 * 40 := Nat.mul_le_mul (by omega) (Nat.le_refl _)
    unfold ss.tot
    omega
end Go.Proofs.Ytiacfejileeieaa.pk
