/-
  Stacks after stitches: what the model tests at the end is what the program tests on its way.
-/
import Derived.Test.YtbbnheiibkcgiabDoorSt0
namespace Go.Proofs.YtbbnheiibkcgiabDoor.st
open Go.Proofs.YtbbnheiibkcgiabDoor.bw
set_option linter.unusedVariables false

theorem sum1 (a : Int) : sumL [a] = a := by simp [sumL]
theorem sum2 (a b : Int) : sumL [a, b] = a + b := by simp [sumL]
theorem tkn_list {ss ks : List Int} (hk : ∀ j, j < ks.length → knd (ks.getD j 0) = true) (ht : sumL (ks.map tk) = (ss.length : Int)) (i : Nat) (h : i < ks.length) :
    (tk (ks.getD i 0) = 1 → tkn ss ks i = [ss.getD (off ks i) 0] ∧ off ks i < ss.length) ∧ (tk (ks.getD i 0) = 2 → tkn ss ks i = [ss.getD (off ks i) 0, ss.getD (off ks i + 1) 0] ∧ off ks i + 1 < ss.length) := by
  have hl := tkn_len hk ht i h
  have ha := tkn_at hk ht i h
  refine ⟨fun e => ?_, fun e => ?_⟩ <;> rw [e] at hl ha
  · have h1 : (tkn ss ks i).length = 1 := hl.1
    have h2 := ha 0 (by decide)
    match hx : tkn ss ks i, h1 with
    | [a], _ =>
      rw [hx] at h2
      refine ⟨?_, by have := hl.2; simp at this; omega⟩
      simp only [List.getD_cons_zero, Nat.add_zero] at h2
      rw [h2]
  · have h1 : (tkn ss ks i).length = 2 := hl.1
    have h2 := ha 0 (by decide)
    have h3 := ha 1 (by decide)
    match hx : tkn ss ks i, h1 with
    | [a, b], _ =>
      rw [hx] at h2 h3
      refine ⟨?_, by have := hl.2; simp at this; omega⟩
      simp only [List.getD_cons_zero, Nat.add_zero] at h2
      simp only [List.getD_cons_succ, List.getD_cons_zero] at h3
      rw [h2, h3]
def thk (ss ks : List Int) (i : Nat) : Bool := decide (ks.getD i 0 = 4 ∨ ks.getD i 0 = 5) && decide (4 < sumL (tkn ss ks i))
def thkTo (ss ks : List Int) (i : Nat) : Bool := (List.range i).any (thk ss ks)
theorem thkTo_zero (ss ks : List Int) : thkTo ss ks 0 = false := rfl
theorem thkTo_succ (ss ks : List Int) (i : Nat) : thkTo ss ks (i + 1) = (thkTo ss ks i || thk ss ks i) := by simp [thkTo, List.range_succ]
theorem thkTo_mono {ss ks : List Int} {i j : Nat} (h : thkTo ss ks i = true) (hij : i ≤ j) : thkTo ss ks j = true := by
  simp only [thkTo, List.any_eq_true, List.mem_range] at h ⊢
  obtain ⟨q, h1, h2⟩ := h
  exact ⟨q, by omega, h2⟩
theorem rep_all (n : Nat) : (List.replicate n (1 : Int)).all stk = true := by simp [stk]
theorem bad_step {ss ks : List Int} (hk : ∀ j, j < ks.length → knd (ks.getD j 0) = true) (ht : sumL (ks.map tk) = (ss.length : Int)) (hs : ∀ j, j < ss.length → 1 ≤ ss.getD j 0 ∧ ss.getD j 0 ≤ 4) (i : Nat) (h : i < ks.length) :
    badC (ks.getD i 0) (tkn ss ks i) = (!((mdn ss ks i).all stk) || thk ss ks i) := by
  have hl := tkn_list hk ht i h
  unfold mdn thk
  generalize ks.getD i 0 = x at *
  unfold badC mkC
  by_cases h6 : x = 6
  · subst h6
    simp
  · by_cases h7 : x = 7
    · subst h7
      obtain ⟨e1, e2⟩ := hl.1 (by decide)
      have := hs _ e2
      rw [e1]
      simp only [sum1]
      generalize ss.getD (off ks i) 0 = p at *
      simp [stk]
      omega
    · by_cases h45 : x = 4 ∨ x = 5
      · rw [if_neg h6, if_pos h45, if_neg h6, if_neg h7]
        have ht2 : tk x = 2 := by rcases h45 with rfl | rfl <;> decide
        obtain ⟨e1, e2⟩ := hl.2 ht2
        have a1 := hs _ e2
        have a2 := hs (off ks i) (by omega)
        rw [rep_all, e1, sum2]
        simp only [h45, decide_true, Bool.true_and, Bool.not_true, Bool.false_or]
        unfold stk
        generalize ss.getD (off ks i) 0 = p at *
        generalize ss.getD (off ks i + 1) 0 = q at *
        by_cases hg : 4 < p + q
        · rw [decide_eq_false (by omega), decide_eq_true hg]; rfl
        · rw [decide_eq_true (by omega), decide_eq_false hg]; rfl
      · rw [if_neg h6, if_neg h45, if_neg h6, if_neg h7, rep_all]
        simp [h45]
theorem bad_split {ss ks : List Int} (hk : ∀ j, j < ks.length → knd (ks.getD j 0) = true) (ht : sumL (ks.map tk) = (ss.length : Int)) (hs : ∀ j, j < ss.length → 1 ≤ ss.getD j 0 ∧ ss.getD j 0 ≤ 4) :
    ∀ i, i ≤ ks.length → badTo ss ks i = (!((aftTo ss ks i).all stk) || thkTo ss ks i)
  | 0, _ => rfl
  | i + 1, h => by
    rw [badTo_succ, aftTo_succ, thkTo_succ, bad_split hk ht hs i (by omega), bad_step hk ht hs i (by omega), List.all_append]
    cases (aftTo ss ks i).all stk <;> cases (mdn ss ks i).all stk <;> cases thkTo ss ks i <;> cases thk ss ks i <;> rfl
/-- The model's last test. -/
theorem sa_last {ss ks : List Int} (h1 : stks ss = true) (h2 : lst ks = true) (h3 : tkS ks = (ss.length : Int)) :
    saC ss ks = if (!(stks (aftTo ss ks ks.length)) || thkTo ss ks ks.length) then 5 else 0 := by
  have hk := (lst_parts h2).2
  have ht : sumL (ks.map tk) = (ss.length : Int) := by rw [← h3, tkS, h2]; rfl
  have hm : mdS ks = sumL (ks.map md) := by rw [mdS, h2]; rfl
  have hl := aftTo_len (ss := ss) hk ks.length (Nat.le_refl _)
  rw [sF_all, ← hm] at hl
  have hb := bad_split hk ht (stks_parts h1).2 ks.length (Nat.le_refl _)
  simp only [saC, h1, h2, Bool.and_self, if_true, if_pos h3]
  by_cases h8 : 8 < mdS ks
  · rw [if_pos h8, stks_long (by omega)]
    simp
  · rw [if_neg h8, stks_short (by omega), hb]
end Go.Proofs.YtbbnheiibkcgiabDoor.st
