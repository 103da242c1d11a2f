/-
  Pieces: sums over all stitches, the stitches themselves, the open group closed.
-/
import Derived.Test.YtiacfejileeieabDoorPcm
namespace Go.Proofs.YtiacfejileeieabDoor.pc
open Go.Proofs.YtiacfejileeieabDoor.st
set_option linter.unusedVariables false

def sumP (f : Int → Int) : List V → Int
  | [] => 0
  | x :: r => x.a1 * (if grp x then sumP f (r.take (ins x r)) else f x.a0) + sumP f (r.drop (ins x r))
termination_by xs => xs.length
decreasing_by
  · simp only [List.length_take, List.length_cons]; omega
  · simp only [List.length_drop, List.length_cons]; omega
theorem sumP_nil (f : Int → Int) : sumP f [] = 0 := by rw [sumP]
theorem sumP_cons (f : Int → Int) (x : V) (r : List V) : sumP f (x :: r) = x.a1 * (if grp x then sumP f (r.take (ins x r)) else f x.a0) + sumP f (r.drop (ins x r)) := by rw [sumP]
def valAt (f : Int → Int) (xs : List V) (k : Nat) : Int := (xs.getD k oz).a1 * (if grp (xs.getD k oz) then sumP f (inside xs k) else f (xs.getD k oz).a0)
def sumI (l : List Int) : Int := l.foldr (· + ·) 0
theorem sumI_snoc (l : List Int) (a : Int) : sumI (l ++ [a]) = sumI l + a := by
  induction l with
  | nil => simp [sumI]
  | cons b l ih => simp only [sumI, List.cons_append, List.foldr_cons] at ih ⊢; rw [ih]; omega
theorem sumI_app (l m : List Int) : sumI (l ++ m) = sumI l + sumI m := by
  induction l with
  | nil => simp [sumI]
  | cons b l ih => simp only [sumI, List.cons_append, List.foldr_cons] at ih ⊢; rw [ih]; omega
theorem sumP_outs (f : Int → Int) (xs : List V) : ∀ (n k : Nat), xs.length - k = n → sumP f (xs.drop k) = sumI ((outs xs k).map (valAt f xs)) := by
  intro n
  induction n using Nat.strongRecOn with
  | _ n ih =>
    intro k hk
    by_cases h : k < xs.length
    · rw [outs_lt h, List.map_cons, drop_at h, sumP_cons, List.drop_drop]
      have := ih (xs.length - nx xs k) (by have := nx_gt xs k; omega) (nx xs k) rfl
      rw [show k + 1 + ins (xs.getD k oz) (xs.drop (k + 1)) = nx xs k from rfl, this]
      simp only [sumI, List.foldr_cons, valAt, inside]
    · rw [outs_ge h, List.drop_eq_nil_of_le (by omega), sumP_nil]; rfl
/-- A sum's bounds. -/
theorem sumP_bound (f : Int → Int) (M : Nat) (hf : ∀ k, knd k = true → 0 ≤ f k ∧ f k ≤ M) : ∀ (n : Nat) (xs : List V) (g : Nat), xs.length = n → arP g xs = true → 0 ≤ sumP f xs ∧ sumP f xs ≤ ((M * 16 ^ (4 - g) * xs.length : Nat) : Int) := by
  intro n
  induction n using Nat.strongRecOn with
  | _ n ih =>
    intro xs g hn h
    cases xs with
    | nil => rw [sumP_nil]; simp
    | cons x r =>
      rw [List.length_cons] at hn
      rw [arP_cons] at h
      simp only [Bool.and_eq_true, decide_eq_true_eq] at h
      obtain ⟨h1, h2, h3, h4⟩ := h
      have hil := ins_le x r
      have e1 := ih (r.take (ins x r)).length (by rw [List.length_take]; omega) _ (g + 1) rfl h3
      have e2 := ih (r.drop (ins x r)).length (by rw [List.length_drop]; omega) _ g rfl h4
      simp only [vld, Bool.and_eq_true, decide_eq_true_eq] at h1
      obtain ⟨hg3, ht, hrest⟩ := h1
      rw [List.length_take, Nat.min_eq_left hil] at e1
      rw [List.length_drop] at e2
      rw [sumP_cons, List.length_cons]
      have hpow : 16 ^ (4 - g) = 16 * 16 ^ (4 - (g + 1)) := by rw [show 4 - g = (4 - (g + 1)) + 1 from by omega, Nat.pow_succ, Nat.mul_comm]
      obtain ⟨Q, hQ⟩ : ∃ Q, Q = M * 16 ^ (4 - (g + 1)) := ⟨_, rfl⟩
      have hQ1 : M * 16 ^ (4 - g) = 16 * Q := by rw [hpow, hQ, Nat.mul_left_comm]
      have hMQ : M ≤ Q := by rw [hQ]; exact Nat.le_mul_of_pos_right _ (Nat.pow_pos (by omega))
      rw [hQ1] at e2 ⊢
      rw [← hQ] at e1
      have key : 0 ≤ x.a1 * (if grp x then sumP f (r.take (ins x r)) else f x.a0) ∧ x.a1 * (if grp x then sumP f (r.take (ins x r)) else f x.a0) ≤ ((16 * Q * (ins x r + 1) : Nat) : Int) := by
        cases hg : grp x
        · rw [hg] at hrest
          simp only [Bool.false_eq_true, if_false, Bool.and_eq_true, decide_eq_true_eq] at hrest ⊢
          have hk := hf x.a0 hrest.1
          refine ⟨Int.mul_nonneg ht.1 hk.1, ?_⟩
          have a1 : x.a1 * f x.a0 ≤ 16 * (Q : Int) := by
            have := Int.mul_le_mul ht.2 (show f x.a0 ≤ (Q : Int) by omega) hk.1 (by omega : (0:Int) ≤ 16)
            exact this
          have a2 : (16 * Q : Nat) ≤ 16 * Q * (ins x r + 1) := Nat.le_mul_of_pos_right _ (by omega)
          have a3 : ((16 * Q : Nat) : Int) = 16 * (Q : Int) := by simp
          omega
        · simp only [if_true]
          refine ⟨Int.mul_nonneg ht.1 e1.1, ?_⟩
          have a1 := Int.mul_le_mul ht.2 e1.2 e1.1 (by omega : (0:Int) ≤ 16)
          have a3 : (16 : Int) * ((Q * ins x r : Nat) : Int) = ((16 * Q * ins x r : Nat) : Int) := by simp [Int.mul_assoc]
          have a4 : 16 * Q * ins x r ≤ 16 * Q * (ins x r + 1) := Nat.mul_le_mul_left _ (by omega)
          omega
      obtain ⟨k1, k2⟩ := key
      refine ⟨by omega, ?_⟩
      have e : 16 * Q * (r.length + 1) = 16 * Q * (ins x r + 1) + 16 * Q * (r.length - ins x r) := by rw [← Nat.mul_add]; congr 1; omega
      rw [e]
      simp only [Int.natCast_add]
      omega

/-! ### The open group closed -/
def cls (t : Int) (x : V) : V := if opn x then ⟨x.a0, t, x.a2⟩ else x
def wOp (t : Int) (xs : List V) : List V := xs.map (cls t)
theorem cls_a2 (t : Int) (x : V) : (cls t x).a2 = x.a2 := by unfold cls; split <;> rfl
theorem cls_a0 (t : Int) (x : V) : (cls t x).a0 = x.a0 := by unfold cls; split <;> rfl
theorem cls_grp (t : Int) (x : V) : grp (cls t x) = grp x := by rw [grp, cls_a0, grp]
theorem wOp_len (t : Int) (xs : List V) : (wOp t xs).length = xs.length := by simp [wOp]
theorem wOp_cons (t : Int) (x : V) (r : List V) : wOp t (x :: r) = cls t x :: wOp t r := rfl
theorem ins_w (t : Int) (x : V) (r : List V) : ins (cls t x) (wOp t r) = ins x r := by unfold ins; rw [cls_a2, wOp_len]
theorem wOp_take (t : Int) (r : List V) (n : Nat) : (wOp t r).take n = wOp t (r.take n) := by simp [wOp, List.map_take]
theorem wOp_drop (t : Int) (r : List V) (n : Nat) : (wOp t r).drop n = wOp t (r.drop n) := by simp [wOp, List.map_drop]
theorem wOp_none (t : Int) : ∀ xs : List V, cnt xs = 0 → wOp t xs = xs
  | [], _ => rfl
  | x :: r, h => by
    rw [cnt] at h
    have hx : opn x = false := by
      cases ho : opn x
      · rfl
      · rw [ho] at h; simp at h
    rw [wOp_cons, wOp_none t r (by omega), cls, hx]; rfl
/-- What the open group contains. -/
def part : List V → List V
  | [] => []
  | x :: r => if opn x then r.take (ins x r) else part r
theorem part_skip : ∀ (n : Nat) (r : List V), cnt (r.take n) = 0 → part r = part (r.drop n)
  | 0, r, _ => rfl
  | n + 1, [], _ => rfl
  | n + 1, x :: r, h => by
    rw [List.take_succ_cons, cnt] at h
    have hx : opn x = false := by
      cases ho : opn x
      · rfl
      · rw [ho] at h; simp at h
    rw [part, hx]
    simp only [Bool.false_eq_true, if_false]
    exact part_skip n r (by omega)
theorem part_none : ∀ r : List V, cnt r = 0 → part r = [] := fun r h => by
  have := part_skip r.length r (by rw [List.take_length]; exact h)
  rw [this, List.drop_length]; rfl
theorem part_len : ∀ r : List V, (part r).length ≤ r.length
  | [] => Nat.le_refl _
  | x :: r => by
    rw [part]; split
    · rw [List.length_take, List.length_cons]; omega
    · have := part_len r; rw [List.length_cons]; omega
theorem sumP_w (f : Int → Int) (t : Int) : ∀ (n : Nat) (xs : List V), xs.length = n → arP 0 xs = true → cnt xs ≤ 1 → sumP f (wOp t xs) = sumP f xs + t * sumP f (part xs) := by
  intro n
  induction n using Nat.strongRecOn with
  | _ n ih =>
    intro xs hn h hc
    cases xs with
    | nil => rw [wOp, List.map_nil, part, sumP_nil]; simp
    | cons x r =>
      rw [List.length_cons] at hn
      rw [arP_cons] at h
      simp only [Bool.and_eq_true, decide_eq_true_eq] at h
      obtain ⟨h1, h2, h3, h4⟩ := h
      have e1 := cnt_in _ _ 1 rfl (by omega) h3
      have e3 := cnt_app (r.take (ins x r)) (r.drop (ins x r))
      rw [List.take_append_drop] at e3
      rw [cnt] at hc
      rw [wOp_cons, sumP_cons, ins_w, cls_grp, wOp_take, wOp_drop, cls_a0, sumP_cons f x r, wOp_none t _ e1]
      cases ho : opn x
      · rw [ho] at hc
        have := ih (r.drop (ins x r)).length (by rw [List.length_drop]; omega) _ rfl h4 (by simp at hc; omega)
        rw [this]
        have e4 : part (x :: r) = part (r.drop (ins x r)) := by rw [part, ho]; simp only [Bool.false_eq_true, if_false]; exact part_skip _ r e1
        rw [e4, cls, ho]
        simp only [Bool.false_eq_true, if_false]
        omega
      · rw [ho] at hc
        simp only [if_true] at hc
        have e5 : cnt (r.drop (ins x r)) = 0 := by omega
        have hg : grp x = true := by rw [opn, Bool.and_eq_true] at ho; exact ho.1
        have h0 : x.a1 = 0 := by rw [opn, Bool.and_eq_true, decide_eq_true_eq] at ho; exact ho.2
        rw [wOp_none t _ e5, part, ho, cls, ho, hg, h0]
        simp only [if_true]
        omega
theorem arP_w (t : Int) (ht : 0 ≤ t ∧ t ≤ 16) : ∀ (n : Nat) (xs : List V), xs.length = n → arP 0 xs = true → arP 0 (wOp t xs) = true := by
  intro n
  induction n using Nat.strongRecOn with
  | _ n ih =>
    intro xs hn h
    cases xs with
    | nil => exact h
    | cons x r =>
      rw [List.length_cons] at hn
      rw [arP_cons] at h
      simp only [Bool.and_eq_true, decide_eq_true_eq] at h
      obtain ⟨h1, h2, h3, h4⟩ := h
      have e1 := cnt_in _ _ 1 rfl (by omega) h3
      rw [wOp_cons, arP_cons, ins_w, cls_a2, wOp_take, wOp_drop, wOp_none t _ e1]
      simp only [Bool.and_eq_true, decide_eq_true_eq]
      refine ⟨?_, h2, h3, ih _ (by rw [List.length_drop]; omega) _ rfl h4⟩
      cases ho : opn x
      · rw [cls, ho]; exact h1
      · rw [cls, ho]
        simp only [vld, if_true, Bool.and_eq_true, decide_eq_true_eq] at h1 ⊢
        have hg : grp x = true := by rw [opn, Bool.and_eq_true] at ho; exact ho.1
        have hg' : grp ⟨x.a0, t, x.a2⟩ = true := hg
        rw [hg] at h1
        rw [hg']
        simp only [if_true, Bool.and_eq_true, decide_eq_true_eq] at h1 ⊢
        exact ⟨h1.1, ht, h1.2.2.1, by simp⟩
theorem part_ok : ∀ (n : Nat) (xs : List V), xs.length = n → arP 0 xs = true → arP 1 (part xs) = true := by
  intro n
  induction n using Nat.strongRecOn with
  | _ n ih =>
    intro xs hn h
    cases xs with
    | nil => exact arP_nil 1
    | cons x r =>
      rw [List.length_cons] at hn
      rw [arP_cons] at h
      simp only [Bool.and_eq_true, decide_eq_true_eq] at h
      obtain ⟨h1, h2, h3, h4⟩ := h
      rw [part]
      split
      · exact h3
      · rw [part_skip _ r (cnt_in _ _ 1 rfl (by omega) h3)]
        exact ih _ (by rw [List.length_drop]; omega) _ rfl h4
end Go.Proofs.YtiacfejileeieabDoor.pc
