/-
  Reducing a handle in a linked word.
-/
import Derived.Test.YtedajefapddekaaHl5
namespace Go.Proofs.Ytedajefapddekaa.hl
open Go.RowKit Go.Proofs.Ytedajefapddekaa.sl Go.Proofs.Ytedajefapddekaa.br Go.Proofs.Ytedajefapddekaa.bw Go.Proofs.Ytedajefapddekaa.fn
set_option linter.unusedVariables false

theorem ins_mid (A B : List Int) (k : Nat) (hk : k = A.length) (v : Int) : insL (A ++ B) k v = A ++ v :: B := by
  subst hk; unfold insL; rw [List.take_left, List.drop_left]
theorem set_mid (A B : List Int) (k : Nat) (hk : k = A.length) (x v : Int) : (A ++ x :: B).set k v = A ++ v :: B := by
  subst hk; rw [List.set_append_right _ _ (Nat.le_refl _), Nat.sub_self]; rfl
theorem erase_mid (A B : List Int) (k : Nat) (hk : k = A.length) (x : Int) : (A ++ x :: B).eraseIdx k = A ++ B := by
  subst hk; rw [List.eraseIdx_append_of_length_le (Nat.le_refl _), Nat.sub_self]; rfl

/-- The letters of a handle behind its first one, changed, up to the letter i. -/
def mid (xs : List Int) (p i : Nat) : List Int := ((xs.drop (p + 1)).take (i - (p + 1))).flatMap (wide (ab (xs.getD p 0)) (sg (xs.getD p 0)))
theorem mid_zero (xs : List Int) (p : Nat) : mid xs p (p + 1) = [] := by simp [mid]
theorem mid_succ (xs : List Int) (p i : Nat) (hp : p < i) (hi : i < xs.length) : mid xs p (i + 1) = mid xs p i ++ wide (ab (xs.getD p 0)) (sg (xs.getD p 0)) (xs.getD i 0) := by
  have h := hrTo_succ xs p i hp hi
  unfold hrTo at h
  rw [List.append_assoc] at h
  exact List.append_cancel_left h
theorem mid_len (xs : List Int) (p i : Nat) (hp : p < i) (hi : i ≤ xs.length) : (mid xs p i).length ≤ 3 * (i - (p + 1)) := by
  unfold mid
  have h1 := flat_len (wide (ab (xs.getD p 0)) (sg (xs.getD p 0))) (fun x => (wide_len _ _ x).1) ((xs.drop (p + 1)).take (i - (p + 1)))
  have h2 : ((xs.drop (p + 1)).take (i - (p + 1))).length ≤ i - (p + 1) := List.length_take_le _ _
  omega
theorem hred_mid (xs : List Int) (p q : Nat) : hred xs p q = xs.take p ++ mid xs p q ++ xs.drop (q + 1) := rfl
/-- The whole word while the handle is reduced. -/
def cur (xs : List Int) (p i : Nat) : List Int := (xs.take (p + 1) ++ mid xs p i) ++ xs.drop i
theorem cur_zero (xs : List Int) (p : Nat) : cur xs p (p + 1) = xs := by unfold cur; rw [mid_zero]; simp
theorem drop_at (xs : List Int) (i : Nat) (hi : i < xs.length) : xs.drop i = xs.getD i 0 :: xs.drop (i + 1) := by
  rw [List.drop_eq_getElem_cons hi]; simp [List.getD, List.getElem?_eq_getElem hi]
theorem cur_len (xs : List Int) (p i : Nat) (hp : p < i) (hi : i ≤ xs.length) : (cur xs p i).length = p + 1 + (mid xs p i).length + (xs.length - i) := by
  unfold cur; simp; omega
theorem cur_front (xs : List Int) (p i : Nat) (hp : p < i) (hi : i ≤ xs.length) : (xs.take (p + 1) ++ mid xs p i).length = p + 1 + (mid xs p i).length := by simp; omega
/-- The letter i of the handle stays. -/
theorem cur_same (xs : List Int) (p i : Nat) (hp : p < i) (hi : i < xs.length) (h : ¬ ab (xs.getD i 0) = ab (xs.getD p 0) + 1) : cur xs p (i + 1) = cur xs p i ∧ (mid xs p (i + 1)).length = (mid xs p i).length + 1 := by
  have hm := mid_succ xs p i hp hi
  have hw : wide (ab (xs.getD p 0)) (sg (xs.getD p 0)) (xs.getD i 0) = [xs.getD i 0] := by unfold wide; rw [if_neg h]
  rw [hw] at hm
  refine ⟨?_, by rw [hm]; simp⟩
  unfold cur
  rw [hm, drop_at xs i hi]; simp
/-- The letter i of the handle becomes three. -/
theorem cur_wide (xs : List Int) (p i : Nat) (hp : p < i) (hi : i < xs.length) (h : ab (xs.getD i 0) = ab (xs.getD p 0) + 1) (a b c : Int) (ha : a = -(sg (xs.getD p 0)) * (ab (xs.getD p 0) + 1)) (hb : b = sg (xs.getD i 0) * ab (xs.getD p 0)) (hc : c = sg (xs.getD p 0) * (ab (xs.getD p 0) + 1)) (k : Nat) (hk : k = p + 1 + (mid xs p i).length) :
    (insL (insL (cur xs p i) k a) (k + 1) b).set (k + 2) c = cur xs p (i + 1) ∧ (mid xs p (i + 1)).length = (mid xs p i).length + 3 := by
  have hm := mid_succ xs p i hp hi
  have hw : wide (ab (xs.getD p 0)) (sg (xs.getD p 0)) (xs.getD i 0) = [a, b, c] := by unfold wide; rw [if_pos h, ha, hb, hc]
  rw [hw] at hm
  refine ⟨?_, by rw [hm]; simp⟩
  have hf := cur_front xs p i hp (by omega)
  unfold cur
  rw [ins_mid _ _ k (by omega), show (xs.take (p + 1) ++ mid xs p i) ++ a :: xs.drop i = ((xs.take (p + 1) ++ mid xs p i) ++ [a]) ++ xs.drop i from by simp,
    ins_mid _ _ (k + 1) (by rw [List.length_append, hf, hk]; rfl), drop_at xs i hi,
    show (xs.take (p + 1) ++ mid xs p i) ++ [a] ++ b :: xs.getD i 0 :: xs.drop (i + 1) = ((xs.take (p + 1) ++ mid xs p i) ++ [a, b]) ++ xs.getD i 0 :: xs.drop (i + 1) from by simp,
    set_mid _ _ (k + 2) (by rw [List.length_append, hf, hk]; rfl), hm]
  simp
/-- Both ends of the handle are removed. -/
theorem cur_end (xs : List Int) (p q : Nat) (hp : p < q) (hq : q < xs.length) : ((cur xs p q).eraseIdx p).eraseIdx (p + (mid xs p q).length) = hred xs p q := by
  have hl : (xs.take p).length = p := by simp; omega
  unfold cur
  rw [take_snoc xs p (by omega), show (xs.take p ++ [xs.getD p 0]) ++ mid xs p q ++ xs.drop q = xs.take p ++ xs.getD p 0 :: (mid xs p q ++ xs.drop q) from by simp,
    erase_mid _ _ p hl.symm, drop_at xs q hq, ← List.append_assoc, erase_mid _ _ _ (by rw [List.length_append, hl]), hred_mid]
end Go.Proofs.Ytedajefapddekaa.hl
