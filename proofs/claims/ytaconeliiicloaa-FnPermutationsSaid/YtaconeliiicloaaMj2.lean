/-
  Sorting by a pair set: contracts of insertionSortCmpFunc, pdqsortCmpFunc (at most twelve things) and slices.SortFunc with the closure.
-/
import Derived.Test.YtaconeliiicloaaMj1
namespace Go.Proofs.Ytaconeliiicloaa.mj
open Go.RowKit Go.Proofs.Ytaconeliiicloaa.sl Go.Proofs.Ytaconeliiicloaa.bt Go.Proofs.Ytaconeliiicloaa.la

/-! ### insertion, in plain words -/
def nums (l : List Nat) : List Int := l.map fun (x : Nat) => (x : Int)
theorem nums_len (l : List Nat) : (nums l).length = l.length := by simp [nums]
theorem nums_at (l : List Nat) (i : Nat) (h : i < l.length) : (nums l).getD i 0 = ((l.getD i 0 : Nat) : Int) := by
  simp [nums, List.getD, List.getElem?_eq_getElem h]
def SortedTo (lt : Nat → Nat → Bool) (l : List Nat) (i : Nat) : Prop := ∀ a b, a < b → b < i → lt (l.getD b 0) (l.getD a 0) = false
def InsTo (lt : Nat → Nat → Bool) (l : List Nat) (i j : Nat) : Prop := ∀ a b, a < b → b ≤ i → b ≠ j → lt (l.getD b 0) (l.getD a 0) = false
def swapN (l : List Nat) (k : Nat) : List Nat := (l.set (k + 1) (l.getD k 0)).set k (l.getD (k + 1) 0)
theorem swapN_len (l : List Nat) (k : Nat) : (swapN l k).length = l.length := by simp [swapN]
theorem getN_set (xs : List Nat) (i j x : Nat) (h : j < xs.length) : (xs.set i x).getD j 0 = if j = i then x else xs.getD j 0 := by
  by_cases e : j = i
  · subst e; simp [List.getD, h]
  · rw [if_neg e]; simp [List.getD, show ¬ i = j from fun h => e h.symm]
theorem swapN_at (l : List Nat) (k j : Nat) (hj : j < l.length) : (swapN l k).getD j 0 = if j = k then l.getD (k + 1) 0 else if j = k + 1 then l.getD k 0 else l.getD j 0 := by
  rw [swapN, getN_set _ _ _ _ (by simpa using hj), getN_set _ _ _ _ hj]
theorem swapN_nums (l : List Nat) (k : Nat) (hk : k + 1 < l.length) : nums (swapN l k) = ((nums l).set (k + 1) ((nums l).getD k 0)).set k ((nums l).getD (k + 1) 0) := by
  rw [nums_at l k (by omega), nums_at l (k + 1) hk]
  simp [nums, swapN, List.map_set]
theorem swapN_perm (l : List Nat) (k : Nat) (hk : k + 1 < l.length) : (swapN l k).Perm l := by
  have e : l = l.take k ++ l.getD k 0 :: l.getD (k + 1) 0 :: l.drop (k + 2) := by
    have h1 : l.getD k 0 = l[k] := by simp [List.getD, List.getElem?_eq_getElem (show k < l.length by omega)]
    have h2 : l.getD (k + 1) 0 = l[k + 1] := by simp [List.getD, List.getElem?_eq_getElem hk]
    rw [h1, h2, ← List.drop_eq_getElem_cons hk, ← List.drop_eq_getElem_cons (show k < l.length by omega), List.take_append_drop]
  have e2 : swapN l k = l.take k ++ l.getD (k + 1) 0 :: l.getD k 0 :: l.drop (k + 2) := by
    unfold swapN
    generalize l.getD k 0 = x at *
    generalize l.getD (k + 1) 0 = y at *
    have hl : (l.take k).length = k := by simp; omega
    generalize l.take k = A at *
    generalize l.drop (k + 2) = B at *
    subst e
    rw [List.set_append_right _ _ (by omega), List.set_append_right _ _ (by omega)]
    have a1 : k + 1 - A.length = 1 := by omega
    have a2 : k - A.length = 0 := by omega
    rw [a1, a2]; rfl
  rw [e2]
  conv => rhs; rw [e]
  exact List.Perm.append_left _ (List.Perm.swap _ _ _)
theorem ins_start {lt : Nat → Nat → Bool} {l : List Nat} {i : Nat} (h : SortedTo lt l i) : InsTo lt l i i := fun a b h1 h2 h3 => h a b h1 (by omega)
theorem ins_swap {lt : Nat → Nat → Bool} {l : List Nat} {i k : Nat} (h : InsTo lt l i (k + 1)) (hk : k + 1 ≤ i) (hi : i < l.length) (hl : lt (l.getD (k + 1) 0) (l.getD k 0) = true) (has : ∀ x y, lt x y = true → lt y x = false) : InsTo lt (swapN l k) i k := by
  intro a b hab hb hbk
  rw [swapN_at l k a (by omega), swapN_at l k b (by omega)]
  rw [if_neg hbk]
  by_cases h1 : b = k + 1
  · rw [if_pos h1]
    by_cases h2 : a = k
    · rw [if_pos h2]; exact has _ _ hl
    · rw [if_neg h2, if_neg (by omega)]; exact h a k (by omega) (by omega) (by omega)
  · rw [if_neg h1]
    by_cases h2 : a = k
    · rw [if_pos h2]; exact h (k + 1) b (by omega) hb h1
    · rw [if_neg h2]
      by_cases h3 : a = k + 1
      · rw [if_pos h3]; exact h k b (by omega) hb h1
      · rw [if_neg h3]; exact h a b hab hb h1
theorem ins_stop {lt : Nat → Nat → Bool} {l : List Nat} {i j : Nat} (h : InsTo lt l i j) (hj : j = 0 ∨ lt (l.getD j 0) (l.getD (j - 1) 0) = false) (hn : ∀ x y z, lt x y = false → lt y z = false → lt x z = false) : SortedTo lt l (i + 1) := by
  intro a b hab hb
  by_cases e : b = j
  · subst e
    rcases hj with h0 | h0
    · omega
    · by_cases h1 : a = b - 1
      · subst h1; exact h0
      · exact hn _ _ _ h0 (h a (b - 1) (by omega) (by omega) (by omega))
  · exact h a b hab (by omega) e

/-! ### worlds with new blocks -/
theorem below_grow (W : World) (n : Nat) (os : Array Obj) : Below W.heap.size W (Go.Sort.grow (W.drewN n) os) :=
  ⟨rfl, rfl, rfl, by simp, fun k hk => Go.Sort.heap_grow_old (W.drewN n) os hk⟩
theorem rows_grow {W : World} {c T : Nat} {f : Nat → Nat} (h : Rows12 W c T f) (n : Nat) (os : Array Obj) : Rows12 (Go.Sort.grow (W.drewN n) os) c T f := by
  unfold Rows12
  rw [Go.Sort.heap_grow_old (W.drewN n) os h.lt]
  exact h

def ltB (f : Nat → Nat) (x y : Nat) : Bool := decide (cf f x y < 0)

end Go.Proofs.Ytaconeliiicloaa.mj
