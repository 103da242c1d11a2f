/-
  Contracts of InvertBraid, of the program and of its model.
-/
import Derived.Test.YtbbnheiibkcgiabDoorEx
import Derived.Deep.RegionHeld3
import Derived.RegionTactic
namespace Go.Proofs.YtbbnheiibkcgiabDoor.br
open Go.RowKit Go.Proofs.YtbbnheiibkcgiabDoor.sl Go.Proofs.YtbbnheiibkcgiabDoor.pm Go.Proofs.YtbbnheiibkcgiabDoor.bw Go.Proofs.YtbbnheiibkcgiabDoor.fn

/-! ### slices.Reverse -/
def revI (xs : List Int) (i : Nat) : List Int := (List.range xs.length).map fun p => if p < i ∨ xs.length - 1 - p < i then xs.getD (xs.length - 1 - p) 0 else xs.getD p 0
theorem revI_len (xs : List Int) (i : Nat) : (revI xs i).length = xs.length := by simp [revI]
theorem revI_at (xs : List Int) (i p : Nat) (h : p < xs.length) : (revI xs i).getD p 0 = if p < i ∨ xs.length - 1 - p < i then xs.getD (xs.length - 1 - p) 0 else xs.getD p 0 := by
  simp [revI, List.getD, h]
theorem revI_zero (xs : List Int) : revI xs 0 = xs := by
  refine list_eq_of (revI_len xs 0) fun j hj => ?_
  rw [revI_len] at hj
  rw [revI_at xs 0 j hj, if_neg (by omega)]
theorem getD_rev (xs : List Int) (j : Nat) (h : j < xs.length) : xs.reverse.getD j 0 = xs.getD (xs.length - 1 - j) 0 := by
  have h2 : xs.length - 1 - j < xs.length := by omega
  simp [List.getD, List.getElem?_eq_getElem h2, h]
theorem revI_all (xs : List Int) (i : Nat) (h : xs.length ≤ 2 * i + 1) : revI xs i = xs.reverse := by
  refine list_eq_of (by rw [revI_len]; simp) fun j hj => ?_
  rw [revI_len] at hj
  rw [revI_at xs i j hj, getD_rev xs j hj]
  by_cases h1 : j < i ∨ xs.length - 1 - j < i
  · rw [if_pos h1]
  · rw [if_neg h1]
    have : j = xs.length - 1 - j := by omega
    rw [← this]
theorem getD_set (xs : List Int) (i j : Nat) (x : Int) (h : j < xs.length) : (xs.set i x).getD j 0 = if j = i then x else xs.getD j 0 := by
  by_cases e : j = i
  · subst e; simp [List.getD, h]
  · rw [if_neg e]; simp [List.getD, show ¬ i = j from fun h => e h.symm]
theorem revI_step (xs : List Int) (i j : Nat) (hij : i < j) (hj : i + j + 1 = xs.length) : ((revI xs i).set i (xs.getD j 0)).set j (xs.getD i 0) = revI xs (i + 1) := by
  refine list_eq_of (by simp [revI_len]) fun p hp => ?_
  simp only [List.length_set, revI_len] at hp
  rw [getD_set _ _ _ _ (by simp [revI_len]; exact hp), getD_set _ _ _ _ (by rw [revI_len]; exact hp), revI_at xs i p hp, revI_at xs (i + 1) p hp]
  by_cases h1 : p = j
  · subst h1
    rw [if_pos rfl, if_pos (by omega)]
    congr 1; omega
  · rw [if_neg h1]
    by_cases h2 : p = i
    · subst h2
      rw [if_pos rfl, if_pos (by omega)]
      congr 1; omega
    · rw [if_neg h2]
      by_cases h3 : p < i ∨ xs.length - 1 - p < i
      · rw [if_pos h3, if_pos (by omega)]
      · rw [if_neg h3, if_neg (by omega)]

theorem revWorld {w : World} {lo hi g n cap : Nat} {xs : List Int} (o : Own w lo hi (.slice (some ⟨g, 0, none⟩) n cap) xs) (i j : Nat) (a b : Int) :
    Own ((w.setCell ⟨g, i, none⟩ (.int .i64 a)).setCell ⟨g, j, none⟩ (.int .i64 b)) lo hi (.slice (some ⟨g, 0, none⟩) n cap) ((xs.set i a).set j b) ∧
    Chg lo hi w ((w.setCell ⟨g, i, none⟩ (.int .i64 a)).setCell ⟨g, j, none⟩ (.int .i64 b)) := by
  have h1 := o.set i a
  have h2 := h1.1.set j b
  exact ⟨h2.1, h1.2.trans h2.2⟩

/-- The word of an answer: nothing where the braid is not valid. -/
def wordOk (s : Int) (xs ys : List Int) : List Int := if okB s xs = true then ys else []
def strOk (s : Int) (xs : List Int) : Int := if okB s xs = true then s else 0
theorem wordOk_yes {s : Int} {xs ys : List Int} (h : okB s xs = true) : wordOk s xs ys = ys := by rw [wordOk, if_pos h]
theorem wordOk_no {s : Int} {xs ys : List Int} (h : okB s xs = false) : wordOk s xs ys = [] := by rw [wordOk, if_neg (by rw [h]; simp)]
theorem strOk_yes {s : Int} {xs : List Int} (h : okB s xs = true) : strOk s xs = s := by rw [strOk, if_pos h]
theorem strOk_no {s : Int} {xs : List Int} (h : okB s xs = false) : strOk s xs = 0 := by rw [strOk, if_neg (by rw [h]; simp)]
def invW (s : Int) (xs : List Int) : List Int := wordOk s xs (xs.reverse.map fun x => -x)
theorem invW_len (s : Int) (xs : List Int) : (invW s xs).length ≤ 1000 := by
  cases h : okB s xs
  · rw [invW, wordOk_no h]; simp
  · rw [invW, wordOk_yes h]; have := (ok_parts h).2.2.1; simp; omega

theorem ok_small {s : Int} {xs : List Int} (h : okB s xs = true) : ∀ j, j < xs.length → -100 ≤ xs.getD j 0 ∧ xs.getD j 0 ≤ 100 := by
  obtain ⟨h0, h1, _, h3⟩ := ok_parts h
  intro j hj
  have := h3 j hj
  omega

theorem map_rev (xs : List Int) : (xs.map fun x => -x).reverse = xs.reverse.map fun x => -x := by rw [List.map_reverse]

end Go.Proofs.YtbbnheiibkcgiabDoor.br
