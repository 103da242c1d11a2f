/-
  Slices of slices of int64 that are changed in place: rows that a call owns, below a bound.
-/
import Derived.Test.YtiacfejileeieaaSs2
namespace Go.Proofs.Ytiacfejileeieaa.nw
open Go.RowKit Go.Proofs.Ytiacfejileeieaa.sl Go.Proofs.Ytiacfejileeieaa.br Go.Proofs.Ytiacfejileeieaa.ss
set_option linter.unusedVariables false

/-- The rows L lie at the block g; each is owned apart from the others and from g, in blocks from lo on and below top. -/
def TR (W : World) (lo top g : Nat) (L : List (List Int)) : Prop :=
  lo ≤ g ∧ g < top ∧ top ≤ W.heap.size ∧ ∃ (V : Nat → Value) (Lo Hi : Nat → Nat), ∀ j, j < L.length → W.cell? ⟨g, j, none⟩ = some (V j) ∧ W.frozen? ⟨g, j, none⟩ = false ∧ sl.Own W (Lo j) (Hi j) (V j) (L.getD j []) ∧ lo ≤ Lo j ∧ Hi j ≤ top ∧ (g < Lo j ∨ Hi j ≤ g) ∧ ∀ i, i < j → Hi i ≤ Lo j ∨ Hi j ≤ Lo i
theorem TR.below {W W' : World} {lo top g : Nat} {L : List (List Int)} (h : TR W lo top g L) (b : Below W.heap.size W W') : TR W' lo top g L := by
  obtain ⟨h1, h2, h3, V, Lo, Hi, hr⟩ := h
  refine ⟨h1, h2, Nat.le_trans h3 b.size, V, Lo, Hi, fun j hj => ?_⟩
  obtain ⟨a1, a2, a3, a4⟩ := hr j hj
  exact ⟨(b.cell (p := ⟨g, j, none⟩) (by show g < _; omega)).trans a1, (b.frozen (p := ⟨g, j, none⟩) (by show g < _; omega)).trans a2, a3.chg (Chg.ofBelow (lo := 0) b) (.inr (.inr (Nat.zero_le _))), a4⟩
/-- A row is read. -/
theorem TR.at {W : World} {lo top g : Nat} {L : List (List Int)} (h : TR W lo top g L) (j : Nat) (hj : j < L.length) : ∃ v, W.cell? ⟨g, j, none⟩ = some v ∧ W.frozen? ⟨g, j, none⟩ = false ∧ Ints W top v (L.getD j []) := by
  obtain ⟨_, _, _, V, Lo, Hi, hr⟩ := h
  obtain ⟨a1, a2, a3, _, a5, _⟩ := hr j hj
  exact ⟨V j, a1, a2, a3.ints.mono a5⟩
/-- A row of newer blocks takes a row's place. -/
theorem TR.put {W : World} {lo top top' g : Nat} {L : List (List Int)} {y : Value} {r : List Int} (h : TR W lo top g L) (k : Nat) (hk : k < L.length) (oy : sl.Own W top top' y r) (ht : top ≤ top') (ht2 : top' ≤ W.heap.size) : TR (W.setCell ⟨g, k, none⟩ y) lo top' g (L.set k r) := by
  obtain ⟨h1, h2, h3, V, Lo, Hi, hr⟩ := h
  refine ⟨h1, by omega, by simpa using ht2, fun j => if j = k then y else V j, fun j => if j = k then top else Lo j, fun j => if j = k then top' else Hi j, fun j hj => ?_⟩
  rw [List.length_set] at hj
  obtain ⟨a1, a2, a3, a4, a5, a6, a7⟩ := hr j hj
  obtain ⟨b1, _⟩ := hr k hk
  by_cases hjk : j = k
  · subst hjk
    have e : (L.set j r).getD j [] = r := by simp [List.getD, hj]
    rw [e]
    simp only [if_true]
    refine ⟨ss.same_at a1, by rw [World.frozen?_setCell]; exact a2, own_other oy g j y (.inl h2), by omega, Nat.le_refl _, .inl h2, fun i hi => ?_⟩
    rw [if_neg (by omega), if_neg (by omega)]
    have := (hr i (by omega)).2.2.2.2.1
    exact .inl this
  · have e : (L.set k r).getD j [] = L.getD j [] := by simp [List.getD, Ne.symm hjk]
    rw [e]
    simp only [if_neg hjk]
    refine ⟨by rw [ss.other_at (by omega)]; exact a1, by rw [World.frozen?_setCell]; exact a2, own_other a3 g k y (by omega), a4, by omega, a6, fun i hi => ?_⟩
    by_cases hik : i = k
    · rw [if_pos hik, if_pos hik]
      exact .inr a5
    · rw [if_neg hik, if_neg hik]
      exact a7 i hi
theorem TR.rown {W : World} {lo top g c : Nat} {L : List (List Int)} (h : TR W lo top g L) : ss.ROwn W lo top (.slice (some ⟨g, 0, none⟩) L.length c) L := by
  obtain ⟨h1, h2, h3, V, Lo, Hi, hr⟩ := h
  refine ⟨h3, ?_⟩
  by_cases hL : L = []
  · subst hL; exact .inl ⟨rfl, _, _, rfl⟩
  · refine .inr ⟨List.length_pos_iff.2 hL, g, 0, c, V, Lo, Hi, rfl, h1, h2, fun j hj => ?_⟩
    obtain ⟨a1, a2, a3, a4, a5, a6, a7⟩ := hr j hj
    exact ⟨by rw [Nat.zero_add]; exact a1, a3, a4, a5, a6, a7⟩
end Go.Proofs.Ytiacfejileeieaa.nw
