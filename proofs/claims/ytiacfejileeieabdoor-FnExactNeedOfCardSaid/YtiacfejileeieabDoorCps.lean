/-
  CompressRow: mathematics; both sides.
-/
import Derived.Test.YtiacfejileeieabDoorPc5
import Derived.Test.YtiacfejileeieabDoorSt2
import Derived.Test.YtiacfejileeieabDoorL5
import Derived.BigQuiet
namespace Go.Proofs.YtiacfejileeieabDoor.pc
open Go.RowKit Go.Sort Go.Proofs.YtiacfejileeieabDoor.sl Go.Proofs.YtiacfejileeieabDoor.st
set_option linter.unusedVariables false
set_option linter.unusedSimpArgs false
set_option maxRecDepth 100000

/-- Another number of times at one place. -/
def setT (xs : List V) (j : Nat) (t : Int) : List V := xs.set j ⟨(xs.getD j oz).a0, t, (xs.getD j oz).a2⟩
theorem setT_len (xs : List V) (j : Nat) (t : Int) : (setT xs j t).length = xs.length := by simp [setT]
theorem setT_at (xs : List V) (j : Nat) (t : Int) (h : j < xs.length) : (setT xs j t).getD j oz = ⟨(xs.getD j oz).a0, t, (xs.getD j oz).a2⟩ := by simp [setT, List.getD, h]
theorem setT_past (xs : List V) (j i : Nat) (t : Int) (h : i ≠ j) : (setT xs j t).getD i oz = xs.getD i oz := by simp [setT, List.getD, List.getElem?_set, Ne.symm h]
theorem cellsL_setT (xs : List V) (j : Nat) (t : Int) (h : j < xs.length) : cellsL (setT xs j t) = (cellsL xs).set (j * 3 + 1) (.int .i64 t) := by
  apply List.ext_getElem?
  intro m
  by_cases hm : m < xs.length * 3
  · rw [cellsL_at _ _ (by rw [setT_len]; exact hm), List.getElem?_set]
    by_cases e : j * 3 + 1 = m
    · subst e
      rw [if_pos rfl, if_pos (by rw [cellsL_len]; exact hm), show (j * 3 + 1) / 3 = j from by omega, show (j * 3 + 1) % 3 = 1 from by omega, setT_at xs j t h]; rfl
    · rw [if_neg e, cellsL_at _ _ hm]
      by_cases ej : m / 3 = j
      · rw [ej, setT_at xs j t h]
        have : m % 3 = 0 ∨ m % 3 = 2 := by omega
        rcases this with h0 | h2
        · rw [h0]; rfl
        · rw [h2]; rfl
      · rw [setT_past xs j (m / 3) t ej]
  · rw [List.getElem?_eq_none (by rw [cellsL_len, setT_len]; omega), List.getElem?_eq_none (by rw [List.length_set, cellsL_len]; omega)]
theorem ROwn.storeT {w : World} {lo hi g n cap : Nat} {xs : List V} (o : ROwn w lo hi (.slice (some ⟨g, 0, none⟩) n cap) xs) (hn : n = xs.length) (j : Nat) (t : Int) (h : j < xs.length) :
    ROwn (w.setCell ⟨g, j * 3 + 1, none⟩ (.int .i64 t)) lo hi (.slice (some ⟨g, 0, none⟩) n cap) (setT xs j t) := by
  obtain ⟨h1, h2, h3⟩ := o
  subst hn
  have := (h1.stored (j * 3 + 1) (.int .i64 t)).1
  rw [← cellsL_setT xs j t h, ← setT_len xs j t] at this
  refine ⟨?_, h2, by simpa using h3⟩
  rw [setT_len] at this ⊢
  exact this
theorem ROwn.at' {w : World} {lo hi g n cap : Nat} {xs : List V} (o : ROwn w lo hi (.slice (some ⟨g, 0, none⟩) n cap) xs) (j : Nat) (h : j < xs.length) : At w g (j * 3) (xs.getD j oz) ∧ w.frozen? ⟨g, j * 3 + 1, none⟩ = false := by
  have h0 := o.oown
  rcases h0.2 with ⟨h1, _⟩ | ⟨hp, g', cap', hv, _, _, e1, e2, e3, e4⟩
  · rw [h1] at h; simp at h
  · simp only [Value.slice.injEq, Option.some.injEq, Addr.mk.injEq] at hv
    obtain ⟨⟨rfl, _⟩, _⟩ := hv
    have := e4 j h
    rw [Nat.zero_add] at this
    exact ⟨this, e3 _ (by omega)⟩
theorem ROwn.addr {w : World} {lo hi : Nat} {v : Value} {xs : List V} (o : ROwn w lo hi v xs) (hp : 0 < xs.length) : ∃ g cap, v = .slice (some ⟨g, 0, none⟩) xs.length cap ∧ lo ≤ g ∧ g < hi := by
  rcases o.oown.2 with ⟨h1, _⟩ | ⟨_, g, cap, hv, _, _, e1, e2, _⟩
  · rw [h1] at hp; simp at hp
  · exact ⟨g, cap, hv, e1, e2⟩

/-! ### Stitches, equal neighbours together -/
def lastV (L : List V) : V := L.getD (L.length - 1) oz
def cstep (L : List V) (k : Int) : List V := if 0 < L.length ∧ (lastV L).a0 = k then setT L (L.length - 1) ((lastV L).a1 + 1) else L ++ [⟨k, 1, 0⟩]
def cmpTo (xs : List Int) : Nat → List V
  | 0 => []
  | i + 1 => cstep (cmpTo xs i) (xs.getD i 0)
theorem last_app (L : List V) (y : V) : lastV (L ++ [y]) = y := by simp [lastV, List.getD]
structure CInv (xs : List Int) (i : Nat) (L : List V) : Prop where
  len : L.length ≤ i
  pos : 0 < i → 0 < L.length
  lst : 0 < i → (lastV L).a0 = xs.getD (i - 1) 0
  b : 0 < i → 0 ≤ (lastV L).a1 ∧ (lastV L).a1 ≤ i
theorem cinv (xs : List Int) : ∀ i, CInv xs i (cmpTo xs i)
  | 0 => ⟨Nat.le_refl _, fun h => by omega, fun h => by omega, fun h => by omega⟩
  | i + 1 => by
    have h := cinv xs i
    rw [cmpTo]
    unfold cstep
    by_cases hc : 0 < (cmpTo xs i).length ∧ (lastV (cmpTo xs i)).a0 = xs.getD i 0
    · rw [if_pos hc]
      have hl : lastV (setT (cmpTo xs i) ((cmpTo xs i).length - 1) ((lastV (cmpTo xs i)).a1 + 1)) = ⟨(lastV (cmpTo xs i)).a0, (lastV (cmpTo xs i)).a1 + 1, (lastV (cmpTo xs i)).a2⟩ := by
        rw [lastV, setT_len, setT_at _ _ _ (by omega)]; rfl
      have hi : 0 < i := by have := h.len; omega
      have hb := h.b hi
      refine ⟨by rw [setT_len]; have := h.len; omega, fun _ => by rw [setT_len]; exact hc.1, fun _ => ?_, fun _ => ?_⟩
      · rw [hl]; simp only [Nat.add_sub_cancel]; exact hc.2
      · rw [hl]; simp only; omega
    · rw [if_neg hc]
      refine ⟨by rw [List.length_append]; have := h.len; simp; omega, fun _ => by simp, fun _ => ?_, fun _ => ?_⟩
      · rw [last_app]; simp
      · rw [last_app]; simp only; omega
theorem cstep_yes {L : List V} {k : Int} (h : 0 < L.length) (h2 : (lastV L).a0 = k) : cstep L k = setT L (L.length - 1) ((lastV L).a1 + 1) := by rw [cstep, if_pos ⟨h, h2⟩]
theorem cstep_no {L : List V} {k : Int} (h : ¬ (0 < L.length ∧ (lastV L).a0 = k)) : cstep L k = L ++ [⟨k, 1, 0⟩] := by rw [cstep, if_neg h]
def cW (xs : List Int) : List V := if lst xs then cmpTo xs xs.length else []
theorem cW_len (xs : List Int) : (cW xs).length ≤ 20000 := by
  unfold cW
  split
  · rename_i h
    have h1 := (cinv xs xs.length).len
    have h2 := (lst_parts h).1
    omega
  · simp
theorem beqC (a b : Int) : (a == b) = decide (a = b) := by rw [Bool.eq_iff_iff]; simp
theorem ROwn.up {w w' : World} {lo hi : Nat} {v : Value} {xs : List V} (o : ROwn w lo hi v xs) (b : Below w.heap.size w w') (h : hi ≤ w.heap.size) : ROwn w' lo w'.heap.size v xs := (o.below b).hi (Nat.le_trans h b.size) (Nat.le_refl _)



end Go.Proofs.YtiacfejileeieabDoor.pc
