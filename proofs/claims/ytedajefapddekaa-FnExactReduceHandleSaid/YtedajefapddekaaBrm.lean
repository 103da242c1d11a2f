/-
  Braid words in plain words.
-/
namespace Go.Proofs.Ytedajefapddekaa.bw

def letB (s x : Int) : Bool := decide (x ≠ 0 ∧ 1 - s ≤ x ∧ x ≤ s - 1)
/-- A valid braid: the number of strands, the word. -/
def okB (s : Int) (xs : List Int) : Bool := decide (0 ≤ s ∧ s ≤ 12) && decide (xs.length ≤ 40) && xs.all (letB s)

theorem ok_parts {s : Int} {xs : List Int} (h : okB s xs = true) : 0 ≤ s ∧ s ≤ 12 ∧ xs.length ≤ 40 ∧ ∀ j, j < xs.length → xs.getD j 0 ≠ 0 ∧ 1 - s ≤ xs.getD j 0 ∧ xs.getD j 0 ≤ s - 1 := by
  simp only [okB, Bool.and_eq_true, decide_eq_true_eq, List.all_eq_true] at h
  refine ⟨h.1.1.1, h.1.1.2, h.1.2, fun j hj => ?_⟩
  have h1 := h.2 (xs.getD j 0) (by rw [show xs.getD j 0 = xs[j] from by simp [List.getD, List.getElem?_eq_getElem hj]]; exact List.getElem_mem hj)
  simpa [letB] using h1
theorem ok_strands {s : Int} {xs : List Int} (h : ¬ (0 ≤ s ∧ s ≤ 12)) : okB s xs = false := by
  simp [okB, h]
theorem ok_long {s : Int} {xs : List Int} (h : 40 < xs.length) : okB s xs = false := by
  have : ¬ xs.length ≤ 40 := by omega
  simp [okB, this]
theorem ok_all {s : Int} {xs : List Int} (h1 : 0 ≤ s ∧ s ≤ 12) (h2 : xs.length ≤ 40) : okB s xs = xs.all (letB s) := by
  simp [okB, h1, h2]
theorem all_bad {s : Int} {xs : List Int} (k : Nat) (h : k < xs.length) (hb : letB s (xs.getD k 0) = false) : xs.all (letB s) = false := by
  rw [List.all_eq_false]
  refine ⟨xs.getD k 0, ?_, by rw [hb]; simp⟩
  rw [show xs.getD k 0 = xs[k] from by simp [List.getD, List.getElem?_eq_getElem h]]
  exact List.getElem_mem h
theorem all_good {s : Int} {xs : List Int} (h : ∀ j, j < xs.length → letB s (xs.getD j 0) = true) : xs.all (letB s) = true := by
  rw [List.all_eq_true]
  intro x hx
  obtain ⟨j, hj, rfl⟩ := List.getElem_of_mem hx
  have := h j hj
  rwa [show xs.getD j 0 = xs[j] from by simp [List.getD, List.getElem?_eq_getElem hj]] at this

theorem take_snoc (xs : List Int) (k : Nat) (h : k < xs.length) : xs.take (k + 1) = xs.take k ++ [xs.getD k 0] := by
  rw [List.take_succ_eq_append_getElem h]; simp [List.getD, List.getElem?_eq_getElem h]

/-! ### reducing -/
def push (st : List Int) (x : Int) : List Int := if st.getLast? = some (-x) then st.dropLast else st ++ [x]
def redL (xs : List Int) : List Int := xs.foldl push []
def redTo (xs : List Int) (k : Nat) : List Int := (xs.take k).foldl push []
theorem redTo_zero (xs : List Int) : redTo xs 0 = [] := rfl
theorem redTo_all (xs : List Int) : redTo xs xs.length = redL xs := by simp [redTo, redL]
theorem redTo_succ (xs : List Int) (k : Nat) (h : k < xs.length) : redTo xs (k + 1) = push (redTo xs k) (xs.getD k 0) := by
  rw [redTo, take_snoc xs k h, List.foldl_append]; rfl
theorem push_len (st : List Int) (x : Int) : (push st x).length ≤ st.length + 1 := by
  unfold push; split <;> simp; omega
theorem redTo_len (xs : List Int) (k : Nat) (h : k ≤ xs.length) : (redTo xs k).length ≤ k := by
  induction k with
  | zero => simp [redTo]
  | succ k ih =>
    rw [redTo_succ xs k (by omega)]
    have := push_len (redTo xs k) (xs.getD k 0)
    have := ih (by omega)
    omega
theorem redL_len (xs : List Int) : (redL xs).length ≤ xs.length := by
  rw [← redTo_all]; exact redTo_len xs _ (Nat.le_refl _)
theorem push_pop (st : List Int) (x : Int) (n : Nat) (hn : st.length = n + 1) (h : st.getD n 0 = -x) : push st x = st.take n := by
  unfold push
  have e : st.getLast? = some (st.getD n 0) := by
    rw [List.getLast?_eq_getElem?, hn]
    simp [List.getD, List.getElem?_eq_getElem (show n < st.length by omega)]
  rw [if_pos (by rw [e, h]), List.dropLast_eq_take, hn]; rfl
theorem push_app (st : List Int) (x : Int) (n : Nat) (hn : st.length = n + 1) (h : ¬ st.getD n 0 = -x) : push st x = st ++ [x] := by
  unfold push
  have e : st.getLast? = some (st.getD n 0) := by
    rw [List.getLast?_eq_getElem?, hn]
    simp [List.getD, List.getElem?_eq_getElem (show n < st.length by omega)]
  rw [if_neg (by rw [e]; simpa using h)]
theorem push_nil (x : Int) : push [] x = [x] := rfl

/-! ### maps over words -/
def mapTo (f : Int → Int) (xs : List Int) (k : Nat) : List Int := (xs.take k).map f
theorem mapTo_len (f : Int → Int) (xs : List Int) (k : Nat) (h : k ≤ xs.length) : (mapTo f xs k).length = k := by simp [mapTo]; omega
theorem mapTo_succ (f : Int → Int) (xs : List Int) (k : Nat) (h : k < xs.length) : mapTo f xs (k + 1) = mapTo f xs k ++ [f (xs.getD k 0)] := by
  rw [mapTo, take_snoc xs k h, List.map_append]; rfl
theorem mapTo_all (f : Int → Int) (xs : List Int) : mapTo f xs xs.length = xs.map f := by simp [mapTo]
def mapP (f : Int → Int) (xs : List Int) (k : Nat) : List Int := mapTo f xs k ++ List.replicate (xs.length - k) 0
theorem mapP_len (f : Int → Int) (xs : List Int) (k : Nat) (h : k ≤ xs.length) : (mapP f xs k).length = xs.length := by simp [mapP, mapTo_len f xs k h]; omega
theorem mapP_zero (f : Int → Int) (xs : List Int) : mapP f xs 0 = List.replicate xs.length 0 := by simp [mapP, mapTo]
theorem mapP_all (f : Int → Int) (xs : List Int) : mapP f xs xs.length = xs.map f := by simp [mapP, mapTo_all]
theorem mapP_set (f : Int → Int) (xs : List Int) (k : Nat) (h : k < xs.length) : (mapP f xs k).set k (f (xs.getD k 0)) = mapP f xs (k + 1) := by
  unfold mapP
  rw [List.set_append_right _ _ (by simp [mapTo_len f xs k (by omega)])]
  have e1 : k - (mapTo f xs k).length = 0 := by simp [mapTo_len f xs k (by omega)]
  have e2 : xs.length - k = (xs.length - (k + 1)) + 1 := by omega
  rw [e1, e2, List.replicate_succ, List.set_cons_zero, mapTo_succ f xs k h, List.append_assoc]
  simp
/-- The model walks from the end: the last k elements, the last one first. -/
def backTo (f : Int → Int) (xs : List Int) (k : Nat) : List Int := ((xs.drop (xs.length - k)).reverse).map f
theorem backTo_zero (f : Int → Int) (xs : List Int) : backTo f xs 0 = [] := by simp [backTo]
theorem backTo_len (f : Int → Int) (xs : List Int) (k : Nat) (h : k ≤ xs.length) : (backTo f xs k).length = k := by simp [backTo]; omega
theorem backTo_all (f : Int → Int) (xs : List Int) : backTo f xs xs.length = xs.reverse.map f := by simp [backTo]
theorem backTo_succ (f : Int → Int) (xs : List Int) (k : Nat) (h : k < xs.length) : backTo f xs (k + 1) = backTo f xs k ++ [f (xs.getD (xs.length - 1 - k) 0)] := by
  unfold backTo
  have e : xs.length - k = (xs.length - (k + 1)) + 1 := by omega
  have hl : xs.length - (k + 1) < xs.length := by omega
  rw [List.drop_eq_getElem_cons hl, ← e, List.reverse_cons, List.map_append]
  simp only [List.map_cons, List.map_nil]
  congr 2
  have e2 : xs.length - 1 - k = xs.length - (k + 1) := by omega
  rw [e2]; simp [List.getD, List.getElem?_eq_getElem hl]

/-! ### signs -/
def sg (x : Int) : Int := if x < 0 then -1 else 1
def ab (x : Int) : Int := if x < 0 then -x else x
def expL (xs : List Int) : Int := (xs.map sg).foldl (· + ·) 0
def expTo (xs : List Int) (k : Nat) : Int := ((xs.take k).map sg).foldl (· + ·) 0
theorem expTo_zero (xs : List Int) : expTo xs 0 = 0 := rfl
theorem expTo_all (xs : List Int) : expTo xs xs.length = expL xs := by simp [expTo, expL]
theorem expTo_succ (xs : List Int) (k : Nat) (h : k < xs.length) : expTo xs (k + 1) = expTo xs k + sg (xs.getD k 0) := by
  rw [expTo, take_snoc xs k h, List.map_append, List.foldl_append]; rfl
theorem sg_le (x : Int) : -1 ≤ sg x ∧ sg x ≤ 1 := by unfold sg; split <;> omega
theorem expTo_le (xs : List Int) (k : Nat) (h : k ≤ xs.length) : -(k : Int) ≤ expTo xs k ∧ expTo xs k ≤ k := by
  induction k with
  | zero => simp [expTo]
  | succ k ih =>
    rw [expTo_succ xs k (by omega)]
    have := ih (by omega)
    have := sg_le (xs.getD k 0)
    omega
def sumL (xs : List Int) : Int := xs.foldl (· + ·) 0
def sumTo (xs : List Int) (k : Nat) : Int := (xs.take k).foldl (· + ·) 0
theorem sumTo_zero (xs : List Int) : sumTo xs 0 = 0 := rfl
theorem sumTo_all (xs : List Int) : sumTo xs xs.length = sumL xs := by simp [sumTo, sumL]
theorem sumTo_succ (xs : List Int) (k : Nat) (h : k < xs.length) : sumTo xs (k + 1) = sumTo xs k + xs.getD k 0 := by
  rw [sumTo, take_snoc xs k h, List.foldl_append]; rfl
theorem sumTo_le (xs : List Int) (c : Nat) (hc : ∀ j, j < xs.length → -(c : Int) ≤ xs.getD j 0 ∧ xs.getD j 0 ≤ c) (k : Nat) (h : k ≤ xs.length) : -((k * c : Nat) : Int) ≤ sumTo xs k ∧ sumTo xs k ≤ ((k * c : Nat) : Int) := by
  induction k with
  | zero => simp [sumTo]
  | succ k ih =>
    rw [sumTo_succ xs k (by omega)]
    have := ih (by omega)
    have := hc k (by omega)
    rw [Nat.succ_mul]
    omega
def mirF (s x : Int) : Int := sg x * (s - ab x)
def widF (l x : Int) : Int := x + sg x * l
theorem sg_ab (x : Int) : sg x * ab x = x := by unfold sg ab; split <;> omega
end Go.Proofs.Ytedajefapddekaa.bw
