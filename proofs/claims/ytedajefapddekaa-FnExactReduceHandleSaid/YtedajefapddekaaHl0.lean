/-
  Handles of words: the handle that ends first, reducing it, and what is left when there is none.
-/
import Derived.Test.YtedajefapddekaaBrm
namespace Go.Proofs.Ytedajefapddekaa.hl
open Go.Proofs.Ytedajefapddekaa.bw
set_option linter.unusedVariables false

/-- A letter that ends the search back from a letter of generator j. -/
def stp (j x : Int) : Bool := decide (ab x = j) || decide (ab x = j - 1)
/-- The letter below k that ends the search back. -/
def back (xs : List Int) (j : Int) : Nat → Option Nat
  | 0 => none
  | k + 1 => if stp j (xs.getD k 0) = true then some k else back xs j k
/-- Where the handle begins that ends at q. -/
def hEnd (xs : List Int) (q : Nat) : Option Nat :=
  match back xs (ab (xs.getD q 0)) q with
  | none => none
  | some p => if xs.getD p 0 = -(xs.getD q 0) then some p else none
def fstFrom (xs : List Int) (k : Nat) : Nat → Option (Nat × Nat)
  | 0 => none
  | m + 1 => match hEnd xs k with
    | some p => some (p, k)
    | none => fstFrom xs (k + 1) m
/-- The handle that ends first. -/
def fst (xs : List Int) : Option (Nat × Nat) := fstFrom xs 0 xs.length

theorem back_at (xs : List Int) (j : Int) (k : Nat) (hs : stp j (xs.getD k 0) = true) (q : Nat) (hk : k < q) (h : ∀ i, k < i → i < q → stp j (xs.getD i 0) = false) : back xs j q = some k := by
  induction q with
  | zero => omega
  | succ q ih =>
    rw [back]
    by_cases e : k = q
    · subst e; rw [if_pos hs]
    · rw [if_neg (by rw [h q (by omega) (by omega)]; simp)]
      exact ih (by omega) (fun i h1 h2 => h i h1 (by omega))
theorem back_none (xs : List Int) (j : Int) (q : Nat) (h : ∀ i, i < q → stp j (xs.getD i 0) = false) : back xs j q = none := by
  induction q with
  | zero => rfl
  | succ q ih =>
    rw [back, if_neg (by rw [h q (by omega)]; simp)]
    exact ih (fun i h1 => h i (by omega))
theorem back_some (xs : List Int) (j : Int) (q k : Nat) (h : back xs j q = some k) : k < q ∧ stp j (xs.getD k 0) = true ∧ ∀ i, k < i → i < q → stp j (xs.getD i 0) = false := by
  induction q with
  | zero => exact absurd h (by simp [back])
  | succ q ih =>
    rw [back] at h
    by_cases hs : stp j (xs.getD q 0) = true
    · rw [if_pos hs] at h
      obtain rfl : q = k := by simpa using h
      exact ⟨by omega, hs, fun i h1 h2 => by omega⟩
    · rw [if_neg hs] at h
      obtain ⟨h1, h2, h3⟩ := ih h
      refine ⟨by omega, h2, fun i a b => ?_⟩
      by_cases e : i = q
      · subst e; simpa using hs
      · exact h3 i a (by omega)
theorem back_congr (xs ys : List Int) (j : Int) (q : Nat) (h : ∀ i, i < q → xs.getD i 0 = ys.getD i 0) : back xs j q = back ys j q := by
  induction q with
  | zero => rfl
  | succ q ih => rw [back, back, h q (by omega), ih (fun i hi => h i (by omega))]
theorem end_congr (xs ys : List Int) (q : Nat) (h : ∀ i, i ≤ q → xs.getD i 0 = ys.getD i 0) : hEnd xs q = hEnd ys q := by
  unfold hEnd
  rw [h q (by omega), back_congr xs ys _ q (fun i hi => h i (by omega))]
  cases hb : back ys (ab (ys.getD q 0)) q with
  | none => rfl
  | some p =>
    have := (back_some _ _ _ _ hb).1
    simp only [h p (by omega)]

/-- The search back ends at a letter that is not the opposite one. -/
theorem end_other (xs : List Int) (q k : Nat) (hk : k < q) (hs : stp (ab (xs.getD q 0)) (xs.getD k 0) = true) (h : ∀ i, k < i → i < q → stp (ab (xs.getD q 0)) (xs.getD i 0) = false) (ho : ¬ xs.getD k 0 = -(xs.getD q 0)) : hEnd xs q = none := by
  unfold hEnd; rw [back_at xs _ k hs q hk h]; exact if_neg ho
theorem end_yes (xs : List Int) (q k : Nat) (hk : k < q) (hs : stp (ab (xs.getD q 0)) (xs.getD k 0) = true) (h : ∀ i, k < i → i < q → stp (ab (xs.getD q 0)) (xs.getD i 0) = false) (ho : xs.getD k 0 = -(xs.getD q 0)) : hEnd xs q = some k := by
  unfold hEnd; rw [back_at xs _ k hs q hk h]; exact if_pos ho
theorem end_free (xs : List Int) (q : Nat) (h : ∀ i, i < q → stp (ab (xs.getD q 0)) (xs.getD i 0) = false) : hEnd xs q = none := by
  unfold hEnd; rw [back_none xs _ q h]
theorem end_some (xs : List Int) (q p : Nat) (h : hEnd xs q = some p) : p < q ∧ xs.getD p 0 = -(xs.getD q 0) ∧ ∀ i, p < i → i < q → stp (ab (xs.getD q 0)) (xs.getD i 0) = false := by
  unfold hEnd at h
  cases hb : back xs (ab (xs.getD q 0)) q with
  | none => rw [hb] at h; exact absurd h (by simp)
  | some k =>
    rw [hb] at h
    obtain ⟨h1, h2, h3⟩ := back_some _ _ _ _ hb
    by_cases ho : xs.getD k 0 = -(xs.getD q 0)
    · simp only [if_pos ho] at h
      obtain rfl : k = p := by simpa using h
      exact ⟨h1, ho, h3⟩
    · exact absurd h (by simp only [if_neg ho]; simp)

theorem from_none (xs : List Int) (m : Nat) : ∀ k, (∀ q, k ≤ q → q < k + m → hEnd xs q = none) → fstFrom xs k m = none := by
  induction m with
  | zero => intro k _; rfl
  | succ m ih =>
    intro k h
    rw [fstFrom, h k (by omega) (by omega)]
    exact ih (k + 1) (fun q h1 h2 => h q (by omega) (by omega))
theorem from_some (xs : List Int) (p q : Nat) (hq : hEnd xs q = some p) (m : Nat) : ∀ k, k ≤ q → q < k + m → (∀ i, k ≤ i → i < q → hEnd xs i = none) → fstFrom xs k m = some (p, q) := by
  induction m with
  | zero => intro k h1 h2 _; omega
  | succ m ih =>
    intro k h1 h2 h
    rw [fstFrom]
    by_cases e : k = q
    · subst e; rw [hq]
    · rw [h k (by omega) (by omega)]
      exact ih (k + 1) (by omega) (by omega) (fun i a b => h i (by omega) b)
theorem fst_none (xs : List Int) (h : ∀ q, q < xs.length → hEnd xs q = none) : fst xs = none := from_none xs _ 0 (fun q _ h2 => h q (by omega))
theorem fst_some (xs : List Int) (p q : Nat) (hl : q < xs.length) (hq : hEnd xs q = some p) (h : ∀ i, i < q → hEnd xs i = none) : fst xs = some (p, q) := from_some xs p q hq _ 0 (by omega) (by omega) (fun i _ b => h i b)
theorem fst_cases (xs : List Int) : (fst xs = none ∧ ∀ q, q < xs.length → hEnd xs q = none) ∨ ∃ p q, fst xs = some (p, q) ∧ q < xs.length ∧ hEnd xs q = some p ∧ ∀ i, i < q → hEnd xs i = none := by
  by_cases h : ∀ q, q < xs.length → hEnd xs q = none
  · exact .inl ⟨fst_none xs h, h⟩
  · right
    have h' : ∃ q, q < xs.length ∧ hEnd xs q ≠ none := by
      refine Classical.byContradiction fun hc => h fun q hq => Classical.byContradiction fun hn => hc ⟨q, hq, hn⟩
    obtain ⟨q, hq, hmin⟩ : ∃ q, (q < xs.length ∧ hEnd xs q ≠ none) ∧ ∀ i, i < q → ¬ (i < xs.length ∧ hEnd xs i ≠ none) := by
      obtain ⟨q0, h0⟩ := h'
      induction q0 using Nat.strongRecOn with
      | _ q0 ih =>
        by_cases hx : ∃ i, i < q0 ∧ (i < xs.length ∧ hEnd xs i ≠ none)
        · obtain ⟨i, hi, hp⟩ := hx; exact ih i hi hp
        · exact ⟨q0, h0, fun i hi hp => hx ⟨i, hi, hp⟩⟩
    cases he : hEnd xs q with
    | none => exact absurd he hq.2
    | some p =>
      have hn : ∀ i, i < q → hEnd xs i = none := fun i hi => Classical.byContradiction fun hn => hmin i hi ⟨by omega, hn⟩
      exact ⟨p, q, fst_some xs p q hq.1 he hn, hq.1, he, hn⟩
theorem fst_ok {xs : List Int} {p q : Nat} (h : fst xs = some (p, q)) : p < q ∧ q < xs.length ∧ hEnd xs q = some p ∧ (∀ i, i < q → hEnd xs i = none) ∧ xs.getD p 0 = -(xs.getD q 0) := by
  rcases fst_cases xs with ⟨h0, _⟩ | ⟨p', q', h1, h2, h3, h4⟩
  · rw [h0] at h; exact absurd h (by simp)
  · rw [h1] at h
    obtain ⟨rfl, rfl⟩ : p' = p ∧ q' = q := by simpa using h
    obtain ⟨a, b, _⟩ := end_some xs q' p' h3
    exact ⟨a, h2, h3, h4, b⟩

/-- A letter of a handle behind reducing. -/
def wide (j e x : Int) : List Int := if ab x = j + 1 then [-e * (j + 1), sg x * j, e * (j + 1)] else [x]
/-- The reduced word up to the letter i of the handle that begins at p. -/
def hrTo (xs : List Int) (p i : Nat) : List Int := xs.take p ++ ((xs.drop (p + 1)).take (i - (p + 1))).flatMap (wide (ab (xs.getD p 0)) (sg (xs.getD p 0)))
def hred (xs : List Int) (p q : Nat) : List Int := hrTo xs p q ++ xs.drop (q + 1)
theorem hrTo_zero (xs : List Int) (p : Nat) : hrTo xs p (p + 1) = xs.take p := by simp [hrTo]
theorem hrTo_succ (xs : List Int) (p i : Nat) (hp : p < i) (hi : i < xs.length) : hrTo xs p (i + 1) = hrTo xs p i ++ wide (ab (xs.getD p 0)) (sg (xs.getD p 0)) (xs.getD i 0) := by
  have e : i + 1 - (p + 1) = (i - (p + 1)) + 1 := by omega
  have hl : i - (p + 1) < (xs.drop (p + 1)).length := by simp; omega
  have e2 : (xs.drop (p + 1))[i - (p + 1)] = xs.getD i 0 := by
    rw [List.getElem_drop, List.getD, List.getElem?_eq_getElem hi]
    simp [show p + 1 + (i - (p + 1)) = i from by omega]
  unfold hrTo
  rw [e, List.take_succ_eq_append_getElem hl, List.flatMap_append, e2, List.append_assoc]
  simp
theorem wide_len (j e x : Int) : (wide j e x).length ≤ 3 ∧ 1 ≤ (wide j e x).length := by unfold wide; split <;> simp
theorem flat_len (f : Int → List Int) (hf : ∀ x, (f x).length ≤ 3) (l : List Int) : (l.flatMap f).length ≤ 3 * l.length := by
  induction l with
  | nil => simp
  | cons x l ih => rw [List.flatMap_cons, List.length_append, List.length_cons]; have := hf x; omega
theorem hrTo_len (xs : List Int) (p i : Nat) (hp : p < i) (hi : i ≤ xs.length) : (hrTo xs p i).length ≤ 3 * i := by
  unfold hrTo
  rw [List.length_append]
  have h1 := flat_len (wide (ab (xs.getD p 0)) (sg (xs.getD p 0))) (fun x => (wide_len _ _ x).1) ((xs.drop (p + 1)).take (i - (p + 1)))
  have h2 : ((xs.drop (p + 1)).take (i - (p + 1))).length ≤ i - (p + 1) := List.length_take_le _ _
  have h3 : (xs.take p).length ≤ p := List.length_take_le _ _
  omega
theorem hred_len (xs : List Int) (p q : Nat) (hp : p < q) (hq : q < xs.length) : (hred xs p q).length ≤ 3 * xs.length := by
  unfold hred
  rw [List.length_append]
  have := hrTo_len xs p q hp (by omega)
  have : (xs.drop (q + 1)).length = xs.length - (q + 1) := List.length_drop
  omega
theorem hred_front (xs : List Int) (p q i : Nat) (hp : p < xs.length) (hi : i < p) : (hred xs p q).getD i 0 = xs.getD i 0 := by
  unfold hred hrTo
  rw [List.append_assoc, List.getD, List.getElem?_append_left (by simp; omega), List.getElem?_take_of_lt hi, List.getD]
/-- No handle ends ahead of where the handle began. -/
theorem hred_none (xs : List Int) (p q : Nat) (h : fst xs = some (p, q)) : ∀ i, i < p → hEnd (hred xs p q) i = none := by
  obtain ⟨h1, h2, _, h4, _⟩ := fst_ok h
  intro i hi
  rw [end_congr (hred xs p q) xs i (fun k hk => hred_front xs p q k (by omega) (by omega))]
  exact h4 i (by omega)

/-- All letters are letters of generators 1 to m. -/
def Let (m : Int) (xs : List Int) : Prop := ∀ x, x ∈ xs → 1 ≤ ab x ∧ ab x ≤ m
theorem Let.at {m : Int} {xs : List Int} (h : Let m xs) (k : Nat) (hk : k < xs.length) : 1 ≤ ab (xs.getD k 0) ∧ ab (xs.getD k 0) ≤ m := by
  refine h _ ?_
  rw [show xs.getD k 0 = xs[k] from by simp [List.getD, List.getElem?_eq_getElem hk]]
  exact List.getElem_mem hk
theorem Let.ofOk {s : Int} {xs : List Int} (h : okB s xs = true) : Let 11 xs := by
  intro x hx
  obtain ⟨k, hk, rfl⟩ := List.getElem_of_mem hx
  have h1 := ok_parts h
  have h2 := h1.2.2.2 k hk
  rw [show xs.getD k 0 = xs[k] from by simp [List.getD, List.getElem?_eq_getElem hk]] at h2
  unfold ab
  split <;> omega
theorem ab_val (x : Int) : ab x = x ∨ ab x = -x := by unfold ab; split <;> simp
theorem ab_neg (x : Int) : ab (-x) = ab x := by unfold ab; split <;> split <;> omega
theorem ab_bound (x m : Int) (h : 1 ≤ ab x ∧ ab x ≤ m) : -m ≤ x ∧ x ≤ m ∧ ¬ x = 0 := by unfold ab at h; split at h <;> omega
theorem sg_two (x : Int) : sg x = 1 ∨ sg x = -1 := by unfold sg; split <;> simp
theorem ab_mul (e j : Int) (he : e = 1 ∨ e = -1) (hj : 0 ≤ j) : ab (e * j) = j := by
  rcases he with rfl | rfl <;> unfold ab <;> split <;> omega
theorem Let.wide {m j e x : Int} (hj : 1 ≤ j) (he : e = 1 ∨ e = -1) (hx : 1 ≤ ab x ∧ ab x ≤ m) : Let m (wide j e x) := by
  unfold hl.wide
  by_cases h : ab x = j + 1
  · rw [if_pos h]
    intro y hy
    have he' : -e = 1 ∨ -e = -1 := by omega
    rcases List.mem_cons.1 hy with rfl | hy
    · rw [ab_mul _ _ he' (by omega)]; omega
    rcases List.mem_cons.1 hy with rfl | hy
    · rw [ab_mul _ _ (sg_two x) (by omega)]; omega
    rcases List.mem_cons.1 hy with rfl | hy
    · rw [ab_mul _ _ he (by omega)]; omega
    · simp at hy
  · rw [if_neg h]
    intro y hy
    obtain rfl : y = x := by simpa using hy
    exact hx
theorem Let.hred {m : Int} {xs : List Int} (h : Let m xs) (p q : Nat) (hp : p < xs.length) : Let m (hred xs p q) := by
  intro x hx
  unfold hl.hred hrTo at hx
  rcases List.mem_append.1 hx with hx | hx
  · rcases List.mem_append.1 hx with hx | hx
    · exact h x (List.mem_of_mem_take hx)
    · obtain ⟨y, hy, hxy⟩ := List.mem_flatMap.1 hx
      exact Let.wide (h.at p hp).1 (sg_two _) (h y (List.mem_of_mem_drop (List.mem_of_mem_take hy))) x hxy
  · exact h x (List.mem_of_mem_drop hx)

/-- Reducing handles f times at most: the word, the number of steps; none: there is one more, or the word is too long. -/
def form : Nat → List Int → Int → Option (List Int × Int)
  | 0, y, s => match fst y with
    | none => some (y, s)
    | some _ => none
  | f + 1, y, s => match fst y with
    | none => some (y, s)
    | some pq => if 4000 < (hred y pq.1 pq.2).length then none else form f (hred y pq.1 pq.2) (s + 1)
theorem form_end (f : Nat) (y : List Int) (s : Int) (h : fst y = none) : form f y s = some (y, s) := by
  cases f <;> simp [form, h]
theorem form_zero (y : List Int) (s : Int) (p q : Nat) (h : fst y = some (p, q)) : form 0 y s = none := by simp [form, h]
theorem form_long (f : Nat) (y : List Int) (s : Int) (p q : Nat) (h : fst y = some (p, q)) (hl : 4000 < (hred y p q).length) : form f y s = none := by
  cases f with
  | zero => exact form_zero y s p q h
  | succ f => simp [form, h, hl]
theorem form_step (f : Nat) (y : List Int) (s : Int) (p q : Nat) (h : fst y = some (p, q)) (hl : ¬ 4000 < (hred y p q).length) : form (f + 1) y s = form f (hred y p q) (s + 1) := by
  simp [form, h, hl]
end Go.Proofs.Ytedajefapddekaa.hl
