/-
  The weak order in plain words, second part: counting the pairs one after the other; lists of places.
-/
import Derived.Test.YtfechjhngcmdpabLat
namespace Go.Proofs.Ytfechjhngcmdpab.la

theorem count_same (n : Nat) (P Q : Nat → Bool) (h : ∀ x, x < n → P x = Q x) : (List.range n).countP P = (List.range n).countP Q := by
  apply List.countP_congr
  intro x hx
  rw [h x (by simpa using hx)]
theorem count_more (n x0 : Nat) (P Q : Nat → Bool) (hx : x0 < n) (h0 : P x0 = false) (h1 : Q x0 = true) (h : ∀ x, x < n → x ≠ x0 → P x = Q x) : (List.range n).countP Q = (List.range n).countP P + 1 := by
  induction n with
  | zero => omega
  | succ n ih =>
    rw [List.range_succ, List.countP_append, List.countP_append, List.countP_singleton, List.countP_singleton]
    rcases Nat.lt_or_ge x0 n with hl | hl
    · rw [ih hl (fun x hx hne => h x (by omega) hne), h n (by omega) (by omega)]; omega
    · obtain rfl : x0 = n := by omega
      rw [count_same x0 P Q (fun x hx => h x (by omega) (by omega)), h0, h1]; simp

/-- The pair of x and t has been looked at: rows below i, and of row i the places below j. -/
def done (i j x t : Nat) : Bool := decide (min x t < i ∨ (min x t = i ∧ max x t < j))
/-- What is counted for t so far. -/
def sofar (c : Nat → Nat → Bool) (n i j t : Nat) : Nat := (List.range n).countP fun x => done i j x t && bef c x t

theorem sofar_start (c : Nat → Nat → Bool) (n t : Nat) : sofar c n 0 0 t = 0 := by
  unfold sofar
  rw [List.countP_eq_zero]
  intro x _
  have : done 0 0 x t = false := by simp [done]
  rw [this]; simp
theorem sofar_skip (c : Nat → Nat → Bool) (n i t : Nat) : sofar c n i (i + 1) t = sofar c n i 0 t := by
  apply count_same
  intro x hx
  by_cases h : x = t
  · subst h; rw [bef_irr]; simp
  · have : done i (i + 1) x t = done i 0 x t := by
      unfold done
      congr 1
      apply propext
      constructor <;> intro h' <;> omega
    rw [this]
theorem sofar_next (c : Nat → Nat → Bool) (n i t : Nat) (ht : t < n) : sofar c n i n t = sofar c n (i + 1) 0 t := by
  apply count_same
  intro x hx
  have : done i n x t = done (i + 1) 0 x t := by
    unfold done
    congr 1
    apply propext
    constructor <;> intro h' <;> omega
  rw [this]
theorem sofar_all (c : Nat → Nat → Bool) (n t : Nat) (ht : t < n) : sofar c n n 0 t = pos c n t := by
  apply count_same
  intro x hx
  have : done n 0 x t = true := by simp [done]; omega
  rw [this]; simp
theorem sofar_yes (c : Nat → Nat → Bool) (n i j t : Nat) (hij : i < j) (hj : j < n) (hc : c i j = true) : sofar c n i (j + 1) t = if t = i then sofar c n i j i + 1 else sofar c n i j t := by
  have hb : bef c j i = true := by unfold bef; rw [if_neg (by omega), if_pos hij]; exact hc
  have hb' : bef c i j = false := by rw [bef_total c i j (by omega), hb]; rfl
  by_cases h : t = i
  · subst h; rw [if_pos rfl]
    refine count_more n j _ _ hj ?_ ?_ ?_
    · have : done t j j t = false := by simp [done]; omega
      rw [this]; rfl
    · have : done t (j + 1) j t = true := by simp [done]; omega
      rw [this, hb]; rfl
    · intro x hx hne
      have : done t j x t = done t (j + 1) x t := by
        unfold done
        congr 1
        apply propext
        constructor <;> intro h' <;> omega
      rw [this]
  · rw [if_neg h]
    apply count_same
    intro x hx
    by_cases hx2 : x = i ∧ t = j
    · obtain ⟨rfl, rfl⟩ := hx2
      rw [hb']; simp
    · have : done i (j + 1) x t = done i j x t := by
        unfold done
        congr 1
        apply propext
        constructor <;> intro h' <;> omega
      rw [this]
theorem sofar_no (c : Nat → Nat → Bool) (n i j t : Nat) (hij : i < j) (hj : j < n) (hc : c i j = false) : sofar c n i (j + 1) t = if t = j then sofar c n i j j + 1 else sofar c n i j t := by
  have hb' : bef c j i = false := by unfold bef; rw [if_neg (by omega), if_pos hij]; exact hc
  have hb : bef c i j = true := by rw [bef_total c i j (by omega), hb']; rfl
  by_cases h : t = j
  · subst h; rw [if_pos rfl]
    refine count_more n i _ _ (by omega) ?_ ?_ ?_
    · have : done i t i t = false := by simp [done]; omega
      rw [this]; rfl
    · have : done i (t + 1) i t = true := by simp [done]; omega
      rw [this, hb]; rfl
    · intro x hx hne
      have : done i t x t = done i (t + 1) x t := by
        unfold done
        congr 1
        apply propext
        constructor <;> intro h' <;> omega
      rw [this]
  · rw [if_neg h]
    apply count_same
    intro x hx
    by_cases hx2 : x = j ∧ t = i
    · obtain ⟨rfl, rfl⟩ := hx2
      rw [hb']; simp
    · have : done i (j + 1) x t = done i j x t := by
        unfold done
        congr 1
        apply propext
        constructor <;> intro h' <;> omega
      rw [this]
theorem sofar_le (c : Nat → Nat → Bool) (n i j t : Nat) : sofar c n i j t ≤ n := by
  have := List.countP_le_length (p := fun x => done i j x t && bef c x t) (l := List.range n)
  unfold sofar
  simpa using this

/-! ### inversions of a list of places -/
def iv (p : List Int) (i k : Nat) : Bool := decide (i < k ∧ k < p.length ∧ p.getD k 0 < p.getD i 0)
theorem iv_up (p : List Int) : Up p.length (iv p) := by
  intro i k h
  simp only [iv, decide_eq_true_eq] at h
  omega
theorem iv_co (p : List Int) : Co (iv p) := by
  intro i j k h1 h2 h
  simp only [iv, decide_eq_true_eq] at h ⊢
  omega
theorem iv_trans (p : List Int) (i j k : Nat) (h1 : iv p i j = true) (h2 : iv p j k = true) : iv p i k = true := by
  simp only [iv, decide_eq_true_eq] at h1 h2 ⊢
  omega
def un (p q : List Int) (i k : Nat) : Bool := iv p i k || iv q i k
theorem un_up (p q : List Int) (h : p.length = q.length) : Up p.length (un p q) := by
  intro i k hk
  simp only [un, Bool.or_eq_true] at hk
  rcases hk with hk | hk
  · exact iv_up p i k hk
  · have := iv_up q i k hk; omega
theorem un_co (p q : List Int) : Co (un p q) := by
  intro i j k h1 h2 h
  simp only [un, Bool.or_eq_true] at h ⊢
  rcases h with h | h
  · rcases iv_co p i j k h1 h2 h with a | a
    · exact .inl (.inl a)
    · exact .inr (.inl a)
  · rcases iv_co q i j k h1 h2 h with a | a
    · exact .inl (.inr a)
    · exact .inr (.inr a)

/-- The places in the order of a closed set. -/
def posL (c : Nat → Nat → Bool) (n : Nat) : List Int := (List.range n).map fun t => ((pos c n t : Nat) : Int)
theorem posL_len (c : Nat → Nat → Bool) (n : Nat) : (posL c n).length = n := by simp [posL]
theorem posL_at (c : Nat → Nat → Bool) (n t : Nat) (h : t < n) : (posL c n).getD t 0 = ((pos c n t : Nat) : Int) := by
  simp [posL, List.getD, h]
def joinL (p q : List Int) : List Int := posL (cl p.length (un p q)) p.length
theorem joinL_len (p q : List Int) : (joinL p q).length = p.length := posL_len _ _
def revL (p : List Int) : List Int := p.map fun x => (p.length : Int) - 1 - x
theorem revL_len (p : List Int) : (revL p).length = p.length := by simp [revL]
def meetL (p q : List Int) : List Int := revL (joinL (revL p) (revL q))
theorem meetL_len (p q : List Int) : (meetL p q).length = p.length := by rw [meetL, revL_len, joinL_len, revL_len]

/-- The place of a thing is smaller than that of another one exactly if it comes before it. -/
theorem pos_lt {c : Nat → Nat → Bool} (ht : ∀ i j k, c i j = true → c j k = true → c i k = true) (hco : Co c) (n a b : Nat) (ha : a < n) (_hb : b < n) (h : bef c a b = true) : pos c n a < pos c n b := by
  have hne : a ≠ b := by rintro rfl; rw [bef_irr] at h; cases h
  have h1 : (List.range n).countP (fun x => bef c x a || decide (x = a)) = pos c n a + 1 := by
    refine count_more n a _ _ ha (by rw [bef_irr]) (by simp) ?_
    intro x _ hx
    simp [hx]
  have h2 : (List.range n).countP (fun x => bef c x a || decide (x = a)) ≤ pos c n b := by
    apply List.countP_mono_left
    intro x _ hx
    simp only [Bool.or_eq_true, decide_eq_true_eq] at hx
    rcases hx with hx | rfl
    · exact bef_trans ht hco x a b hx h
    · exact h
  omega
theorem pos_bound {c : Nat → Nat → Bool} (n t : Nat) (ht : t < n) : pos c n t < n := by
  have h1 : (List.range n).countP (fun x => bef c x t || decide (x = t)) = pos c n t + 1 := by
    refine count_more n t _ _ ht (by rw [bef_irr]) (by simp) ?_
    intro x _ hx
    simp [hx]
  have h2 := List.countP_le_length (p := fun x => bef c x t || decide (x = t)) (l := List.range n)
  simp only [List.length_range] at h2
  omega
/-- The inversions of the places of a closed set are this set. -/
theorem iv_pos {n : Nat} {c : Nat → Nat → Bool} (hu : Up n c) (ht : ∀ i j k, c i j = true → c j k = true → c i k = true) (hco : Co c) (i k : Nat) : iv (posL c n) i k = c i k := by
  by_cases h : i < k ∧ k < n
  · have e1 := posL_at c n i (by omega)
    have e2 := posL_at c n k (by omega)
    unfold iv
    rw [posL_len, e1, e2]
    cases hc : c i k
    · have hb : bef c i k = true := by unfold bef; rw [if_pos h.1, hc]; rfl
      have := pos_lt ht hco n i k (by omega) h.2 hb
      simp only [decide_eq_false_iff_not]; omega
    · have hb : bef c k i = true := by unfold bef; rw [if_neg (by omega), if_pos h.1]; exact hc
      have := pos_lt ht hco n k i h.2 (by omega) hb
      simp only [decide_eq_true_eq]; omega
  · cases hc : c i k
    · unfold iv; rw [posL_len]; simp only [decide_eq_false_iff_not]; omega
    · exact absurd (hu i k hc) h
end Go.Proofs.Ytfechjhngcmdpab.la
