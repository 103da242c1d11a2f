/-
  The weak order of permutations in plain words: closures of sets of pairs, places in the order that a closed set gives.
-/
namespace Go.Proofs.Ytfechjhngcmdpab.la

/-- Pairs i < k below n alone. -/
def Up (n : Nat) (u : Nat → Nat → Bool) : Prop := ∀ i k, u i k = true → i < k ∧ k < n
/-- The pairs that come of those through things below m. -/
def reach (u : Nat → Nat → Bool) : Nat → Nat → Nat → Bool
  | 0, i, k => u i k
  | m + 1, i, k => reach u m i k || (reach u m i m && u m k)

theorem reach_up {n : Nat} {u : Nat → Nat → Bool} (hu : Up n u) (m i k : Nat) (h : reach u m i k = true) : i < k ∧ k < n := by
  induction m generalizing i k with
  | zero => exact hu i k h
  | succ m ih =>
    simp only [reach, Bool.or_eq_true, Bool.and_eq_true] at h
    rcases h with h | ⟨h1, h2⟩
    · exact ih i k h
    · have a := ih i m h1
      have b := hu m k h2
      omega
theorem reach_mono (u : Nat → Nat → Bool) (m d i k : Nat) (h : reach u m i k = true) : reach u (m + d) i k = true := by
  induction d with
  | zero => exact h
  | succ d ih => show (reach u (m + d) i k || _) = true; rw [ih]; rfl
theorem reach_low {n : Nat} {u : Nat → Nat → Bool} (hu : Up n u) (m j k : Nat) (h : m ≤ j + 1) : reach u m j k = u j k := by
  induction m generalizing k with
  | zero => rfl
  | succ m ih =>
    rw [reach, ih k (by omega)]
    have : reach u m j m = false := by
      cases hr : reach u m j m
      · rfl
      · have := reach_up hu m j m hr; omega
    rw [this]; simp
theorem reach_trans {n : Nat} {u : Nat → Nat → Bool} (hu : Up n u) (m i j k : Nat) (hj : j < m) (h1 : reach u m i j = true) (h2 : reach u m j k = true) : reach u m i k = true := by
  induction m generalizing i j k with
  | zero => omega
  | succ m ih =>
    simp only [reach, Bool.or_eq_true, Bool.and_eq_true] at h1 h2 ⊢
    rcases Nat.lt_or_ge j m with hjm | hjm
    · have h1' : reach u m i j = true := by
        rcases h1 with h | ⟨_, h⟩
        · exact h
        · have := hu m j h; omega
      rcases h2 with h | ⟨ha, hb⟩
      · exact .inl (ih i j k hjm h1' h)
      · exact .inr ⟨ih i j m hjm h1' ha, hb⟩
    · obtain rfl : j = m := by omega
      have h1' : reach u j i j = true := by
        rcases h1 with h | ⟨h, _⟩ <;> exact h
      have h2' : u j k = true := by
        rcases h2 with h | ⟨h, _⟩
        · rw [reach_low hu j j k (by omega)] at h; exact h
        · have := reach_up hu j j j h; omega
      exact .inr ⟨h1', h2'⟩
theorem reach_least {u t : Nat → Nat → Bool} (hut : ∀ i k, u i k = true → t i k = true) (ht : ∀ i j k, t i j = true → t j k = true → t i k = true) (m i k : Nat) (h : reach u m i k = true) : t i k = true := by
  induction m generalizing i k with
  | zero => exact hut i k h
  | succ m ih =>
    simp only [reach, Bool.or_eq_true, Bool.and_eq_true] at h
    rcases h with h | ⟨h1, h2⟩
    · exact ih i k h
    · exact ht i m k (ih i m h1) (hut m k h2)

/-- The closure. -/
def cl (n : Nat) (u : Nat → Nat → Bool) (i k : Nat) : Bool := reach u n i k
theorem cl_up {n : Nat} {u : Nat → Nat → Bool} (hu : Up n u) (i k : Nat) (h : cl n u i k = true) : i < k ∧ k < n := reach_up hu n i k h
theorem cl_of {n : Nat} {u : Nat → Nat → Bool} (i k : Nat) (h : u i k = true) : cl n u i k = true := by
  have := reach_mono u 0 n i k h
  rw [Nat.zero_add] at this
  exact this
theorem cl_trans {n : Nat} {u : Nat → Nat → Bool} (hu : Up n u) (i j k : Nat) (h1 : cl n u i j = true) (h2 : cl n u j k = true) : cl n u i k = true :=
  reach_trans hu n i j k (cl_up hu i j h1).2 h1 h2
/-- More rounds change nothing. -/
theorem reach_more {n : Nat} {u : Nat → Nat → Bool} (hu : Up n u) (d i k : Nat) : reach u (n + d) i k = cl n u i k := by
  rw [Bool.eq_iff_iff]
  exact ⟨fun h => reach_least (fun i k h => cl_of i k h) (fun i j k => cl_trans hu i j k) _ i k h, fun h => reach_mono u n d i k h⟩
/-- The step of the model: the narrower pairs first. -/
theorem cl_step {n : Nat} {u : Nat → Nat → Bool} (hu : Up n u) (i k : Nat) : cl n u i k = true ↔ u i k = true ∨ ∃ j, i < j ∧ j < k ∧ cl n u i j = true ∧ cl n u j k = true := by
  constructor
  · intro h
    have key : ∀ m, m ≤ n → reach u m i k = true → u i k = true ∨ ∃ j, i < j ∧ j < k ∧ cl n u i j = true ∧ cl n u j k = true := by
      intro m
      induction m with
      | zero => exact fun _ h => .inl h
      | succ m ih =>
        intro hm h
        simp only [reach, Bool.or_eq_true, Bool.and_eq_true] at h
        rcases h with h | ⟨h1, h2⟩
        · exact ih (by omega) h
        · refine .inr ⟨m, (reach_up hu m i m h1).1, (hu m k h2).1, ?_, cl_of m k h2⟩
          have := reach_mono u m (n - m) i m h1
          rwa [show m + (n - m) = n by omega] at this
    exact key n (Nat.le_refl _) h
  · rintro (h | ⟨j, _, _, h1, h2⟩)
    · exact cl_of i k h
    · exact cl_trans hu i j k h1 h2

/-- Between both ends of a pair there is no thing that is passed by neither. -/
def Co (u : Nat → Nat → Bool) : Prop := ∀ i j k, i < j → j < k → u i k = true → u i j = true ∨ u j k = true
theorem cl_co {n : Nat} {u : Nat → Nat → Bool} (hu : Up n u) (hc : Co u) : Co (cl n u) := by
  have key : ∀ m i j k, i < j → j < k → reach u m i k = true → cl n u i j = true ∨ cl n u j k = true := by
    intro m
    induction m with
    | zero =>
      intro i j k h1 h2 h
      rcases hc i j k h1 h2 h with h | h
      · exact .inl (cl_of i j h)
      · exact .inr (cl_of j k h)
    | succ m ih =>
      intro i j k h1 h2 h
      simp only [reach, Bool.or_eq_true, Bool.and_eq_true] at h
      rcases h with h | ⟨ha, hb⟩
      · exact ih i j k h1 h2 h
      · have hin : cl n u i m = true := reach_least (fun i k h => cl_of i k h) (fun i j k => cl_trans hu i j k) m i m ha
        rcases Nat.lt_trichotomy j m with hj | rfl | hj
        · rcases ih i j m h1 hj ha with h | h
          · exact .inl h
          · exact .inr (cl_trans hu j m k h (cl_of m k hb))
        · exact .inl hin
        · rcases hc m j k hj h2 hb with h | h
          · exact .inl (cl_trans hu i m j hin (cl_of m j h))
          · exact .inr (cl_of j k h)
  exact fun i j k h1 h2 h => key n i j k h1 h2 h

/-! ### the order of a closed set -/
/-- a comes before b. -/
def bef (c : Nat → Nat → Bool) (a b : Nat) : Bool := if a < b then !c a b else if b < a then c b a else false
theorem bef_irr (c : Nat → Nat → Bool) (a : Nat) : bef c a a = false := by simp [bef]
theorem bef_total (c : Nat → Nat → Bool) (a b : Nat) (h : a ≠ b) : bef c a b = !bef c b a := by
  unfold bef
  rcases Nat.lt_or_ge a b with h1 | h1
  · rw [if_pos h1, if_neg (by omega), if_pos h1]
  · rw [if_neg (by omega), if_pos (by omega), if_pos (by omega)]; simp
theorem bef_trans {c : Nat → Nat → Bool} (ht : ∀ i j k, c i j = true → c j k = true → c i k = true) (hco : Co c) (x y z : Nat) (h1 : bef c x y = true) (h2 : bef c y z = true) : bef c x z = true := by
  have hxy : x ≠ y := by rintro rfl; rw [bef_irr] at h1; cases h1
  have hyz : y ≠ z := by rintro rfl; rw [bef_irr] at h2; cases h2
  have hxz : x ≠ z := by
    rintro rfl
    rw [bef_total c x y hxy, h2] at h1; cases h1
  unfold bef at h1 h2 ⊢
  have n1 : ∀ a b, (!c a b) = true → c a b = false := fun a b h => by simpa using h
  rcases Nat.lt_or_ge x y with a | a <;> rcases Nat.lt_or_ge y z with b | b <;> rcases Nat.lt_or_ge x z with d | d
  · rw [if_pos a] at h1; rw [if_pos b] at h2; rw [if_pos d]
    cases h : c x z
    · rfl
    · rcases hco x y z a b h with h' | h'
      · rw [n1 _ _ h1] at h'; cases h'
      · rw [n1 _ _ h2] at h'; cases h'
  · omega
  · rw [if_pos a] at h1; rw [if_neg (by omega), if_pos (by omega)] at h2; rw [if_pos d]
    cases h : c x z
    · rfl
    · have := ht x z y h h2; rw [n1 _ _ h1] at this; cases this
  · rw [if_pos a] at h1; rw [if_neg (by omega), if_pos (by omega)] at h2; rw [if_neg (by omega), if_pos (by omega)]
    rcases hco z x y (by omega) a h2 with h' | h'
    · exact h'
    · rw [n1 _ _ h1] at h'; cases h'
  · rw [if_neg (by omega), if_pos (by omega)] at h1; rw [if_pos b] at h2; rw [if_pos d]
    cases h : c x z
    · rfl
    · have := ht y x z h1 h; rw [n1 _ _ h2] at this; cases this
  · rw [if_neg (by omega), if_pos (by omega)] at h1; rw [if_pos b] at h2; rw [if_neg (by omega), if_pos (by omega)]
    rcases hco y z x b (by omega) h1 with h' | h'
    · rw [n1 _ _ h2] at h'; cases h'
    · exact h'
  · omega
  · rw [if_neg (by omega), if_pos (by omega)] at h1; rw [if_neg (by omega), if_pos (by omega)] at h2; rw [if_neg (by omega), if_pos (by omega)]
    exact ht z y x h2 h1

/-- How many of the first n things come before t. -/
def pos (c : Nat → Nat → Bool) (n t : Nat) : Nat := (List.range n).countP fun x => bef c x t

/-- In a sorted list every thing has its place. -/
theorem pos_sorted {c : Nat → Nat → Bool} (l : List Nat) (n : Nat) (hp : l.Perm (List.range n)) (hs : l.Pairwise fun a b => bef c b a = false) (i : Nat) (hi : i < l.length) : pos c n l[i] = i := by
  have hnd : l.Nodup := hp.nodup_iff.2 List.nodup_range
  unfold pos
  rw [← hp.countP_eq]
  have e : l = l.take i ++ l[i] :: l.drop (i + 1) := by rw [← List.drop_eq_getElem_cons hi, List.take_append_drop]
  have hs' := hs
  have hnd' := hnd
  rw [e] at hs' hnd'
  rw [List.pairwise_append] at hs'
  rw [List.nodup_append] at hnd'
  obtain ⟨_, s2, s3⟩ := hs'
  obtain ⟨_, n2, n3⟩ := hnd'
  rw [List.pairwise_cons] at s2
  rw [List.nodup_cons] at n2
  generalize l[i] = t at *
  rw [e, List.countP_append, List.countP_cons, bef_irr]
  have h1 : List.countP (fun x => bef c x t) (l.take i) = (l.take i).length := by
    rw [List.countP_eq_length]
    intro a ha
    have := s3 a ha t (by simp)
    have hne : a ≠ t := n3 a ha t (by simp)
    rw [bef_total c a t hne, this]; rfl
  have h2 : List.countP (fun x => bef c x t) (l.drop (i + 1)) = 0 := by
    rw [List.countP_eq_zero]
    intro a ha
    rw [s2.1 a ha]; simp
  rw [h1, h2]; simp; omega
end Go.Proofs.Ytfechjhngcmdpab.la
