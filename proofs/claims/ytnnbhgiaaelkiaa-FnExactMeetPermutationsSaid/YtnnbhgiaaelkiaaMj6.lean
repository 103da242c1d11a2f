/-
  The model's closure in plain words: matrices of bools in a row, and how its loops fill them.
-/
import Derived.Test.YtnnbhgiaaelkiaaMj5
namespace Go.Proofs.Ytnnbhgiaaelkiaa.mj
open Go.RowKit Go.Proofs.Ytnnbhgiaaelkiaa.sl Go.Proofs.Ytnnbhgiaaelkiaa.pm Go.Proofs.Ytnnbhgiaaelkiaa.bt Go.Proofs.Ytnnbhgiaaelkiaa.la Go.Proofs.Ytnnbhgiaaelkiaa.fn

def flat (n : Nat) (u : Nat → Nat → Bool) (m : Nat) : Bool := u (m / n) (m % n)
theorem div_at (n i j : Nat) (hj : j < n) : (i * n + j) / n = i := by
  rw [Nat.mul_comm, Nat.mul_add_div (by omega), Nat.div_eq_of_lt hj]; omega
theorem mod_at (n i j : Nat) (hj : j < n) : (i * n + j) % n = j := by
  rw [Nat.mul_comm, Nat.mul_add_mod, Nat.mod_eq_of_lt hj]
theorem flat_at (n : Nat) (u : Nat → Nat → Bool) (i j : Nat) (hj : j < n) : flat n u (i * n + j) = u i j := by
  rw [flat, div_at n i j hj, mod_at n i j hj]
theorem flat_set (n : Nat) (u u' : Nat → Nat → Bool) (i j : Nat) (x : Bool) (hj : j < n) (h : ∀ r s, s < n → u' r s = if r = i ∧ s = j then x else u r s) (m : Nat) : flat n u' m = if m = i * n + j then x else flat n u m := by
  unfold flat
  rw [h _ _ (Nat.mod_lt _ (by omega))]
  by_cases e : m = i * n + j
  · subst e
    rw [if_pos rfl, if_pos ⟨div_at n i j hj, mod_at n i j hj⟩]
  · rw [if_neg e, if_neg]
    rintro ⟨h1, h2⟩
    apply e
    have := Nat.div_add_mod m n
    rw [h1, h2, Nat.mul_comm] at this
    exact this.symm
theorem flat_same (n : Nat) (u v : Nat → Nat → Bool) (hn : 0 < n) (h : ∀ r s, s < n → u r s = v r s) : flat n u = flat n v := by
  funext m
  exact h _ _ (Nat.mod_lt _ hn)
theorem idx_lt (n i j : Nat) (hi : i < n) (hj : j < n) : i * n + j < n * n := by
  have := Nat.mul_le_mul_right n (show i + 1 ≤ n from hi)
  rw [Nat.add_mul] at this
  omega
theorem bools_put {w : World} {b n m : Nat} {f g : Nat → Bool} (x : Bool) (h : Bools w b n f) (hm : m < n) (hg : ∀ j, g j = if j = m then x else f j) : Bools (w.setCell ⟨b, m, none⟩ (.bool x)) b n g := by
  refine ⟨by simpa using h.1, fun j hj => ⟨?_, (World.frozen?_setCell _ _ _ _).trans (h.2 j hj).2⟩⟩
  rw [hg j]
  by_cases hjm : j = m
  · subst hjm
    rw [World.cell?_setCell_same _ _ _ (h.2 j hj).1]; simp
  · rw [World.cell?_setCell_other _ _ _ _ (by simp), (h.2 j hj).1]; simp [hjm]

/-- Pairs of the rows below i, and of row i those below j. -/
def m1 (u : Nat → Nat → Bool) (i j r s : Nat) : Bool := decide (r < i ∨ (r = i ∧ s < j)) && u r s
theorem m1_start (u : Nat → Nat → Bool) (r s : Nat) : m1 u 0 0 r s = false := by simp [m1]
theorem m1_skip {n : Nat} {u : Nat → Nat → Bool} (hu : Up n u) (i r s : Nat) : m1 u i (i + 1) r s = m1 u i 0 r s := by
  unfold m1
  cases h : u r s
  · simp
  · have := hu r s h
    congr 1
    congr 1
    apply propext
    constructor <;> intro h' <;> omega
theorem m1_step (u : Nat → Nat → Bool) (i j r s : Nat) : m1 u i (j + 1) r s = if r = i ∧ s = j then u i j else m1 u i j r s := by
  unfold m1
  by_cases h : r = i ∧ s = j
  · obtain ⟨rfl, rfl⟩ := h
    simp
  · rw [if_neg h]
    congr 1
    congr 1
    apply propext
    constructor <;> intro h' <;> omega
theorem m1_next (u : Nat → Nat → Bool) (n i r s : Nat) (hs : s < n) : m1 u i n r s = m1 u (i + 1) 0 r s := by
  unfold m1
  congr 1
  congr 1
  apply propext
  constructor <;> intro h' <;> omega
theorem m1_all {n : Nat} {u : Nat → Nat → Bool} (hu : Up n u) (r s : Nat) : m1 u n 0 r s = u r s := by
  unfold m1
  cases h : u r s
  · simp
  · have := hu r s h
    simp; omega

/-- Narrow pairs are closed, of the width at hand those of the first rows. -/
def m2 (c u : Nat → Nat → Bool) (d i r s : Nat) : Bool := if s < r + d ∨ (s = r + d ∧ r < i) then c r s else u r s
def acc (c u : Nat → Nat → Bool) (i k j : Nat) : Bool := u i k || (List.range j).any fun t => decide (i < t) && (c i t && c t k)
theorem acc_start (c u : Nat → Nat → Bool) (i k : Nat) : acc c u i k (i + 1) = u i k := by
  have : ((List.range (i + 1)).any fun t => decide (i < t) && (c i t && c t k)) = false := by
    rw [List.any_eq_false]
    intro t ht
    simp only [List.mem_range] at ht
    simp; omega
  rw [acc, this]; simp
theorem acc_step (c u : Nat → Nat → Bool) (i k j : Nat) (h : i < j) : acc c u i k (j + 1) = (acc c u i k j || (c i j && c j k)) := by
  unfold acc
  rw [List.range_succ, List.any_append]
  simp [h, Bool.or_assoc]
theorem acc_all {n : Nat} {u : Nat → Nat → Bool} (hu : Up n u) (i k : Nat) : acc (cl n u) u i k k = cl n u i k := by
  rw [Bool.eq_iff_iff, cl_step hu i k]
  unfold acc
  simp only [Bool.or_eq_true, List.any_eq_true, List.mem_range, Bool.and_eq_true, decide_eq_true_eq]
  constructor
  · rintro (h | ⟨t, h1, h2, h3, h4⟩)
    · exact .inl h
    · exact .inr ⟨t, h2, h1, h3, h4⟩
  · rintro (h | ⟨t, h1, h2, h3, h4⟩)
    · exact .inl h
    · exact .inr ⟨t, h2, h1, h3, h4⟩
def m2x (c u : Nat → Nat → Bool) (d i j r s : Nat) : Bool := if r = i ∧ s = i + d then acc c u i (i + d) j else m2 c u d i r s
theorem m2_start {n : Nat} {u : Nat → Nat → Bool} (hu : Up n u) (r s : Nat) : m2 (cl n u) u 2 0 r s = u r s := by
  unfold m2
  split
  · rename_i h
    rw [Bool.eq_iff_iff, cl_step hu r s]
    constructor
    · rintro (h1 | ⟨j, h1, h2, _, _⟩)
      · exact h1
      · omega
    · exact fun h1 => .inl h1
  · rfl
theorem m2x_start {n : Nat} (c u : Nat → Nat → Bool) (d i r s : Nat) (_hn : n = n) : m2x c u d i (i + 1) r s = m2 c u d i r s := by
  unfold m2x
  split
  · rename_i h
    obtain ⟨rfl, rfl⟩ := h
    rw [acc_start, m2, if_neg (by omega)]
  · rfl
theorem m2x_no (c u : Nat → Nat → Bool) (d i j : Nat) (hij : i < j) (h : (c i j && c j (i + d)) = false) : m2x c u d i (j + 1) = m2x c u d i j := by
  funext r s
  unfold m2x
  split
  · rw [acc_step c u i (i + d) j hij, h]; simp
  · rfl
theorem m2x_yes (c u : Nat → Nat → Bool) (d i j : Nat) (hij : i < j) (h : (c i j && c j (i + d)) = true) (r s : Nat) : m2x c u d i (j + 1) r s = if r = i ∧ s = i + d then true else m2x c u d i j r s := by
  unfold m2x
  by_cases e : r = i ∧ s = i + d
  · rw [if_pos e, if_pos e, acc_step c u i (i + d) j hij, h]; simp
  · rw [if_neg e, if_neg e, if_neg e]
theorem m2x_end {n : Nat} {u : Nat → Nat → Bool} (hu : Up n u) (d i r s : Nat) : m2x (cl n u) u d i (i + d) r s = m2 (cl n u) u d (i + 1) r s := by
  unfold m2x
  by_cases e : r = i ∧ s = i + d
  · obtain ⟨rfl, rfl⟩ := e
    rw [if_pos ⟨rfl, rfl⟩, acc_all hu, m2, if_pos (.inr ⟨rfl, by omega⟩)]
  · rw [if_neg e]
    unfold m2
    by_cases h1 : s < r + d ∨ (s = r + d ∧ r < i)
    · rw [if_pos h1, if_pos (by omega)]
    · rw [if_neg h1, if_neg (by omega)]
theorem m2_next {n : Nat} {u : Nat → Nat → Bool} (hu : Up n u) (d i r s : Nat) (hi : n ≤ i + d) : m2 (cl n u) u d i r s = m2 (cl n u) u (d + 1) 0 r s := by
  unfold m2
  by_cases h1 : s < r + d ∨ (s = r + d ∧ r < i)
  · rw [if_pos h1, if_pos (by omega)]
  · rw [if_neg h1]
    by_cases h2 : s < r + (d + 1) ∨ (s = r + (d + 1) ∧ r < 0)
    · rw [if_pos h2]
      have hs : n ≤ s := by omega
      have a1 : u r s = false := by
        cases h : u r s
        · rfl
        · have := hu r s h; omega
      have a2 : cl n u r s = false := by
        cases h : cl n u r s
        · rfl
        · have := cl_up hu r s h; omega
      rw [a1, a2]
    · rw [if_neg h2]
theorem m2_all {n : Nat} {u : Nat → Nat → Bool} (d r s : Nat) (hd : n ≤ d) (hs : s < n) : m2 (cl n u) u d 0 r s = cl n u r s := by
  rw [m2, if_pos (.inl (by omega))]
/-- What the inner loop reads is closed already. -/
theorem m2x_left (c u : Nat → Nat → Bool) (d i j : Nat) (_h1 : i < j) (h2 : j < i + d) : m2x c u d i j i j = c i j := by
  rw [m2x, if_neg (by omega), m2, if_pos (.inl (by omega))]
theorem m2x_right (c u : Nat → Nat → Bool) (d i j : Nat) (_h1 : i < j) : m2x c u d i j j (i + d) = c j (i + d) := by
  rw [m2x, if_neg (by omega), m2, if_pos (.inl (by omega))]

/-! ### the counts -/
def sfL (c : Nat → Nat → Bool) (n i j : Nat) : List Int := (List.range n).map fun t => ((sofar c n i j t : Nat) : Int)
theorem sfL_len (c : Nat → Nat → Bool) (n i j : Nat) : (sfL c n i j).length = n := by simp [sfL]
theorem sfL_at (c : Nat → Nat → Bool) (n i j t : Nat) (h : t < n) : (sfL c n i j).getD t 0 = ((sofar c n i j t : Nat) : Int) := by simp [sfL, List.getD, h]
theorem sfL_same (c : Nat → Nat → Bool) (n i j i' j' : Nat) (h : ∀ t, t < n → sofar c n i j t = sofar c n i' j' t) : sfL c n i j = sfL c n i' j' := by
  unfold sfL
  apply List.map_congr_left
  intro t ht
  rw [h t (by simpa using ht)]
theorem sfL_start (c : Nat → Nat → Bool) (n : Nat) : sfL c n 0 0 = List.replicate n 0 := by
  refine list_eq_of (by simp [sfL]) fun t ht => ?_
  rw [sfL_len] at ht
  rw [sfL_at c n 0 0 t ht, sofar_start]
  simp [List.getD, ht]
theorem sfL_all (c : Nat → Nat → Bool) (n : Nat) : sfL c n n 0 = posL c n := by
  refine list_eq_of (by rw [sfL_len, posL_len]) fun t ht => ?_
  rw [sfL_len] at ht
  rw [sfL_at c n n 0 t ht, posL_at c n t ht, sofar_all c n t ht]
theorem sfL_put (c : Nat → Nat → Bool) (n i j k x : Nat) (_hk : k < n) (h : ∀ t, sofar c n i (j + 1) t = if t = k then x else sofar c n i j t) : (sfL c n i j).set k (x : Int) = sfL c n i (j + 1) := by
  refine list_eq_of (by simp [sfL]) fun t ht => ?_
  rw [List.length_set, sfL_len] at ht
  rw [sfL_at c n i (j + 1) t ht, h t, getD_put _ _ _ _ (by rw [sfL_len]; exact ht)]
  by_cases e : t = k
  · rw [if_pos e, if_pos e]
  · rw [if_neg e, if_neg e, sfL_at c n i j t ht]

end Go.Proofs.Ytnnbhgiaaelkiaa.mj
