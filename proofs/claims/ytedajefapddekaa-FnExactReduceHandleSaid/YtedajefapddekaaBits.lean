/-
  Bits of rows: math/bits.OnesCount16 counts the bits of a number below 65536.
-/
import Derived.Test.YtedajefapddekaaComp
import Derived.Laws.BitsAllLaws
import Derived.Lib.BitFns
import Derived.Laws.Rows
import Derived.Laws.Tables
namespace Go.Proofs.Ytedajefapddekaa.bt
open Go.RowKit Go.Proofs.Ytedajefapddekaa.sl Go.Proofs.Ytedajefapddekaa.pm

/-- How many of the first f bits are set. -/
def cnt (f x : Nat) : Nat := (List.range f).countP fun b => x.testBit b
theorem cnt_succ (f x : Nat) : cnt (f + 1) x = x % 2 + cnt f (x / 2) := by
  unfold cnt
  rw [List.range_succ_eq_map, List.countP_cons, List.countP_map]
  have h1 : (if x.testBit 0 = true then 1 else 0) = x % 2 := by
    rw [Nat.testBit_zero]
    by_cases h : x % 2 = 1
    · simp [h]
    · simp [h]; omega
  have h2 : List.countP ((fun b => x.testBit b) ∘ Nat.succ) (List.range f) = List.countP (fun b => (x / 2).testBit b) (List.range f) := by
    apply List.countP_congr
    intro b _
    simp [Nat.testBit_succ]
  rw [h1, h2]; omega
theorem cnt_pop (f x : Nat) : Lib.popAux f x = cnt f x := by
  induction f generalizing x with
  | zero => rfl
  | succ f ih => rw [Lib.popAux, cnt_succ, ih]
theorem cnt_split (f g x : Nat) : cnt (f + g) x = cnt f x + cnt g (x / 2 ^ f) := by
  induction f generalizing x with
  | zero => simp [cnt]
  | succ f ih =>
    have e : f + 1 + g = (f + g) + 1 := by omega
    rw [e, cnt_succ, cnt_succ, ih, Nat.pow_succ, Nat.mul_comm, Nat.div_div_eq_div_mul]
    omega
theorem cnt_low (f g x : Nat) (h : x < 2 ^ f) : cnt (f + g) x = cnt f x := by
  rw [cnt_split, Nat.div_eq_of_lt h]
  have : cnt g 0 = 0 := by simp [cnt]
  omega
theorem cnt_mod (f x : Nat) : cnt f (x % 2 ^ f) = cnt f x := by
  unfold cnt
  apply List.countP_congr
  intro b hb
  simp only [List.mem_range] at hb
  simp [Nat.testBit_mod_two_pow, hb]
theorem ones_split (x : Nat) (hx : x < 65536) : Lib.onesCount (x / 256) + Lib.onesCount (x % 256) = cnt 16 x := by
  unfold Lib.onesCount
  rw [cnt_pop, cnt_pop]
  have h1 : cnt 64 (x / 256) = cnt 8 (x / 256) := cnt_low 8 56 _ (by omega)
  have h2 : cnt 64 (x % 256) = cnt 8 (x % 256) := cnt_low 8 56 _ (by omega)
  have h3 : cnt 8 (x % 256) = cnt 8 x := cnt_mod 8 x
  have h4 : cnt 16 x = cnt 8 x + cnt 8 (x / 2 ^ 8) := cnt_split 8 8 x
  rw [h1, h2, h3]
  have h5 : (2 : Nat) ^ 8 = 256 := by decide
  rw [h5] at h4
  omega
theorem cnt_le (f x : Nat) : cnt f x ≤ f := by
  unfold cnt
  have := List.countP_le_length (p := fun b => x.testBit b) (l := List.range f)
  simpa using this

theorem pop_nat (n : Nat) (h : n < 256) : Lib.pop8 (n : Int) = (Lib.onesCount n : Int) ∧ Lib.onesCount n ≤ 8 := ⟨Lib.pop8_eq ⟨n, h⟩, Lib.onesCount_le8 ⟨n, h⟩⟩

/-! ### rows of pairs -/
/-- Bit k (below j) of row i: thing i stands before thing k and has the greater place. -/
def rowTo (p : List Int) (i : Nat) : Nat → Nat
  | 0 => 0
  | j + 1 => if i < j ∧ p.getD j 0 < p.getD i 0 then rowTo p i j ||| 2 ^ j else rowTo p i j
theorem rowTo_lt (p : List Int) (i j : Nat) : rowTo p i j < 2 ^ j := by
  induction j with
  | zero => simp [rowTo]
  | succ j ih =>
    unfold rowTo
    have h2 : 2 ^ j < 2 ^ (j + 1) := Nat.pow_lt_pow_right (by omega) (by omega)
    split
    · exact Nat.or_lt_two_pow (by omega) h2
    · omega
theorem rowTo_bit (p : List Int) (i j k : Nat) : (rowTo p i j).testBit k = decide (k < j ∧ i < k ∧ p.getD k 0 < p.getD i 0) := by
  induction j with
  | zero => simp [rowTo]
  | succ j ih =>
    unfold rowTo
    split
    · rename_i h
      rw [Nat.testBit_or, ih, Nat.testBit_two_pow]
      by_cases hk : j = k
      · subst hk; simp only [decide_true, Bool.or_true]
        symm; simp only [decide_eq_true_eq]; exact ⟨by omega, h.1, h.2⟩
      · simp only [hk, decide_false, Bool.or_false]
        congr 1
        apply propext
        constructor
        · rintro ⟨a, b⟩; exact ⟨by omega, b⟩
        · rintro ⟨a, b⟩; exact ⟨by omega, b⟩
    · rename_i h
      rw [ih]
      congr 1
      apply propext
      constructor
      · rintro ⟨a, b⟩; exact ⟨by omega, b⟩
      · rintro ⟨a, b, c⟩
        refine ⟨?_, b, c⟩
        rcases Nat.lt_or_ge k j with h1 | h1
        · exact h1
        · obtain rfl : k = j := by omega
          exact absurd ⟨b, c⟩ h
theorem rowTo_start (p : List Int) (i j : Nat) (h : j ≤ i + 1) : rowTo p i j = 0 := by
  induction j with
  | zero => rfl
  | succ j ih =>
    rw [rowTo, if_neg (by omega)]
    exact ih (by omega)
def row (p : List Int) (i : Nat) : Nat := rowTo p i p.length
theorem row_zero (p : List Int) (i : Nat) (h : p.length ≤ i + 1) : row p i = 0 := rowTo_start p i _ h

def arr (f : Nat → Nat) : Array Value := ((List.range 12).map fun i => Value.int .u16 (f i : Int)).toArray
theorem arr_size (f : Nat → Nat) : (arr f).size = 12 := by simp [arr]
theorem arr_same (f g : Nat → Nat) : (arr f).size = (arr g).size := by rw [arr_size, arr_size]
theorem arr_at (f : Nat → Nat) (i : Nat) (h : i < 12) : (arr f)[i]? = some (.int .u16 (f i : Int)) := by simp [arr, h]
theorem arr_set (f g : Nat → Nat) (i x : Nat) (_h : i < 12) (hg : ∀ r, g r = if r = i then x else f r) : (arr f).setIfInBounds i (.int .u16 (x : Int)) = arr g := by
  apply Array.ext_getElem?
  intro j
  by_cases hj : j < 12
  · rw [arr_at g j hj, hg j]
    by_cases hji : j = i
    · subst hji
      rw [Array.getElem?_setIfInBounds_self_of_lt (by rw [arr_size]; exact hj)]; simp
    · rw [Array.getElem?_setIfInBounds_ne (by omega), arr_at f j hj, if_neg hji]
  · rw [Array.getElem?_eq_none (by rw [Array.size_setIfInBounds, arr_size]; omega), Array.getElem?_eq_none (by rw [arr_size]; omega)]
theorem arr_one (f : Nat → Nat) : (arr f).all (·.oneCell') = true := by
  simp [arr, Value.oneCell']

/-- A block that holds twelve rows. -/
def Rows12 (w : World) (b T : Nat) (f : Nat → Nat) : Prop := w.heap[b]? = some (.cells (arr f) T (0, 0))
theorem Rows12.at' {w : World} {b T : Nat} {f : Nat → Nat} (h : Rows12 w b T f) (i : Nat) (hi : i < 12) : w.cell? ⟨b, i, none⟩ = some (.int .u16 (f i : Int)) ∧ w.frozen? ⟨b, i, none⟩ = false :=
  ⟨by rw [cell_of_row w b i (arr f) T (0, 0) h, arr_at f i hi], frozen_of_row w b i (arr f) T h⟩
theorem Rows12.set {w : World} {b T : Nat} {f g : Nat → Nat} (h : Rows12 w b T f) (i x : Nat) (hi : i < 12) (hg : ∀ r, g r = if r = i then x else f r) : Rows12 (w.setCell ⟨b, i, none⟩ (.int .u16 (x : Int))) b T g := by
  have := heap_setCell_same w b i (arr f) T (.int .u16 (x : Int)) h
  rw [arr_set f g i x hi hg] at this
  exact this
theorem Rows12.lt {w : World} {b T : Nat} {f : Nat → Nat} (h : Rows12 w b T f) : b < w.heap.size := (Array.getElem?_eq_some_iff.1 h).1
theorem Rows12.chg {w w' : World} {b T lo hi : Nat} {f : Nat → Nat} (h : Rows12 w b T f) (c : Chg lo hi w w') (hb : ¬ (lo ≤ b ∧ b < hi)) : Rows12 w' b T f := by
  unfold Rows12
  rw [c.block b h.lt hb]
  exact h
theorem Rows12.drewN {w : World} {b T : Nat} {f : Nat → Nat} (h : Rows12 w b T f) (n : Nat) : Rows12 (w.drewN n) b T f := h

/-- The rows while row i is written up to j. -/
def st (p : List Int) (i j r : Nat) : Nat := if r < i then row p r else if r = i then rowTo p i j else 0
theorem st_zero (p : List Int) (r : Nat) : st p 0 0 r = 0 := by
  unfold st
  split
  · omega
  · split
    · rename_i h; rfl
    · rfl
theorem st_start (p : List Int) (i : Nat) : st p i (i + 1) = st p i 0 := by
  funext r
  unfold st
  split
  · rfl
  · split
    · rw [rowTo_start p i (i + 1) (by omega)]; rfl
    · rfl
theorem st_next (p : List Int) (i : Nat) : st p i p.length = st p (i + 1) 0 := by
  funext r
  unfold st
  by_cases h1 : r < i
  · rw [if_pos h1, if_pos (by omega)]
  · rw [if_neg h1]
    by_cases h2 : r = i
    · subst h2; rw [if_pos rfl, if_pos (by omega)]; rfl
    · rw [if_neg h2, if_neg (by omega)]
      split
      · rfl
      · rfl
theorem st_all (p : List Int) : st p p.length 0 = row p := by
  funext r
  unfold st
  split
  · rfl
  · split
    · rename_i h _; rw [row_zero p r (by omega)]; rfl
    · rw [row_zero p r (by omega)]
theorem st_yes (p : List Int) (i j : Nat) (h1 : i < j) (h2 : p.getD j 0 < p.getD i 0) (r : Nat) : st p i (j + 1) r = if r = i then rowTo p i j ||| 2 ^ j else st p i j r := by
  unfold st
  by_cases h : r = i
  · subst h; rw [if_neg (by omega), if_pos rfl, if_pos rfl, rowTo, if_pos ⟨h1, h2⟩]
  · rw [if_neg h]
    split
    · rfl
    · rfl
theorem st_no (p : List Int) (i j : Nat) (h2 : ¬ p.getD j 0 < p.getD i 0) : st p i (j + 1) = st p i j := by
  funext r
  unfold st
  split
  · rfl
  · split
    · rw [rowTo, if_neg (by rintro ⟨_, h⟩; exact h2 h)]
    · rfl
theorem st_at (p : List Int) (i j : Nat) : st p i j i = rowTo p i j := by
  unfold st
  rw [if_neg (by omega), if_pos rfl]
theorem arr_zero : arr (fun _ => 0) = #[.int .u16 0, .int .u16 0, .int .u16 0, .int .u16 0, .int .u16 0, .int .u16 0, .int .u16 0, .int .u16 0, .int .u16 0, .int .u16 0, .int .u16 0, .int .u16 0] := rfl
theorem or_val (x j : Nat) (hx : x < 2 ^ j) (hj : j < 12) : bits .or .u16 (x : Int) ((2 ^ j : Nat) : Int) = ((x ||| 2 ^ j : Nat) : Int) := by
  have h1 : 2 ^ j ≤ 2 ^ 11 := Nat.pow_le_pow_right (by omega) (by omega)
  have h2 : (2 : Nat) ^ 11 = 2048 := by decide
  exact u16_or_nat x (2 ^ j) (by omega) (by omega)

theorem or_row (x j : Nat) (hx : x < 2 ^ j) (hj : j < 12) : bits .or .u16 (x : Int) (IntKind.u16.wrap ((2 : Int) ^ j)) = ((x ||| 2 ^ j : Nat) : Int) := by
  have h1 : 2 ^ j ≤ 2 ^ 11 := Nat.pow_le_pow_right (by omega) (by omega)
  have h2 : (2 : Nat) ^ 11 = 2048 := by decide
  have h3 : ((2 : Int) ^ j) = ((2 ^ j : Nat) : Int) := by rw [Int.natCast_pow]; rfl
  have h4 : IntKind.u16.wrap ((2 : Int) ^ j) = ((2 ^ j : Nat) : Int) := by
    rw [h3, IntKind.wrap_u16]; omega
  rw [h4]
  exact or_val x j hx hj
end Go.Proofs.Ytedajefapddekaa.bt
