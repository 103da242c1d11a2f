/-
  Decimal numerals in plain words: reading back what was written.
-/
import Derived.Lib.ItoaNum
import Derived.Lib.ParseIntBCases
namespace Go.Proofs.YtbonccflocogbaaDoor.nu

def isD (c : UInt8) : Bool := decide (48 ≤ c.toNat ∧ c.toNat ≤ 57)
def stepD (a : Nat) (c : UInt8) : Nat := 10 * a + (c.toNat - 48)
def valD (acc : Nat) (l : List UInt8) : Nat := l.foldl stepD acc
theorem valD_nil (acc : Nat) : valD acc [] = acc := by unfold valD; rw [List.foldl_nil]
theorem valD_cons (acc : Nat) (c : UInt8) (r : List UInt8) : valD acc (c :: r) = valD (10 * acc + (c.toNat - 48)) r := by unfold valD; rw [List.foldl_cons, stepD]
theorem valD_app (acc : Nat) (l m : List UInt8) : valD acc (l ++ m) = valD (valD acc l) m := by
  unfold valD; rw [List.foldl_append]
theorem valD_le (acc : Nat) (l : List UInt8) : acc ≤ valD acc l := by
  induction l generalizing acc with
  | nil => exact Nat.le_refl _
  | cons c r ih => have := ih (10 * acc + (c.toNat - 48)); rw [valD_cons]; omega
def p10 : Nat → Nat
  | 0 => 1
  | n + 1 => 10 * p10 n
theorem p10_mono (n m : Nat) (h : n ≤ m) : p10 n ≤ p10 m := by
  induction m with
  | zero => obtain rfl : n = 0 := by omega
            exact Nat.le_refl _
  | succ m ih =>
    rcases Nat.lt_or_ge n (m + 1) with h1 | h1
    · have := ih (by omega); rw [show p10 (m + 1) = 10 * p10 m from rfl]; omega
    · obtain rfl : n = m + 1 := by omega
      exact Nat.le_refl _
theorem p10_nine : p10 9 = 1000000000 := rfl
theorem valD_lt (l : List UInt8) (hd : l.all isD = true) (acc : Nat) : valD acc l < (acc + 1) * p10 l.length := by
  induction l generalizing acc with
  | nil => rw [valD_nil, List.length_nil, show p10 0 = 1 from rfl]; omega
  | cons c r ih =>
    simp only [List.all_cons, Bool.and_eq_true] at hd
    have h1 : 48 ≤ c.toNat ∧ c.toNat ≤ 57 := by simpa [isD] using hd.1
    have h2 := ih hd.2 (10 * acc + (c.toNat - 48))
    have h3 : (10 * acc + (c.toNat - 48) + 1) * p10 r.length ≤ (10 * (acc + 1)) * p10 r.length := Nat.mul_le_mul_right _ (by omega)
    have e : (acc + 1) * p10 (c :: r).length = (10 * (acc + 1)) * p10 r.length := by
      rw [List.length_cons, p10, ← Nat.mul_assoc, Nat.mul_comm (acc + 1) 10]
    rw [e]
    exact Nat.lt_of_lt_of_le h2 h3

theorem dd_small (u : Nat) (h : u < 10) : Lib.decDigits u = [UInt8.ofNat (48 + u)] := by rw [Lib.decDigits, dif_pos h]
theorem dd_big (u : Nat) (h : ¬ u < 10) : Lib.decDigits u = Lib.decDigits (u / 10) ++ [UInt8.ofNat (48 + u % 10)] := by rw [Lib.decDigits, dif_neg h]
theorem dig_toNat (c : Nat) (h : c < 10) : (UInt8.ofNat (48 + c)).toNat = 48 + c := by simp; omega
theorem dd_all (u : Nat) : (Lib.decDigits u).all isD = true := by
  induction u using Nat.strongRecOn with
  | _ u ih =>
    by_cases h : u < 10
    · rw [dd_small u h]; simp only [List.all_cons, List.all_nil, isD, dig_toNat u h]; simp; omega
    · rw [dd_big u h, List.all_append, ih (u / 10) (by omega)]
      have := dig_toNat (u % 10) (by omega)
      simp only [List.all_cons, List.all_nil, isD, this]; simp; omega
theorem dd_val (u : Nat) : valD 0 (Lib.decDigits u) = u := by
  induction u using Nat.strongRecOn with
  | _ u ih =>
    by_cases h : u < 10
    · rw [dd_small u h, valD_cons, valD_nil, dig_toNat u h]; omega
    · rw [dd_big u h, valD_app, ih (u / 10) (by omega)]
      rw [valD_cons, valD_nil, dig_toNat (u % 10) (show u % 10 < 10 by omega)]; omega
theorem dd_len (k u : Nat) (h : u < p10 (k + 1)) : (Lib.decDigits u).length ≤ k + 1 := by
  induction k generalizing u with
  | zero => rw [dd_small u (by simpa [p10] using h)]; simp
  | succ k ih =>
    by_cases h1 : u < 10
    · rw [dd_small u h1]; simp
    · rw [dd_big u h1, List.length_append]
      have := ih (u / 10) (by rw [p10] at h; omega)
      simp; omega
theorem dd_ne (u : Nat) : Lib.decDigits u ≠ [] := by
  by_cases h1 : u < 10
  · rw [dd_small u h1]; simp
  · rw [dd_big u h1]; simp

/-- The number that the model reads, if the text is the decimal form of one of at most nine digits. -/
def rest (l : List UInt8) : List UInt8 := if l.head? = some 45 then l.tail else l
def num (l : List UInt8) : Int := if l.head? = some 45 then -(valD 0 l.tail : Int) else (valD 0 l : Int)
def rdOk (l : List UInt8) : Bool := decide (1 ≤ (rest l).length ∧ (rest l).length ≤ 9) && (rest l).all isD && decide (Lib.itoa (num l) = l)
def rdN (l : List UInt8) : Int := if rdOk l = true then num l else 0

theorem itoa_pos (u : Nat) : Lib.itoa (u : Int) = Lib.decDigits u := by unfold Lib.itoa; rw [if_neg (by omega)]; simp
theorem itoa_neg (u : Nat) (h : 1 ≤ u) : Lib.itoa (-(u : Int)) = 45 :: Lib.decDigits u := by unfold Lib.itoa; rw [if_pos (by omega)]; simp
theorem dd_head (u : Nat) : (Lib.decDigits u).head? ≠ some 45 := by
  have h := dd_all u
  cases hd : Lib.decDigits u with
  | nil => simp
  | cons c r =>
    rw [hd] at h
    simp only [List.all_cons, Bool.and_eq_true] at h
    have h1 : 48 ≤ c.toNat ∧ c.toNat ≤ 57 := by simpa [isD] using h.1
    intro h2
    simp only [List.head?_cons, Option.some.injEq] at h2
    subst h2
    have : (45 : UInt8).toNat = 45 := rfl
    omega

theorem num_itoa (n : Int) (_h0 : -999999999 ≤ n) (_h1 : n ≤ 999999999) : num (Lib.itoa n) = n := by
  rcases Int.lt_or_le n 0 with h | h
  · obtain ⟨u, hu⟩ := Int.eq_ofNat_of_zero_le (show 0 ≤ -n by omega)
    obtain rfl : n = -(u : Int) := by omega
    rw [itoa_neg u (by omega)]
    simp [num, dd_val]
  · obtain ⟨u, rfl⟩ := Int.eq_ofNat_of_zero_le h
    rw [itoa_pos]
    unfold num
    rw [if_neg (dd_head u), dd_val]
theorem rd_itoa (n : Int) (h0 : -999999999 ≤ n) (h1 : n ≤ 999999999) : rdOk (Lib.itoa n) = true := by
  unfold rdOk
  rw [num_itoa n h0 h1]
  rcases Int.lt_or_le n 0 with h | h
  · obtain ⟨u, hu⟩ := Int.eq_ofNat_of_zero_le (show 0 ≤ -n by omega)
    obtain rfl : n = -(u : Int) := by omega
    have e : rest (Lib.itoa (-(u : Int))) = Lib.decDigits u := by rw [itoa_neg u (by omega)]; simp [rest]
    rw [e, dd_all]
    have := dd_len 8 u (by rw [p10_nine]; omega)
    have := List.length_pos_iff.2 (dd_ne u)
    simp; omega
  · obtain ⟨u, rfl⟩ := Int.eq_ofNat_of_zero_le h
    have e : rest (Lib.itoa (u : Int)) = Lib.decDigits u := by rw [itoa_pos]; unfold rest; rw [if_neg (dd_head u)]
    rw [e, dd_all]
    have := dd_len 8 u (by rw [p10_nine]; omega)
    have := List.length_pos_iff.2 (dd_ne u)
    simp; omega
theorem num_le (l : List UInt8) (h1 : (rest l).length ≤ 9) (h2 : (rest l).all isD = true) : -999999999 ≤ num l ∧ num l ≤ 999999999 := by
  have h := valD_lt (rest l) h2 0
  have h3 := p10_mono _ _ h1
  rw [p10_nine] at h3
  rw [Nat.zero_add, Nat.one_mul] at h
  unfold num rest at *
  split
  · rename_i hh; rw [if_pos hh] at h h3; omega
  · rename_i hh; rw [if_neg hh] at h h3; omega
theorem rd_parts {l : List UInt8} (h : rdOk l = true) : (1 ≤ (rest l).length ∧ (rest l).length ≤ 9) ∧ (rest l).all isD = true ∧ Lib.itoa (num l) = l ∧ -999999999 ≤ num l ∧ num l ≤ 999999999 := by
  simp only [rdOk, Bool.and_eq_true, decide_eq_true_eq] at h
  exact ⟨h.1.1, h.1.2, h.2, num_le l h.1.1.2 h.1.2⟩

theorem parse_digits (l : List UInt8) (hd : l.all isD = true) (acc : Nat) (hb : valD acc l ≤ 1000000000000) : Lib.parseUintM (2 ^ 64 - 1) acc l = .ok (valD acc l) := by
  induction l generalizing acc with
  | nil => rfl
  | cons c r ih =>
    simp only [List.all_cons, Bool.and_eq_true] at hd
    have h1 : 48 ≤ c.toNat ∧ c.toNat ≤ 57 := by simpa [isD] using hd.1
    have h2 := valD_cons acc c r
    rw [h2] at hb
    have h3 := valD_le (10 * acc + (c.toNat - 48)) r
    have h4 : (2 : Nat) ^ 64 - 1 = 18446744073709551615 := by decide
    have e : acc * 10 + (c.toNat - 48) = 10 * acc + (c.toNat - 48) := by omega
    unfold Lib.parseUintM
    rw [if_pos h1, if_neg (by omega), e, h4, if_neg (by omega), h2, ← h4]
    exact ih hd.2 _ hb
theorem parse_itoa (n : Int) (h0 : -999999999 ≤ n) (h1 : n ≤ 999999999) : Lib.parseIntB 64 (Lib.itoa n) = .ok n := by
  have e63 : (2 : Nat) ^ (64 - 1) = 9223372036854775808 := by decide
  rcases Int.lt_or_le n 0 with h | h
  · obtain ⟨u, hu⟩ := Int.eq_ofNat_of_zero_le (show 0 ≤ -n by omega)
    obtain rfl : n = -(u : Int) := by omega
    rw [itoa_neg u (by omega), Lib.parseIntB_minus]
    have hp : Lib.parseUintB 64 (Lib.decDigits u) = .ok u := by
      unfold Lib.parseUintB
      rw [if_neg (dd_ne u), parse_digits _ (dd_all u) 0 (by rw [dd_val]; omega), dd_val]
    rw [hp]
    simp only [Lib.signedC, e63]
    rw [if_neg (by omega)]
  · obtain ⟨u, rfl⟩ := Int.eq_ofNat_of_zero_le h
    rw [itoa_pos]
    have hp : Lib.parseUintB 64 (Lib.decDigits u) = .ok u := by
      unfold Lib.parseUintB
      rw [if_neg (dd_ne u), parse_digits _ (dd_all u) 0 (by rw [dd_val]; omega), dd_val]
    have hh := dd_head u
    have ha := dd_all u
    cases hd : Lib.decDigits u with
    | nil => exact absurd hd (dd_ne u)
    | cons c r =>
      rw [hd] at hp hh ha
      simp only [List.all_cons, Bool.and_eq_true] at ha
      have h2 : 48 ≤ c.toNat ∧ c.toNat ≤ 57 := by simpa [isD] using ha.1
      rw [Lib.parseIntB_plain 64 c r (by omega) (by omega), hp]
      simp only [Lib.signlessC, e63]
      rw [if_neg (by omega)]
/-- What the program reads: it parses, looks at the range, and writes the number again. -/
theorem rd_of_parse {l : List UInt8} {v : Int} (_hp : Lib.parseIntB 64 l = .ok v) (h0 : -999999999 ≤ v) (h1 : v ≤ 999999999) (hi : Lib.itoa v = l) : rdOk l = true ∧ num l = v := by
  rw [← hi]; exact ⟨rd_itoa v h0 h1, num_itoa v h0 h1⟩
theorem rd_no_parse {l : List UInt8} (h : rdOk l = true) : Lib.parseIntB 64 l = .ok (num l) := by
  obtain ⟨_, _, hi, h0, h1⟩ := rd_parts h
  have := parse_itoa (num l) h0 h1
  rw [hi] at this
  exact this
end Go.Proofs.YtbonccflocogbaaDoor.nu
