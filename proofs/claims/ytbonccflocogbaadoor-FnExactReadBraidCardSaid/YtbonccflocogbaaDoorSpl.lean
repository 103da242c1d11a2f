/-
  Words between blanks in plain words: the parts between blanks byte by byte, and the spans of runes that are no blanks.
-/
import Derived.Lib.FieldsP
import Derived.Lib.DecodeN
import Derived.Lib.TrimU
namespace Go.Proofs.YtbonccflocogbaaDoor.sp

def bl (s : ByteArray) (i : Nat) : Bool := decide ((s.get! i).toNat = 32)
/-- Where the part begins that is read at place i. -/
def frm (s : ByteArray) : Nat → Nat
  | 0 => 0
  | i + 1 => if bl s i then i + 1 else frm s i
/-- The parts that have ended ahead of place i. -/
def prt (s : ByteArray) : Nat → List (Nat × Nat)
  | 0 => []
  | i + 1 => if bl s i then prt s i ++ [(frm s i, i)] else prt s i
theorem frm_le (s : ByteArray) (i : Nat) : frm s i ≤ i := by
  induction i with
  | zero => simp [frm]
  | succ i ih => unfold frm; split <;> omega
def parts (s : ByteArray) : List (Nat × Nat) := prt s s.size ++ [(frm s s.size, s.size)]
def full (x : Nat × Nat) : Bool := decide (x.1 < x.2)
def piece (s : ByteArray) (x : Nat × Nat) : ByteArray := s.extract x.1 x.2
def wordsL (s : ByteArray) : List ByteArray := ((parts s).filter full).map (piece s)
theorem prt_len (s : ByteArray) (i : Nat) : (prt s i).length ≤ i := by
  induction i with
  | zero => simp [prt]
  | succ i ih =>
    unfold prt
    split
    · simp; omega
    · omega
theorem prt_in (s : ByteArray) (i : Nat) : ∀ x ∈ prt s i, x.1 ≤ x.2 ∧ x.2 < i := by
  induction i with
  | zero => intro x hx; cases hx
  | succ i ih =>
    unfold prt
    split
    · intro x hx
      rcases List.mem_append.1 hx with h | h
      · have := ih x h; omega
      · obtain rfl : x = (frm s i, i) := by simpa using h
        have := frm_le s i
        exact ⟨this, by omega⟩
    · intro x hx
      have := ih x hx; omega
theorem parts_in (s : ByteArray) : ∀ x ∈ parts s, x.1 ≤ x.2 ∧ x.2 ≤ s.size := by
  intro x hx
  rcases List.mem_append.1 hx with h | h
  · have := prt_in s _ x h; omega
  · obtain rfl : x = (frm s s.size, s.size) := by simpa using h
    exact ⟨frm_le s _, Nat.le_refl _⟩
theorem parts_len (s : ByteArray) : (parts s).length ≤ s.size + 1 := by
  have := prt_len s s.size
  simp [parts]; omega
theorem words_len (s : ByteArray) : (wordsL s).length ≤ s.size + 1 := by
  have := parts_len s
  have h := List.length_filter_le full (parts s)
  simp [wordsL]; omega

/-- The spans, byte by byte. -/
def stOf (s : ByteArray) (i : Nat) : Option Nat := if frm s i < i then some (frm s i) else none
theorem st_blank (s : ByteArray) (i : Nat) (h : bl s i = true) : stOf s (i + 1) = none := by
  unfold stOf; rw [show frm s (i + 1) = i + 1 by simp [frm, h], if_neg (by omega)]
theorem st_word (s : ByteArray) (i : Nat) (h : bl s i = false) : stOf s (i + 1) = some ((stOf s i).getD i) := by
  have e : frm s (i + 1) = frm s i := by simp [frm, h]
  have := frm_le s i
  unfold stOf
  rw [e, if_pos (by omega)]
  by_cases h2 : frm s i < i
  · rw [if_pos h2]; rfl
  · rw [if_neg h2]; simp; omega
theorem st_words (s : ByteArray) (i k : Nat) (h : ∀ j, j < k + 1 → bl s (i + j) = false) : stOf s (i + (k + 1)) = some ((stOf s i).getD i) ∧ prt s (i + (k + 1)) = prt s i := by
  induction k with
  | zero => exact ⟨st_word s i (h 0 (by omega)), by show prt s (i + 1) = _; simp [prt, show bl s i = false from h 0 (by omega)]⟩
  | succ k ih =>
    obtain ⟨h1, h2⟩ := ih (fun j hj => h j (by omega))
    have hb := h (k + 1) (by omega)
    refine ⟨?_, ?_⟩
    · show stOf s ((i + (k + 1)) + 1) = _
      rw [st_word s _ hb, h1]; rfl
    · have e : prt s ((i + (k + 1)) + 1) = prt s (i + (k + 1)) := by rw [prt, if_neg (by rw [hb]; simp)]
      exact e.trans h2

theorem dec_blank (s : ByteArray) (i : Nat) (h : bl s i = true) : (Utf8.decode s i) = (32, 1) := by
  rw [Lib.decode_at]
  simp only [bl, decide_eq_true_eq] at h
  simp [Lib.decodeN, h]
theorem decN_word (n b0 b1 b2 b3 : Nat) (h0 : b0 ≠ 32) : (Lib.decodeN n b0 b1 b2 b3).1 ≠ 32 ∧ 1 ≤ (Lib.decodeN n b0 b1 b2 b3).2 ∧
    (2 ≤ (Lib.decodeN n b0 b1 b2 b3).2 → 1 < n ∧ b1 / 64 = 2) ∧ (3 ≤ (Lib.decodeN n b0 b1 b2 b3).2 → 2 < n ∧ b2 / 64 = 2) ∧ (4 ≤ (Lib.decodeN n b0 b1 b2 b3).2 → 3 < n ∧ b3 / 64 = 2) ∧ (Lib.decodeN n b0 b1 b2 b3).2 ≤ 4 := by
  unfold Lib.decodeN
  repeat' split
  all_goals (simp only; omega)
theorem dec_word (s : ByteArray) (i : Nat) (hi : i < s.size) (h : bl s i = false) : (Utf8.decode s i).1 ≠ 32 ∧ ∃ k, (Utf8.decode s i).2 = k + 1 ∧ i + (k + 1) ≤ s.size ∧ ∀ j, j < k + 1 → bl s (i + j) = false := by
  rw [Lib.decode_at]
  have h0 : (s.get! i).toNat ≠ 32 := by simpa [bl] using h
  obtain ⟨a, b, c1, c2, c3, c4⟩ := decN_word (s.size - i) (s.get! i).toNat (s.get! (i + 1)).toNat (s.get! (i + 2)).toNat (s.get! (i + 3)).toNat h0
  generalize Lib.decodeN (s.size - i) (s.get! i).toNat (s.get! (i + 1)).toNat (s.get! (i + 2)).toNat (s.get! (i + 3)).toNat = d at *
  refine ⟨a, d.2 - 1, by omega, by omega, fun j hj => ?_⟩
  match j, hj with
  | 0, _ => exact h
  | 1, hj => have := c1 (by omega); unfold bl; simp only [decide_eq_false_iff_not]; omega
  | 2, hj => have := c2 (by omega); unfold bl; simp only [decide_eq_false_iff_not]; omega
  | 3, hj => have := c3 (by omega); unfold bl; simp only [decide_eq_false_iff_not]; omega
  | j + 4, hj => omega

theorem spans_parts (s : ByteArray) : ∀ (f pos : Nat), s.size ≤ pos + f → pos ≤ s.size → Lib.closeSpans s (Lib.spansFromP (fun x => x == 32) s f pos (stOf s pos) ((prt s pos).filter full)) = (parts s).filter full
  | f, pos, h, hp => by
    by_cases hlt : pos < s.size
    · match f, h with
      | 0, h => omega
      | f + 1, h =>
        unfold Lib.spansFromP
        rw [if_pos hlt]
        cases hb : bl s pos
        · obtain ⟨hne, k, hk, hks, hbl⟩ := dec_word s pos hlt hb
          obtain ⟨e1, e2⟩ := st_words s pos k hbl
          have hne' : ((Utf8.decode s pos).1 == 32) = false := by simpa using hne
          rw [hne', hk, if_neg (by simp)]
          have ih := spans_parts s f (pos + (k + 1)) (by omega) hks
          rw [e1, e2] at ih
          cases hst : stOf s pos with
          | none => rw [hst] at ih; exact ih
          | some a => rw [hst] at ih; exact ih
        · have e := dec_blank s pos hb
          rw [e, if_pos (by rfl)]
          have ih := spans_parts s f (pos + 1) (by omega) (by omega)
          rw [st_blank s pos hb] at ih
          have e2 : prt s (pos + 1) = prt s pos ++ [(frm s pos, pos)] := by simp [prt, hb]
          rw [e2, List.filter_append] at ih
          by_cases hst : frm s pos < pos
          · have e3 : stOf s pos = some (frm s pos) := by simp [stOf, hst]
            rw [e3]
            have e4 : [(frm s pos, pos)].filter full = [(frm s pos, pos)] := by simp [full, hst]
            rw [e4] at ih
            exact ih
          · have e3 : stOf s pos = none := by simp [stOf, hst]
            rw [e3]
            have e4 : [(frm s pos, pos)].filter full = [] := by simp [full, hst]
            rw [e4, List.append_nil] at ih
            exact ih
    · obtain rfl : pos = s.size := by omega
      rw [Lib.spansFromP_end _ _ _ _ _ _ hlt]
      unfold Lib.closeSpans parts
      rw [List.filter_append]
      by_cases hst : frm s s.size < s.size
      · simp [stOf, full, hst]
      · simp [stOf, full, hst]
termination_by f => f

/-- strings.FieldsFunc at blanks gives the words. -/
theorem fields_words (s : ByteArray) : Lib.goFieldsP (fun x => x == 32) s = wordsL s := by
  have h := spans_parts s s.size 0 (by omega) (by omega)
  have e : stOf s 0 = none := by simp [stOf]
  rw [e] at h
  unfold Lib.goFieldsP Lib.spansOfP wordsL
  rw [show (prt s 0).filter full = [] from rfl] at h
  rw [h]
  rfl
end Go.Proofs.YtbonccflocogbaaDoor.sp
