/-
  ReadBraid: mathematics. Words between blanks as lists of bytes; a braid's text read back.
-/
import Derived.Test.YtbonccflocogbaaDoorBt0
import Derived.Test.YtbonccflocogbaaDoorNum
import Derived.Test.YtbonccflocogbaaDoorSpl
namespace Go.Proofs.YtbonccflocogbaaDoor.rb
open Go.Proofs.YtbonccflocogbaaDoor.sp Go.Proofs.YtbonccflocogbaaDoor.br Go.Proofs.YtbonccflocogbaaDoor.bw Go.Proofs.YtbonccflocogbaaDoor.bt
set_option linter.unusedVariables false

def stepS (st : List (List UInt8) × List UInt8) (c : UInt8) : List (List UInt8) × List UInt8 :=
  if c.toNat = 32 then (st.1 ++ [st.2], []) else (st.1, st.2 ++ [c])
def fin (st : List (List UInt8) × List UInt8) : List (List UInt8) := st.1 ++ [st.2]
def splitL (l : List UInt8) : List (List UInt8) := fin (l.foldl stepS ([], []))
def bts (s : ByteArray) : List UInt8 := s.data.toList
theorem bts_len (s : ByteArray) : (bts s).length = s.size := by simp [bts]
theorem bts_cut (s : ByteArray) (a b : Nat) : bts (s.extract a b) = ((bts s).take b).drop a := by
  simp [bts, ByteArray.data_extract, List.drop_take]
theorem bl_get (s : ByteArray) (i : Nat) (h : i < s.size) : bl s i = decide (((bts s)[i]'(by rw [bts_len]; exact h)).toNat = 32) := by
  unfold bl
  congr 2
  simp only [bts, ByteArray.get!]
  rw [getElem!_pos s.data i (by simpa using h)]
  simp
theorem split_inv (s : ByteArray) : ∀ i, i ≤ s.size → ((bts s).take i).foldl stepS ([], []) = ((prt s i).map (fun x => bts (piece s x)), ((bts s).take i).drop (frm s i))
  | 0, _ => by simp [prt, frm]
  | i + 1, h => by
    have hi : i < (bts s).length := by rw [bts_len]; omega
    have ih := split_inv s i (by omega)
    rw [List.take_succ_eq_append_getElem hi, List.foldl_append, ih]
    have hb := bl_get s i (by omega)
    have hf := frm_le s i
    have hl : ((bts s).take i).length = i := by rw [List.length_take]; omega
    by_cases h32 : ((bts s)[i]).toNat = 32
    · rw [decide_eq_true h32] at hb
      rw [prt, if_pos hb, frm, if_pos hb]
      simp only [List.foldl_cons, List.foldl_nil, stepS, h32, if_true, List.map_append, List.map_cons, List.map_nil]
      refine Prod.ext ?_ ?_
      · show _ ++ [_] = _ ++ [bts (s.extract (frm s i) i)]
        rw [bts_cut]
      · show [] = _
        rw [List.drop_eq_nil_of_le (by simp; omega)]
    · rw [decide_eq_false h32] at hb
      rw [prt, if_neg (by rw [hb]; simp), frm, if_neg (by rw [hb]; simp)]
      simp only [List.foldl_cons, List.foldl_nil, stepS, h32, if_false]
      rw [List.drop_append_of_le_length (by omega)]
theorem parts_split (s : ByteArray) : (parts s).map (fun x => bts (piece s x)) = splitL (bts s) := by
  have h := split_inv s s.size (Nat.le_refl _)
  have ht : (bts s).take s.size = bts s := by rw [← bts_len, List.take_length]
  rw [ht] at h
  rw [splitL, h, fin, parts, List.map_append]
  simp only [List.map_cons, List.map_nil]
  congr 2
  show bts (s.extract (frm s s.size) s.size) = _
  rw [bts_cut, ht]
theorem fold_word (a : List UInt8) (h : ∀ c ∈ a, c.toNat ≠ 32) (d : List (List UInt8)) (c : List UInt8) : a.foldl stepS (d, c) = (d, c ++ a) := by
  induction a generalizing c with
  | nil => simp
  | cons x a ih =>
    have hx : x.toNat ≠ 32 := h x (by simp)
    rw [List.foldl_cons, stepS, if_neg hx, ih (fun c hc => h c (by simp [hc]))]
    simp
theorem split_words (xs : List Int) (h : ∀ x ∈ xs, ∀ c ∈ Lib.itoa x, c.toNat ≠ 32) (d : List (List UInt8)) (c : List UInt8) : fin ((xs.flatMap ltL).foldl stepS (d, c)) = d ++ c :: xs.map Lib.itoa := by
  induction xs generalizing d c with
  | nil => simp [fin]
  | cons x xs ih =>
    rw [List.flatMap_cons, List.foldl_append]
    have e : (ltL x).foldl stepS (d, c) = (d ++ [c], Lib.itoa x) := by
      rw [ltL, List.foldl_cons, stepS, if_pos (by rfl), fold_word _ (h x (by simp))]
      simp
    rw [e, ih (fun y hy => h y (by simp [hy]))]
    simp

/-- The digits of a number are no blanks and no colons. -/
theorem itoa_plain {x : Int} (h : -100 ≤ x ∧ x ≤ 100) : (∀ c ∈ Lib.itoa x, c.toNat ≠ 32 ∧ c.toNat ≠ 58) ∧ Lib.itoa x ≠ [] := by
  have hr := nu.rd_itoa x (by omega) (by omega)
  obtain ⟨h1, h2, h3, _⟩ := nu.rd_parts hr
  generalize Lib.itoa x = l at *
  have hd : ∀ c ∈ nu.rest l, c.toNat ≠ 32 ∧ c.toNat ≠ 58 := by
    intro c hc
    have := List.all_eq_true.1 h2 c hc
    simp only [nu.isD, decide_eq_true_eq] at this
    omega
  unfold nu.rest at hd h1
  cases l with
  | nil => simp at h1
  | cons a l =>
    refine ⟨?_, by simp⟩
    by_cases ha : a = 45
    · subst ha
      simp only [List.head?_cons, if_true, List.tail_cons] at hd
      intro c hc
      rcases List.mem_cons.1 hc with rfl | hc
      · exact ⟨by decide, by decide⟩
      · exact hd c hc
    · rw [if_neg (by simpa using ha)] at hd
      exact hd

/-- The text s is that of a braid. -/
def RB (s : ByteArray) (n : Int) (xs : List Int) : Prop := okB n xs = true ∧ s = ba (btL n xs xs.length)
def hdOf (s : ByteArray) : List UInt8 := ((splitL (bts s)).headD []).dropLast
def tlOf (s : ByteArray) : List (List UInt8) := (splitL (bts s)).tail
def rN (s : ByteArray) : Int := nu.rdN (hdOf s)
def rX (s : ByteArray) : List Int := (tlOf s).map nu.rdN
def rbQ (s : ByteArray) : Bool := okB (rN s) (rX s) && decide (s = ba (btL (rN s) (rX s) (rX s).length))
def rbN (s : ByteArray) : Int := if rbQ s = true then rN s else 0
def rbX (s : ByteArray) : List Int := if rbQ s = true then rX s else []
theorem rb_true {s : ByteArray} (h : rbQ s = true) : RB s (rN s) (rX s) := by
  simp only [rbQ, Bool.and_eq_true, decide_eq_true_eq] at h
  exact h
theorem rd_at {x : Int} (h : -100 ≤ x ∧ x ≤ 100) : nu.rdOk (Lib.itoa x) = true ∧ nu.rdN (Lib.itoa x) = x := by
  have hr := nu.rd_itoa x (by omega) (by omega)
  refine ⟨hr, ?_⟩
  rw [nu.rdN, if_pos hr, nu.num_itoa x (by omega) (by omega)]
theorem mem_small {n : Int} {xs : List Int} (h : okB n xs = true) : ∀ x ∈ xs, -100 ≤ x ∧ x ≤ 100 := by
  intro x hx
  obtain ⟨_, _, h3⟩ := bt.ok_small h
  obtain ⟨j, hj, rfl⟩ := List.getElem_of_mem hx
  have := h3 j hj
  rw [List.getD_eq_getElem?_getD, List.getElem?_eq_getElem hj] at this
  exact this
theorem bt_all (n : Int) (xs : List Int) : btL n xs xs.length = hdL n ++ xs.flatMap ltL := by rw [btL, List.take_length]
/-- The words of a braid's text. -/
theorem rb_split {s : ByteArray} {n : Int} {xs : List Int} (h : RB s n xs) : splitL (bts s) = hdL n :: xs.map Lib.itoa := by
  obtain ⟨h1, rfl⟩ := h
  have hn := (bt.ok_small h1).1
  have e : bts (ba (btL n xs xs.length)) = hdL n ++ xs.flatMap ltL := by rw [← bt_all]; exact ba_list _
  rw [e, splitL, List.foldl_append, fold_word (hdL n) (by
    intro c hc
    rcases List.mem_append.1 hc with h | h
    · exact ((itoa_plain hn).1 c h).1
    · obtain rfl : c = 58 := by simpa using h
      decide), split_words xs (fun x hx c hc => ((itoa_plain (mem_small h1 x hx)).1 c hc).1)]
  simp
theorem rb_read {s : ByteArray} {n : Int} {xs : List Int} (h : RB s n xs) : hdOf s = Lib.itoa n ∧ tlOf s = xs.map Lib.itoa ∧ rN s = n ∧ rX s = xs ∧ rbQ s = true := by
  have hs := rb_split h
  have hn := (bt.ok_small h.1).1
  have e1 : hdOf s = Lib.itoa n := by rw [hdOf, hs]; simp [hdL]
  have e2 : tlOf s = xs.map Lib.itoa := by rw [tlOf, hs]; rfl
  have e3 : rN s = n := by rw [rN, e1, (rd_at hn).2]
  have e4 : rX s = xs := by
    rw [rX, e2, List.map_map]
    have : ∀ x ∈ xs, (nu.rdN ∘ Lib.itoa) x = id x := fun x hx => (rd_at (mem_small h.1 x hx)).2
    rw [List.map_congr_left this, List.map_id]
  refine ⟨e1, e2, e3, e4, ?_⟩
  rw [rbQ, e3, e4, h.1, Bool.true_and, decide_eq_true_eq]
  exact h.2
/-- A text from which a number and letters come that do not write it is no braid's. -/
theorem rb_no {s : ByteArray} (h : ∀ n xs, ¬ RB s n xs) : rbQ s = false ∧ rbN s = 0 ∧ rbX s = [] := by
  have hq : rbQ s = false := by
    cases e : rbQ s
    · rfl
    · exact absurd (rb_true e) (h _ _)
  exact ⟨hq, by rw [rbN, hq]; rfl, by rw [rbX, hq]; rfl⟩
theorem rb_yes {s : ByteArray} {n : Int} {xs : List Int} (h : RB s n xs) : rbQ s = true ∧ rbN s = n ∧ rbX s = xs := by
  obtain ⟨_, _, e3, e4, hq⟩ := rb_read h
  exact ⟨hq, by rw [rbN, if_pos hq, e3], by rw [rbX, if_pos hq, e4]⟩
theorem rb_btx {s : ByteArray} {n : Int} {xs : List Int} (h0 : 0 < s.size) (h : btx n xs = s) : RB s n xs := by
  cases hq : okB n xs
  · rw [btx_no hq] at h; subst h; exact absurd h0 (by decide)
  · rw [btx_yes hq] at h; exact ⟨hq, h.symm⟩
theorem btx_rb {s : ByteArray} {n : Int} {xs : List Int} (h : RB s n xs) : btx n xs = s := by rw [btx_yes h.1, ← h.2]
theorem rb_len {s : ByteArray} : (rbX s).length ≤ 40 := by
  unfold rbX
  split
  · rename_i h; exact (bt.ok_small (rb_true h).1).2.1
  · simp
end Go.Proofs.YtbonccflocogbaaDoor.rb
