/-
  Charts in words: loops on all columns behind each stitch; the stacks after all rows.
-/
import Derived.Test.YtbbnheiibkcgiabDoorKn4
import Derived.Test.YtbbnheiibkcgiabDoorVr5
import Derived.Test.YtbbnheiibkcgiabDoorKn5
namespace Go.Proofs.YtbbnheiibkcgiabDoor.cx
open Go.Proofs.YtbbnheiibkcgiabDoor.bw Go.Proofs.YtbbnheiibkcgiabDoor.st Go.Proofs.YtbbnheiibkcgiabDoor.ro
set_option linter.unusedVariables false

theorem foldl_add (xs : List Int) : ∀ a : Int, xs.foldl (· + ·) a = a + xs.foldl (· + ·) 0 := by
  induction xs with
  | nil => intro a; simp
  | cons x xs ih => intro a; simp only [List.foldl_cons]; rw [ih (a + x), ih (0 + x)]; omega
theorem sumL_app (xs ys : List Int) : sumL (xs ++ ys) = sumL xs + sumL ys := by
  unfold sumL
  rw [List.foldl_append, foldl_add ys]
def dl (ss ks : List Int) (i : Nat) : Int := sumL (mdn ss ks i) - sumL (tkn ss ks i)
def gl (ss ks : List Int) (i : Nat) : Int := sumL (aftTo ss ks i) - sumL (ss.take (off ks i))
theorem gl_succ {ss ks : List Int} (hF : kn.Fit ss ks) (i : Nat) (h : i < ks.length) : gl ss ks (i + 1) = gl ss ks i + dl ss ks i := by
  have e : ss.take (off ks (i + 1)) = ss.take (off ks i) ++ tkn ss ks i := by
    rw [off_succ hF.kn i h, List.take_add]; rfl
  rw [gl, gl, dl, aftTo_succ, sumL_app, e, sumL_app]
  omega
theorem gl_zero (ss ks : List Int) : gl ss ks 0 = 0 := rfl
theorem gl_end {ss ks : List Int} (hF : kn.Fit ss ks) : gl ss ks ks.length = sumL (aftTo ss ks ks.length) - sumL ss := by
  have h1 := off_nat hF.kn ks.length (Nat.le_refl _)
  rw [sF_all, hF.tot] at h1
  have : off ks ks.length = ss.length := by omega
  rw [gl, this, List.take_length]
/-- The stitch that is made in place q. -/
def ix (d : Int) (n q : Nat) : Nat := if d = -1 then n - 1 - q else q
def lpTo (d : Int) (ss ks : List Int) : Nat → Int
  | 0 => sumL ss
  | q + 1 => lpTo d ss ks q + dl ss ks (ix d ks.length q)
def lowTo (d : Int) (ss ks : List Int) (q : Nat) : Bool := (List.range q).all fun r => decide (lpTo d ss ks (r + 1) ≤ 12)
def lw (d : Int) (ss ks : List Int) : Bool := lowTo d ss ks ks.length
theorem lowTo_succ (d : Int) (ss ks : List Int) (q : Nat) : lowTo d ss ks (q + 1) = (lowTo d ss ks q && decide (lpTo d ss ks (q + 1) ≤ 12)) := by simp [lowTo, List.range_succ]
theorem low_bad {d : Int} {ss ks : List Int} {q n : Nat} (h : ¬ lpTo d ss ks (q + 1) ≤ 12) (hq : q < n) : lowTo d ss ks n = false := by
  rw [lowTo, List.all_eq_false]
  exact ⟨q, by simpa using hq, by simpa using h⟩
theorem low_good {d : Int} {ss ks : List Int} {n : Nat} (h : ∀ q, q < n → lpTo d ss ks (q + 1) ≤ 12) : lowTo d ss ks n = true := by
  rw [lowTo, List.all_eq_true]
  intro q hq
  simpa using h q (by simpa using hq)
theorem low_at {d : Int} {ss ks : List Int} {n : Nat} (h : lowTo d ss ks n = true) (q : Nat) (hq : q < n) : lpTo d ss ks (q + 1) ≤ 12 := by
  rw [lowTo, List.all_eq_true] at h
  simpa using h q (by simpa using hq)
theorem lp_eq {ss ks : List Int} (hF : kn.Fit ss ks) (d : Int) : ∀ q, q ≤ ks.length → lpTo d ss ks q = sumL ss + (if d = -1 then gl ss ks ks.length - gl ss ks (ks.length - q) else gl ss ks q)
  | 0, _ => by
    rw [lpTo, gl_zero]
    split
    · rw [Nat.sub_zero]; omega
    · omega
  | q + 1, h => by
    rw [lpTo, lp_eq hF d q (by omega)]
    by_cases hd : d = -1
    · simp only [hd, if_true, ix]
      have := gl_succ hF (ks.length - 1 - q) (by omega)
      rw [show ks.length - 1 - q + 1 = ks.length - q from by omega] at this
      rw [show ks.length - (q + 1) = ks.length - 1 - q from by omega]
      omega
    · simp only [hd, if_false, ix]
      have := gl_succ hF q (by omega)
      omega
theorem lp_end {ss ks : List Int} (hF : kn.Fit ss ks) (d : Int) : lpTo d ss ks ks.length = sumL (aftTo ss ks ks.length) := by
  rw [lp_eq hF d _ (Nat.le_refl _), gl_end hF, Nat.sub_self, gl_zero]
  split <;> omega
/-- The most loops up to place q. -/
def mxTo (d : Int) (ss ks : List Int) : Nat → Int
  | 0 => sumL ss
  | q + 1 => max (mxTo d ss ks q) (lpTo d ss ks (q + 1))
theorem mx_le (d : Int) (ss ks : List Int) (h0 : sumL ss ≤ 12) : ∀ q, decide (mxTo d ss ks q ≤ 12) = lowTo d ss ks q
  | 0 => by simp [mxTo, lowTo, h0]
  | q + 1 => by
    rw [lowTo_succ, ← mx_le d ss ks h0 q, mxTo]
    have : (max (mxTo d ss ks q) (lpTo d ss ks (q + 1)) ≤ 12) ↔ (mxTo d ss ks q ≤ 12 ∧ lpTo d ss ks (q + 1) ≤ 12) := by omega
    by_cases h1 : mxTo d ss ks q ≤ 12 <;> by_cases h2 : lpTo d ss ks (q + 1) ≤ 12 <;> simp [this, h1, h2]

/-! ### Sizes -/
/-- Stitches that are made without an error. -/
structure Good (ss ks : List Int) : Prop extends kn.Fit ss ks where
  el : ∀ i, i < ks.length → ∀ q, q < (mdn ss ks i).length → 1 ≤ (mdn ss ks i).getD q 0 ∧ (mdn ss ks i).getD q 0 ≤ 4
  out : stks (aftTo ss ks ks.length) = true
theorem good_of {ss ks : List Int} (h : saC ss ks = 0) : Good ss ks := by
  obtain ⟨h1, h2, h3, h4, h5⟩ := kn.sa0 h
  have hF := kn.fit_of h1 h2 h3
  have hb := bad_split hF.kn hF.tot hF.st ks.length (Nat.le_refl _)
  rw [h5] at hb
  have hl := sa_last h1 h2 h3
  rw [h] at hl
  have hout : stks (aftTo ss ks ks.length) = true := by
    cases hh : stks (aftTo ss ks ks.length)
    · rw [hh] at hl; simp at hl
    · rfl
  refine ⟨hF, fun i hi q hq => ?_, hout⟩
  have hm : (mdn ss ks i).getD q 0 ∈ aftTo ss ks ks.length := by
    rw [aftTo, List.mem_flatMap]
    refine ⟨i, by simpa using hi, ?_⟩
    rw [show (mdn ss ks i).getD q 0 = (mdn ss ks i)[q] from by simp [List.getD, List.getElem?_eq_getElem hq]]
    exact List.getElem_mem hq
  have ha : (aftTo ss ks ks.length).all stk = true := by
    have := (stks_short (stks_parts hout).1)
    rw [← this]; exact hout
  have := List.all_eq_true.1 ha _ hm
  simpa [stk] using this
theorem sum8 (ts : List Int) (hn : ts.length ≤ 8) (hb : ∀ q, q < ts.length → 1 ≤ ts.getD q 0 ∧ ts.getD q 0 ≤ 4) : 0 ≤ sumL ts ∧ sumL ts ≤ 32 := by
  have h := sF_bound id ts (fun j hj => by have := hb j hj; exact ⟨by show 0 ≤ ts.getD j 0; omega, by show ts.getD j 0 ≤ 4; omega⟩) ts.length (Nat.le_refl _)
  rw [sF_all] at h
  simp only [List.map_id_fun, id_eq] at h
  omega
theorem Good.mlen {ss ks : List Int} (h : Good ss ks) (i : Nat) (hi : i < ks.length) : (mdn ss ks i).length ≤ 8 := by
  have h2 := h.kn i hi
  have h3 := mkC_len h2 (tkn ss ks i)
  have h4 := md_bound h2
  rw [mdn]; omega
theorem Good.tlen {ss ks : List Int} (h : Good ss ks) (i : Nat) (hi : i < ks.length) : (tkn ss ks i).length ≤ 8 := by
  have h2 := h.kn i hi
  have h3 := tkn_len h.kn h.tot i hi
  have h4 := tk_bound h2
  omega
theorem Good.tel {ss ks : List Int} (h : Good ss ks) (i : Nat) (hi : i < ks.length) : ∀ q, q < (tkn ss ks i).length → 1 ≤ (tkn ss ks i).getD q 0 ∧ (tkn ss ks i).getD q 0 ≤ 4 := fun q hq => by
  have h3 := tkn_len h.kn h.tot i hi
  rw [tkn_at h.kn h.tot i hi q (by rw [← h3.1]; exact hq)]
  exact h.st _ (by omega)
theorem Good.dl {ss ks : List Int} (h : Good ss ks) (i : Nat) (hi : i < ks.length) : -32 ≤ cx.dl ss ks i ∧ cx.dl ss ks i ≤ 32 := by
  have h1 := sum8 _ (h.mlen i hi) (h.el i hi)
  have h2 := sum8 _ (h.tlen i hi) (h.tel i hi)
  unfold cx.dl; omega
theorem Good.lp {ss ks : List Int} (h : Good ss ks) (d : Int) : ∀ q, q ≤ ks.length → -(32 * (q : Int)) ≤ lpTo d ss ks q ∧ lpTo d ss ks q ≤ 32 + 32 * (q : Int)
  | 0, _ => by
    have := sum8 ss h.s8 h.st
    rw [lpTo]; omega
  | q + 1, hq => by
    have h1 := h.lp d q (by omega)
    have h2 := h.dl (ix d ks.length q) (by unfold ix; split <;> omega)
    rw [lpTo]; omega

/-! ### Charts -/
def rowOk (now : List Int) (r : V) : Bool := vr5.rowB r.a0 r.a1 r.ps && (decide (saC now r.ps = 0) && lw r.a0 now r.ps)
def nowAt (c : Int) (rows : List V) : Nat → List Int
  | 0 => List.replicate c.toNat 1
  | i + 1 => saW (nowAt c rows i) (rows.getD i iz).ps
def okTo (c : Int) (rows : List V) (i : Nat) : Bool := (List.range i).all fun j => rowOk (nowAt c rows j) (rows.getD j iz)
def chB (c : Int) (rows : List V) : Bool := decide (1 ≤ c ∧ c ≤ 8) && (decide (1 ≤ rows.length ∧ rows.length ≤ 8) && okTo c rows rows.length)
def chL (c : Int) (rows : List V) (i : Nat) : List (List Int) := (List.range i).map fun j => nowAt c rows (j + 1)
def chW (c : Int) (rows : List V) : List (List Int) := if chB c rows then chL c rows rows.length else []
theorem chL_zero (c : Int) (rows : List V) : chL c rows 0 = [] := rfl
theorem chL_succ (c : Int) (rows : List V) (i : Nat) : chL c rows (i + 1) = chL c rows i ++ [nowAt c rows (i + 1)] := by simp [chL, List.range_succ]
theorem chL_len (c : Int) (rows : List V) (i : Nat) : (chL c rows i).length = i := by simp [chL]
theorem okTo_succ (c : Int) (rows : List V) (i : Nat) : okTo c rows (i + 1) = (okTo c rows i && rowOk (nowAt c rows i) (rows.getD i iz)) := by simp [okTo, List.range_succ]
theorem ok_bad {c : Int} {rows : List V} {i n : Nat} (h : rowOk (nowAt c rows i) (rows.getD i iz) = false) (hi : i < n) : okTo c rows n = false := by
  rw [okTo, List.all_eq_false]
  exact ⟨i, by simpa using hi, by rw [h]; simp⟩
theorem ones_ok (k : Nat) (h : k ≤ 8) : stks (List.replicate k 1) = true ∧ sumL (List.replicate k 1) = (k : Int) := by
  refine ⟨by simp [stks, stk]; omega, ?_⟩
  induction k with
  | zero => rfl
  | succ k ih => rw [List.replicate_succ', sumL_app, ih (by omega), sum1]; omega
/-- What holds ahead of each row. -/
theorem now_inv {c : Int} {rows : List V} (hc : 1 ≤ c ∧ c ≤ 8) : ∀ i, okTo c rows i = true → stks (nowAt c rows i) = true ∧ sumL (nowAt c rows i) ≤ 12
  | 0, _ => by
    have := ones_ok c.toNat (by omega)
    rw [nowAt]
    exact ⟨this.1, by rw [this.2]; omega⟩
  | i + 1, h => by
    rw [okTo_succ, Bool.and_eq_true] at h
    obtain ⟨h1, h2⟩ := h
    simp only [rowOk, Bool.and_eq_true, decide_eq_true_eq] at h2
    obtain ⟨_, h3, h4⟩ := h2
    have hg := good_of h3
    rw [nowAt, kn.saW_yes h3]
    refine ⟨hg.out, ?_⟩
    rw [← lp_end hg.toFit (rows.getD i iz).a0]
    cases hn : (rows.getD i iz).ps.length with
    | zero =>
      have := now_inv hc i h1
      rw [lpTo]; exact this.2
    | succ n =>
      rw [lw, hn] at h4
      exact low_at h4 n (by omega)
theorem row_len (c : Int) (rows : List V) (i : Nat) : (nowAt c rows (i + 1)).length ≤ 8 := by rw [nowAt]; exact kn.saW_len _ _
end Go.Proofs.YtbbnheiibkcgiabDoor.cx
