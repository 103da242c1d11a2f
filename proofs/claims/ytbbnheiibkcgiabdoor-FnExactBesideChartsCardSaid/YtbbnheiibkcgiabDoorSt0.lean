/-
  Stitches: what each kind takes, makes and mirrors; sums over lists of them; stacks after stitches.
-/
import Derived.Test.YtbbnheiibkcgiabDoorBrm
namespace Go.Proofs.YtbbnheiibkcgiabDoor.st
open Go.Proofs.YtbbnheiibkcgiabDoor.bw
set_option linter.unusedVariables false

def knd (k : Int) : Bool := decide (1 ≤ k ∧ k ≤ 11)
def tkT : List Int := [0, 1, 1, 0, 2, 2, 1, 1, 2, 2, 4, 4]
def mdT : List Int := [0, 1, 1, 1, 1, 1, 1, 1, 2, 2, 4, 4]
def miT : List Int := [0, 1, 2, 3, 5, 4, 6, 7, 9, 8, 11, 10]
def syT : List Int := [0, 107, 112, 111, 100, 101, 116, 115, 120, 121, 88, 89]
def tk (k : Int) : Int := if knd k then tkT.getD k.toNat 0 else -1
def md (k : Int) : Int := if knd k then mdT.getD k.toNat 0 else -1
def mi (k : Int) : Int := if knd k then miT.getD k.toNat 0 else 0
theorem knd_iff {k : Int} : knd k = true ↔ 1 ≤ k ∧ k ≤ 11 := by simp [knd]
theorem knd_no {k : Int} : knd k = false ↔ ¬ (1 ≤ k ∧ k ≤ 11) := by simp only [knd, decide_eq_false_iff_not]
theorem knd_nat {k : Int} (h : knd k = true) : ∃ j : Nat, k = (j : Int) ∧ 1 ≤ j ∧ j ≤ 11 := ⟨k.toNat, by have := knd_iff.1 h; omega, by have := knd_iff.1 h; omega, by have := knd_iff.1 h; omega⟩
theorem tk_at {j : Nat} (h : 1 ≤ j ∧ j ≤ 11) : tk (j : Int) = tkT.getD j 0 := by simp [tk, knd]; omega
theorem md_at {j : Nat} (h : 1 ≤ j ∧ j ≤ 11) : md (j : Int) = mdT.getD j 0 := by simp [md, knd]; omega
theorem mi_at {j : Nat} (h : 1 ≤ j ∧ j ≤ 11) : mi (j : Int) = miT.getD j 0 := by simp [mi, knd]; omega
theorem all12 (p : Nat → Prop) (h : ∀ j : Fin 12, p j.1) {j : Nat} (hj : j ≤ 11) : p j := h ⟨j, by omega⟩
theorem tk_bound {k : Int} (h : knd k = true) : 0 ≤ tk k ∧ tk k ≤ 4 := by
  obtain ⟨j, rfl, h1, h2⟩ := knd_nat h
  rw [tk_at ⟨h1, h2⟩]
  exact all12 (fun j => 0 ≤ tkT.getD j 0 ∧ tkT.getD j 0 ≤ 4) (by decide) h2
theorem md_bound {k : Int} (h : knd k = true) : 1 ≤ md k ∧ md k ≤ 4 := by
  obtain ⟨j, rfl, h1, h2⟩ := knd_nat h
  rw [md_at ⟨h1, h2⟩]
  exact all12 (fun j => 1 ≤ j → 1 ≤ mdT.getD j 0 ∧ mdT.getD j 0 ≤ 4) (by decide) h2 h1
theorem tk_any (k : Int) : -1 ≤ tk k ∧ tk k ≤ 4 := by
  cases h : knd k
  · simp [tk, h]
  · have := tk_bound h; omega
theorem md_any (k : Int) : -1 ≤ md k ∧ md k ≤ 4 := by
  cases h : knd k
  · simp [md, h]
  · have := md_bound h; omega

def lst (xs : List Int) : Bool := decide (xs.length ≤ 16) && xs.all knd
theorem lst_parts {xs : List Int} (h : lst xs = true) : xs.length ≤ 16 ∧ ∀ j, j < xs.length → knd (xs.getD j 0) = true := by
  simp only [lst, Bool.and_eq_true, decide_eq_true_eq, List.all_eq_true] at h
  refine ⟨h.1, fun j hj => h.2 _ ?_⟩
  rw [show xs.getD j 0 = xs[j] from by simp [List.getD, List.getElem?_eq_getElem hj]]
  exact List.getElem_mem hj
theorem lst_long {xs : List Int} (h : 16 < xs.length) : lst xs = false := by
  have : ¬ xs.length ≤ 16 := by omega
  simp [lst, this]
theorem lst_short {xs : List Int} (h : xs.length ≤ 16) : lst xs = xs.all knd := by simp [lst, h]
theorem all_bad {p : Int → Bool} {xs : List Int} (k : Nat) (h : k < xs.length) (hb : p (xs.getD k 0) = false) : xs.all p = false := by
  rw [List.all_eq_false]
  refine ⟨xs.getD k 0, ?_, by rw [hb]; simp⟩
  rw [show xs.getD k 0 = xs[k] from by simp [List.getD, List.getElem?_eq_getElem h]]
  exact List.getElem_mem h
theorem all_good {p : Int → Bool} {xs : List Int} (h : ∀ j, j < xs.length → p (xs.getD j 0) = true) : xs.all p = true := by
  rw [List.all_eq_true]
  intro x hx
  obtain ⟨j, hj, rfl⟩ := List.getElem_of_mem hx
  have := h j hj
  rwa [show xs.getD j 0 = xs[j] from by simp [List.getD, List.getElem?_eq_getElem hj]] at this

def tkS (xs : List Int) : Int := if lst xs then sumL (xs.map tk) else -1
def mdS (xs : List Int) : Int := if lst xs then sumL (xs.map md) else -1
theorem map_at (f : Int → Int) (xs : List Int) (k : Nat) (h : k < xs.length) : (xs.map f).getD k 0 = f (xs.getD k 0) := by simp [List.getD, List.getElem?_eq_getElem h]
/-- Sums of the first ones. -/
def sF (f : Int → Int) (xs : List Int) (k : Nat) : Int := sumTo (xs.map f) k
theorem sF_zero (f : Int → Int) (xs : List Int) : sF f xs 0 = 0 := rfl
theorem sF_succ (f : Int → Int) (xs : List Int) (k : Nat) (h : k < xs.length) : sF f xs (k + 1) = sF f xs k + f (xs.getD k 0) := by
  unfold sF; rw [sumTo_succ _ k (by simpa using h), map_at f xs k h]
theorem sF_all (f : Int → Int) (xs : List Int) : sF f xs xs.length = sumL (xs.map f) := by
  have := sumTo_all (xs.map f); rw [List.length_map] at this; exact this
theorem sF_bound (f : Int → Int) (xs : List Int) (hf : ∀ j, j < xs.length → 0 ≤ f (xs.getD j 0) ∧ f (xs.getD j 0) ≤ 4) : ∀ k, k ≤ xs.length → 0 ≤ sF f xs k ∧ sF f xs k ≤ 4 * (k : Int)
  | 0, _ => by simp [sF_zero]
  | k + 1, h => by
    have := sF_bound f xs hf k (by omega)
    have := hf k (by omega)
    rw [sF_succ f xs k (by omega)]
    omega
theorem sF_mono (f : Int → Int) (xs : List Int) (hf : ∀ j, j < xs.length → 0 ≤ f (xs.getD j 0)) : ∀ d k, k + d ≤ xs.length → sF f xs k ≤ sF f xs (k + d)
  | 0, _, _ => by simp
  | d + 1, k, h => by
    have h1 := sF_mono f xs hf d k (by omega)
    have h2 := hf (k + d) (by omega)
    rw [show k + (d + 1) = (k + d) + 1 from by omega, sF_succ f xs (k + d) (by omega)]
    omega

/-! ### Stacks after stitches -/
def stk (x : Int) : Bool := decide (1 ≤ x ∧ x ≤ 4)
def stks (xs : List Int) : Bool := decide (xs.length ≤ 8) && xs.all stk
theorem stks_long {xs : List Int} (h : 8 < xs.length) : stks xs = false := by
  have : ¬ xs.length ≤ 8 := by omega
  simp [stks, this]
theorem stks_short {xs : List Int} (h : xs.length ≤ 8) : stks xs = xs.all stk := by simp [stks, h]
theorem stks_parts {xs : List Int} (h : stks xs = true) : xs.length ≤ 8 ∧ ∀ j, j < xs.length → 1 ≤ xs.getD j 0 ∧ xs.getD j 0 ≤ 4 := by
  simp only [stks, Bool.and_eq_true, decide_eq_true_eq, List.all_eq_true] at h
  refine ⟨h.1, fun j hj => ?_⟩
  have := h.2 (xs.getD j 0) (by rw [show xs.getD j 0 = xs[j] from by simp [List.getD, List.getElem?_eq_getElem hj]]; exact List.getElem_mem hj)
  simpa [stk] using this

/-- The columns ahead of stitch i. -/
def off (ks : List Int) (i : Nat) : Nat := (sF tk ks i).toNat
/-- The stacks that stitch i takes. -/
def tkn (ss ks : List Int) (i : Nat) : List Int := (ss.drop (off ks i)).take (tk (ks.getD i 0)).toNat
/-- What a stitch makes of stacks. -/
def mkC (k : Int) (ts : List Int) : List Int := if k = 6 then [sumL ts + 1] else if k = 7 then [sumL ts] else List.replicate (md k).toNat 1
def badC (k : Int) (ts : List Int) : Bool := if k = 6 then !stk (sumL ts + 1) else if k = 4 ∨ k = 5 then !stk (sumL ts) else false
def mdn (ss ks : List Int) (i : Nat) : List Int := mkC (ks.getD i 0) (tkn ss ks i)
def aftTo (ss ks : List Int) (i : Nat) : List Int := (List.range i).flatMap (mdn ss ks)
def badTo (ss ks : List Int) (i : Nat) : Bool := (List.range i).any fun j => badC (ks.getD j 0) (tkn ss ks j)
theorem aftTo_zero (ss ks : List Int) : aftTo ss ks 0 = [] := rfl
theorem aftTo_succ (ss ks : List Int) (i : Nat) : aftTo ss ks (i + 1) = aftTo ss ks i ++ mdn ss ks i := by simp [aftTo, List.range_succ]
theorem badTo_zero (ss ks : List Int) : badTo ss ks 0 = false := rfl
theorem badTo_succ (ss ks : List Int) (i : Nat) : badTo ss ks (i + 1) = (badTo ss ks i || badC (ks.getD i 0) (tkn ss ks i)) := by simp [badTo, List.range_succ]
theorem badTo_mono {ss ks : List Int} {i j : Nat} (h : badTo ss ks i = true) (hij : i ≤ j) : badTo ss ks j = true := by
  simp only [badTo, List.any_eq_true, List.mem_range] at h ⊢
  obtain ⟨q, h1, h2⟩ := h
  exact ⟨q, by omega, h2⟩
/-- The code of StacksAfter. -/
def saC (ss ks : List Int) : Int :=
  if stks ss && lst ks then (if tkS ks = (ss.length : Int) then (if 8 < mdS ks then 5 else if badTo ss ks ks.length then 5 else 0) else 10) else 1
def saW (ss ks : List Int) : List Int := if saC ss ks = 0 then aftTo ss ks ks.length else []
theorem mkC_len {k : Int} (h : knd k = true) (ts : List Int) : ((mkC k ts).length : Int) = md k := by
  have := md_bound h
  unfold mkC
  split
  · rename_i e; subst e; rfl
  · split
    · rename_i e; subst e; rfl
    · simp; omega
theorem aftTo_len {ss ks : List Int} (hk : ∀ j, j < ks.length → knd (ks.getD j 0) = true) : ∀ i, i ≤ ks.length → ((aftTo ss ks i).length : Int) = sF md ks i
  | 0, _ => rfl
  | i + 1, h => by
    rw [aftTo_succ, List.length_append, sF_succ md ks i (by omega), ← aftTo_len (ss := ss) hk i (by omega), ← mkC_len (hk i (by omega)) (tkn ss ks i)]
    simp [mdn]
theorem off_nat {ks : List Int} (hk : ∀ j, j < ks.length → knd (ks.getD j 0) = true) (i : Nat) (h : i ≤ ks.length) : sF tk ks i = (off ks i : Int) := by
  have := (sF_bound tk ks (fun j hj => tk_bound (hk j hj)) i h).1
  unfold off; omega
theorem off_succ {ks : List Int} (hk : ∀ j, j < ks.length → knd (ks.getD j 0) = true) (i : Nat) (h : i < ks.length) : off ks (i + 1) = off ks i + (tk (ks.getD i 0)).toNat := by
  have h1 := off_nat hk i (by omega)
  have h2 := off_nat hk (i + 1) (by omega)
  rw [sF_succ tk ks i h] at h2
  have := tk_bound (hk i h)
  omega
theorem off_le {ss ks : List Int} (hk : ∀ j, j < ks.length → knd (ks.getD j 0) = true) (ht : sumL (ks.map tk) = (ss.length : Int)) (i : Nat) (h : i ≤ ks.length) : off ks i ≤ ss.length := by
  have h1 := off_nat hk i h
  have h2 := sF_mono tk ks (fun j hj => (tk_bound (hk j hj)).1) (ks.length - i) i (by omega)
  rw [show i + (ks.length - i) = ks.length from by omega, sF_all] at h2
  omega
theorem tkn_len {ss ks : List Int} (hk : ∀ j, j < ks.length → knd (ks.getD j 0) = true) (ht : sumL (ks.map tk) = (ss.length : Int)) (i : Nat) (h : i < ks.length) : (tkn ss ks i).length = (tk (ks.getD i 0)).toNat ∧ off ks i + (tk (ks.getD i 0)).toNat ≤ ss.length := by
  have h1 := off_le hk ht (i + 1) (by omega)
  rw [off_succ hk i h] at h1
  refine ⟨?_, h1⟩
  rw [tkn, List.length_take, List.length_drop]; omega
theorem tkn_at {ss ks : List Int} (hk : ∀ j, j < ks.length → knd (ks.getD j 0) = true) (ht : sumL (ks.map tk) = (ss.length : Int)) (i : Nat) (h : i < ks.length) (q : Nat) (hq : q < (tk (ks.getD i 0)).toNat) : (tkn ss ks i).getD q 0 = ss.getD (off ks i + q) 0 := by
  rw [tkn, List.getD, List.getElem?_take, if_pos hq, List.getElem?_drop]; rfl
end Go.Proofs.YtbbnheiibkcgiabDoor.st
