/-
  Pieces of row texts in words: which are valid, what they sum up to, the stitches that they make.
-/
import Derived.Test.YtiacfejileeieabDoorPc1
import Derived.Test.YtiacfejileeieabDoorSt0
namespace Go.Proofs.YtiacfejileeieabDoor.pc
open Go.Proofs.YtiacfejileeieabDoor.st
set_option linter.unusedVariables false

/-- How many of the pieces behind a piece it contains. -/
def ins (x : V) (r : List V) : Nat := (min (max x.a2 0) (r.length : Int)).toNat
theorem ins_le (x : V) (r : List V) : ins x r ≤ r.length := by unfold ins; omega
def grp (x : V) : Bool := decide (x.a0 = 12)
def opn (x : V) : Bool := grp x && decide (x.a1 = 0)
def vld (x : V) (g : Nat) : Bool := decide (g ≤ 3) && (decide (0 ≤ x.a1 ∧ x.a1 ≤ 16) && (if grp x then decide (0 < x.a2) && (decide (g = 0) || !opn x) else knd x.a0 && (decide (0 < x.a1) && decide (x.a2 = 0))))
/-- Pieces within so many groups are valid. -/
def arP (g : Nat) : List V → Bool
  | [] => true
  | x :: r => vld x g && (decide (x.a2 = (ins x r : Int)) && (arP (g + 1) (r.take (ins x r)) && arP g (r.drop (ins x r))))
termination_by xs => xs.length
decreasing_by
  · simp only [List.length_take, List.length_cons]; omega
  · simp only [List.length_drop, List.length_cons]; omega
theorem arP_nil (g : Nat) : arP g [] = true := by rw [arP]
theorem arP_cons (g : Nat) (x : V) (r : List V) : arP g (x :: r) = (vld x g && (decide (x.a2 = (ins x r : Int)) && (arP (g + 1) (r.take (ins x r)) && arP g (r.drop (ins x r))))) := by rw [arP]

/-! ### Outer pieces by their places -/
def inside (xs : List V) (k : Nat) : List V := (xs.drop (k + 1)).take (ins (xs.getD k oz) (xs.drop (k + 1)))
def nx (xs : List V) (k : Nat) : Nat := k + 1 + ins (xs.getD k oz) (xs.drop (k + 1))
theorem nx_gt (xs : List V) (k : Nat) : k < nx xs k := by unfold nx; omega
theorem nx_le (xs : List V) (k : Nat) (h : k < xs.length) : nx xs k ≤ xs.length := by
  have := ins_le (xs.getD k oz) (xs.drop (k + 1))
  rw [List.length_drop] at this
  unfold nx; omega
theorem inside_len (xs : List V) (k : Nat) : (inside xs k).length = ins (xs.getD k oz) (xs.drop (k + 1)) := by
  rw [inside, List.length_take, Nat.min_eq_left (ins_le _ _)]
theorem inside_lt (xs : List V) (k : Nat) (h : k < xs.length) : (inside xs k).length < xs.length := by
  have := ins_le (xs.getD k oz) (xs.drop (k + 1))
  rw [List.length_drop] at this
  rw [inside_len]; omega
theorem inside_at (xs : List V) (k j : Nat) (h : j < (inside xs k).length) : (inside xs k).getD j oz = xs.getD (k + 1 + j) oz := by
  rw [inside_len] at h
  unfold inside
  generalize ins (xs.getD k oz) (xs.drop (k + 1)) = m at *
  simp only [List.getD, List.getElem?_take, if_pos h, List.getElem?_drop]
def outs (xs : List V) (k : Nat) : List Nat := if h : k < xs.length then k :: outs xs (nx xs k) else []
termination_by xs.length - k
decreasing_by have := nx_gt xs k; omega
theorem outs_lt {xs : List V} {k : Nat} (h : k < xs.length) : outs xs k = k :: outs xs (nx xs k) := by rw [outs, dif_pos h]
theorem outs_ge {xs : List V} {k : Nat} (h : ¬ k < xs.length) : outs xs k = [] := by rw [outs, dif_neg h]
theorem drop_at {xs : List V} {k : Nat} (h : k < xs.length) : xs.drop k = xs.getD k oz :: xs.drop (k + 1) := by
  rw [List.drop_eq_getElem_cons h]; simp [List.getD, List.getElem?_eq_getElem h]
theorem outs_mem {xs : List V} : ∀ (n k : Nat), xs.length - k = n → ∀ p ∈ outs xs k, p < xs.length := by
  intro n
  induction n using Nat.strongRecOn with
  | _ n ih =>
    intro k hk p hp
    by_cases h : k < xs.length
    · rw [outs_lt h] at hp
      rcases List.mem_cons.1 hp with rfl | hp
      · exact h
      · exact ih (xs.length - nx xs k) (by have := nx_gt xs k; omega) (nx xs k) rfl p hp
    · rw [outs_ge h] at hp; cases hp
theorem outs_len {xs : List V} : ∀ (n k : Nat), xs.length - k = n → (outs xs k).length ≤ n := by
  intro n
  induction n using Nat.strongRecOn with
  | _ n ih =>
    intro k hk
    by_cases h : k < xs.length
    · rw [outs_lt h, List.length_cons]
      have h1 := nx_gt xs k
      have := ih (xs.length - nx xs k) (by omega) (nx xs k) rfl
      omega
    · rw [outs_ge h]; simp
/-- The piece at a place is valid, with what it contains. -/
def okAt (g : Nat) (xs : List V) (k : Nat) : Bool := vld (xs.getD k oz) g && (decide ((xs.getD k oz).a2 = ((inside xs k).length : Int)) && arP (g + 1) (inside xs k))
theorem arP_outs (g : Nat) (xs : List V) : ∀ (n k : Nat), xs.length - k = n → arP g (xs.drop k) = (outs xs k).all (okAt g xs) := by
  intro n
  induction n using Nat.strongRecOn with
  | _ n ih =>
    intro k hk
    by_cases h : k < xs.length
    · rw [outs_lt h, List.all_cons, drop_at h, arP_cons, List.drop_drop, okAt, inside_len]
      have := ih (xs.length - nx xs k) (by have := nx_gt xs k; omega) (nx xs k) rfl
      rw [show k + 1 + ins (xs.getD k oz) (xs.drop (k + 1)) = nx xs k from rfl, this]
      simp only [inside, Bool.and_assoc]
    · rw [outs_ge h, List.drop_eq_nil_of_le (by omega), arP_nil]; rfl

/-! ### The two counts of open groups -/
def opP : List V → Nat
  | [] => 0
  | x :: r => (if opn x then 1 else 0) + opP (r.drop (ins x r))
termination_by xs => xs.length
decreasing_by simp only [List.length_drop, List.length_cons]; omega
theorem opP_nil : opP [] = 0 := by rw [opP]
theorem opP_cons (x : V) (r : List V) : opP (x :: r) = (if opn x then 1 else 0) + opP (r.drop (ins x r)) := by rw [opP]
def cnt : List V → Nat
  | [] => 0
  | x :: r => (if opn x then 1 else 0) + cnt r
theorem cnt_app (xs ys : List V) : cnt (xs ++ ys) = cnt xs + cnt ys := by
  induction xs with
  | nil => simp [cnt]
  | cons x xs ih => simp only [List.cons_append, cnt, ih]; omega
theorem cnt_le (xs : List V) : cnt xs ≤ xs.length := by
  induction xs with
  | nil => simp [cnt]
  | cons x xs ih => simp only [cnt, List.length_cons]; split <;> omega
theorem vld_in {x : V} {g : Nat} (h : vld x g = true) (hg : 1 ≤ g) : opn x = false := by
  have h0 : decide (g = 0) = false := by simp; omega
  simp only [vld, Bool.and_eq_true, h0, Bool.false_or] at h
  cases ho : opn x
  · rfl
  · have hgr : grp x = true := by rw [opn, Bool.and_eq_true] at ho; exact ho.1
    rw [hgr, ho] at h
    simp at h
theorem cnt_in : ∀ (n : Nat) (xs : List V) (g : Nat), xs.length = n → 1 ≤ g → arP g xs = true → cnt xs = 0 := by
  intro n
  induction n using Nat.strongRecOn with
  | _ n ih =>
    intro xs g hn hg h
    cases xs with
    | nil => rfl
    | cons x r =>
      rw [List.length_cons] at hn
      rw [arP_cons] at h
      simp only [Bool.and_eq_true] at h
      obtain ⟨h1, h2, h3, h4⟩ := h
      have e1 := ih (r.take (ins x r)).length (by rw [List.length_take]; omega) _ (g + 1) rfl (by omega) h3
      have e2 := ih (r.drop (ins x r)).length (by rw [List.length_drop]; omega) _ g rfl hg h4
      rw [cnt, vld_in h1 hg]
      have e3 := cnt_app (r.take (ins x r)) (r.drop (ins x r))
      rw [List.take_append_drop] at e3
      simp; omega
theorem cnt_out : ∀ (n : Nat) (xs : List V), xs.length = n → arP 0 xs = true → cnt xs = opP xs := by
  intro n
  induction n using Nat.strongRecOn with
  | _ n ih =>
    intro xs hn h
    cases xs with
    | nil => rw [opP_nil]; rfl
    | cons x r =>
      rw [List.length_cons] at hn
      rw [arP_cons] at h
      simp only [Bool.and_eq_true] at h
      obtain ⟨h1, h2, h3, h4⟩ := h
      have e1 := cnt_in (r.take (ins x r)).length (r.take (ins x r)) 1 rfl (by omega) h3
      have e2 := ih (r.drop (ins x r)).length (by rw [List.length_drop]; omega) _ rfl h4
      have e3 := cnt_app (r.take (ins x r)) (r.drop (ins x r))
      rw [List.take_append_drop] at e3
      rw [cnt, opP_cons, ← e2]; omega
/-- Pieces are valid. -/
def okP (xs : List V) : Bool := decide (xs.length ≤ 24) && (arP 0 xs && decide (cnt xs ≤ 1))
theorem okP_open (xs : List V) : okP xs = (decide (xs.length ≤ 24) && (arP 0 xs && decide (opP xs ≤ 1))) := by
  unfold okP
  cases h : arP 0 xs
  · simp
  · rw [cnt_out _ xs rfl h]

/-! ### One piece, as the model asks -/
theorem ar_stitch {d : Nat} (hd : d ≤ 3) {x : V} {r : List V} (h : x.a0 ≠ 12) (h1 : knd x.a0 = true) (h2 : 1 ≤ x.a1 ∧ x.a1 ≤ 16) (h3 : x.a2 = 0) : ins x r = 0 ∧ arP d (x :: r) = arP d r ∧ opP (x :: r) = opP r := by
  have hi : ins x r = 0 := by unfold ins; rw [h3]; omega
  have hg : grp x = false := by simp [grp, h]
  have hv : vld x d = true := by
    simp only [vld, hg, h1, h3]
    simp; omega
  refine ⟨hi, ?_, ?_⟩
  · rw [arP_cons, hi, hv, h3, List.take_zero, List.drop_zero, arP_nil]; simp
  · rw [opP_cons, hi, List.drop_zero]; simp [opn, hg]
theorem ar_no {d : Nat} {x : V} {r : List V} (h : x.a0 ≠ 12) (hb : ¬ (knd x.a0 = true ∧ (1 ≤ x.a1 ∧ x.a1 ≤ 16) ∧ x.a2 = 0)) : arP d (x :: r) = false := by
  have hg : grp x = false := by simp [grp, h]
  have hv : vld x d = false := by
    cases hv : vld x d
    · rfl
    · exfalso
      simp only [vld, hg, Bool.and_eq_true, decide_eq_true_eq] at hv
      simp at hv
      exact hb ⟨hv.2.2.1, by omega, hv.2.2.2.2⟩
  rw [arP_cons, hv]; rfl
theorem ar_group {d : Nat} (hd : d < 3) {x : V} {r : List V} (h : x.a0 = 12) (h1 : 0 ≤ x.a1 ∧ x.a1 ≤ 16) (h2 : ¬ (x.a1 = 0 ∧ 0 < d)) (h3 : 1 ≤ x.a2 ∧ x.a2 ≤ (r.length : Int)) : (ins x r : Int) = x.a2 ∧ arP d (x :: r) = (arP (d + 1) (r.take x.a2.toNat) && arP d (r.drop x.a2.toNat)) ∧ opP (x :: r) = (if x.a1 = 0 then 1 else 0) + opP (r.drop x.a2.toNat) := by
  have hi : ins x r = x.a2.toNat := by unfold ins; omega
  have hg : grp x = true := by simp [grp, h]
  have hv : vld x d = true := by
    simp only [vld, hg, opn, if_true, Bool.and_eq_true, decide_eq_true_eq, Bool.or_eq_true, Bool.true_and]
    refine ⟨by omega, h1, by omega, ?_⟩
    by_cases h0 : d = 0
    · exact .inl h0
    · right; simp; omega
  refine ⟨by rw [hi]; omega, ?_, ?_⟩
  · rw [arP_cons, hv, hi]
    have : decide (x.a2 = (x.a2.toNat : Int)) = true := by simp; omega
    rw [this]; rfl
  · rw [opP_cons, hi, opn, hg]; simp
theorem ar_deep {y : V} {r : List V} : arP 4 (y :: r) = false := by
  rw [arP_cons]
  have : vld y 4 = false := by simp [vld]
  rw [this]; rfl
theorem ar_nogroup {d : Nat} (hd : d ≤ 3) {x : V} {r : List V} (h : x.a0 = 12) (hb : ¬ (d < 3 ∧ (0 ≤ x.a1 ∧ x.a1 ≤ 16) ∧ ¬ (x.a1 = 0 ∧ 0 < d) ∧ 1 ≤ x.a2 ∧ x.a2 ≤ (r.length : Int))) : arP d (x :: r) = false := by
  have hg : grp x = true := by simp [grp, h]
  cases ha : arP d (x :: r)
  · rfl
  · exfalso
    rw [arP_cons] at ha
    simp only [Bool.and_eq_true, decide_eq_true_eq] at ha
    obtain ⟨hv, h2, h3, h4⟩ := ha
    simp only [vld, hg, opn, if_true, Bool.and_eq_true, decide_eq_true_eq, Bool.or_eq_true, Bool.true_and] at hv
    obtain ⟨_, v1, v2, v3⟩ := hv
    have hil := ins_le x r
    have hz : ¬ (x.a1 = 0 ∧ 0 < d) := by
      rintro ⟨e1, e2⟩
      rcases v3 with v3 | v3
      · omega
      · simp [e1] at v3
    by_cases h3d : d = 3
    · subst h3d
      have hp : 0 < (r.take (ins x r)).length := by rw [List.length_take]; omega
      cases hr : r.take (ins x r) with
      | nil => rw [hr] at hp; simp at hp
      | cons y r' => rw [hr, ar_deep] at h3; cases h3
    · exact hb ⟨by omega, v1, hz, by omega, by omega⟩
end Go.Proofs.YtiacfejileeieabDoor.pc
