/-
  Moves: valid ones, their distances (both sides); MoveLength of both sides.
-/
import Derived.Test.YtbbnheiibkcgiaaPl0
import Derived.Test.YtbbnheiibkcgiaaMv5
import Derived.Test.YtbbnheiibkcgiaaEx
namespace Go.Proofs.Ytbbnheiibkcgiaa.mo
open Go.RowKit Go.Sort Go.Proofs.Ytbbnheiibkcgiaa.sl Go.Proofs.Ytbbnheiibkcgiaa.pm
set_option linter.unusedVariables false

/-- A valid move; its distance. -/
def mvB (a b : Int) : Bool := decide (0 ≤ a ∧ a ≤ 23) && (decide (0 ≤ b ∧ b ≤ 23) && (decide (1 ≤ b - a ∨ 1 ≤ a - b) && (decide (b - a ≤ 3) && decide (a - b ≤ 3))))
def dsI (a b : Int) : Int := if a ≤ b then b - a else a - b
theorem mv_iff {a b : Int} : mvB a b = true ↔ (0 ≤ a ∧ a ≤ 23) ∧ (0 ≤ b ∧ b ≤ 23) ∧ (1 ≤ b - a ∨ 1 ≤ a - b) ∧ b - a ≤ 3 ∧ a - b ≤ 3 := by
  simp only [mvB, Bool.and_eq_true, decide_eq_true_eq]
theorem mv_no {a b : Int} (h : ¬ ((0 ≤ a ∧ a ≤ 23) ∧ (0 ≤ b ∧ b ≤ 23) ∧ (1 ≤ b - a ∨ 1 ≤ a - b) ∧ b - a ≤ 3 ∧ a - b ≤ 3)) : mvB a b = false := by
  cases hm : mvB a b
  · rfl
  · exact absurd (mv_iff.1 hm) h

theorem within64R (c lo hi : Int) (q : Bool) (hq : decide (lo ≤ c ∧ c ≤ hi) = q) (w : World) : Calls Try.prog 37 #[.int .i64 c, .int .i64 lo, .int .i64 hi] w fun e w' => e = .returned (.bool q) ∧ w = w' := by
  subst hq; exact (pm.within64 c lo hi w).mono fun _ _ h => ⟨by rw [h.1], h.2⟩
theorem specInR (c lo hi : Int) (q : Bool) (hq : decide (lo ≤ c ∧ c ≤ hi) = q) (w : World) : Calls Try.prog 35 #[.int .i64 c, .int .i64 lo, .int .i64 hi] w fun e w' => e = .returned (.bool q) ∧ w = w' := by
  subst hq; exact (pm.specIn c lo hi w).mono fun _ _ h => ⟨by rw [h.1], h.2⟩

theorem dist (a b : Int) (h : (0 ≤ a ∧ a ≤ 23) ∧ (0 ≤ b ∧ b ≤ 23)) (w : World) : Calls Try.prog 62 #[.agg #[.int .i64 a, .int .i64 b]] w fun e w' => e = .returned (.int .i64 (dsI a b)) ∧ Below w.heap.size w w' := by
  have e1 : IntKind.i64.wrap (b - a) = b - a := IntWalk.i64_in _ (by omega)
  have e2 : IntKind.i64.wrap (a - b) = a - b := IntWalk.i64_in _ (by omega)
  have hb := (Below.refl w.heap.size w).alloc (Nat.le_refl _) (.cells #[.int .i64 a, .int .i64 b] 33)
  clear h
  go_enter Try.func62, Try.ntmps62
  go_wp2
  · go_ret
    exact ⟨by rw [show dsI a b = a - b from by unfold dsI; split <;> omega]; rfl, hb⟩
  · go_ret
    exact ⟨by rw [show dsI a b = b - a from by unfold dsI; split <;> omega]; rfl, hb⟩

theorem isVal (a b : Int) (w : World) : Calls Try.prog 43 #[.agg #[.int .i64 a, .int .i64 b]] w fun e w' => e = .returned (.bool (mvB a b)) ∧ Below w.heap.size w w' := by
  have hb := (Below.refl w.heap.size w).alloc (Nat.le_refl _) (.cells #[.int .i64 a, .int .i64 b] 33)
  have HB := hid hb
  clear hb
  by_cases ha : 0 ≤ a ∧ a ≤ 23
  · have H1 := hid (frontQ a true (decide_eq_true ha))
    by_cases hb2 : 0 ≤ b ∧ b ≤ 23
    · have H2 := hid (frontQ b true (decide_eq_true hb2))
      have HD := hid (dist a b ⟨ha, hb2⟩)
      obtain ⟨q, hq⟩ : ∃ q, decide (1 ≤ dsI a b ∧ dsI a b ≤ 3) = q := ⟨_, rfl⟩
      have HW := hid (within64R (dsI a b) 1 3 q hq)
      have HF : Hid (mvB a b = q) := hid (by
        rw [← hq]
        by_cases h : 1 ≤ dsI a b ∧ dsI a b ≤ 3
        · rw [decide_eq_true h]; unfold dsI at h; exact mv_iff.2 (by split at h <;> omega)
        · rw [decide_eq_false h]; unfold dsI at h; exact mv_no (by split at h <;> omega))
      clear ha hb2 hq
      generalize dsI a b = d at *
      go_enter Try.func43, Try.ntmps43
      go_wp2_with fail
      refine (H1.out _).mono ?_
      rintro e w1 ⟨rfl, rfl⟩
      go_wp2_with fail
      refine (H2.out _).mono ?_
      rintro e w1 ⟨rfl, rfl⟩
      go_wp2_with fail
      refine (HD.out _).mono ?_
      rintro e w1 ⟨rfl, b1⟩
      have HB1 := hid (HB.out.trans (b1.mono HB.out.size))
      clear b1
      go_wp2_with fail
      refine (HW.out _).mono ?_
      rintro e w2 ⟨rfl, rfl⟩
      go_wp2
      go_ret
      exact ⟨by rw [HF.out]; cases q <;> rfl, HB1.out⟩
    · have H2 := hid (frontQ b false (decide_eq_false hb2))
      have HF : Hid (mvB a b = false) := hid (mv_no (fun h => hb2 h.2.1))
      clear ha hb2
      go_enter Try.func43, Try.ntmps43
      go_wp2_with fail
      refine (H1.out _).mono ?_
      rintro e w1 ⟨rfl, rfl⟩
      go_wp2_with fail
      refine (H2.out _).mono ?_
      rintro e w1 ⟨rfl, rfl⟩
      go_wp2
      go_ret
      exact ⟨by rw [HF.out]; rfl, HB.out⟩
  · have H1 := hid (frontQ a false (decide_eq_false ha))
    have HF : Hid (mvB a b = false) := hid (mv_no (fun h => ha h.1))
    clear ha
    go_enter Try.func43, Try.ntmps43
    go_wp2_with fail
    refine (H1.out _).mono ?_
    rintro e w1 ⟨rfl, rfl⟩
    go_wp2
    go_ret
    exact ⟨by rw [HF.out]; rfl, HB.out⟩

theorem specMv (a b : Int) (w : World) : Calls Try.prog 41 #[.agg #[.int .i64 a, .int .i64 b]] w fun e w' => e = .returned (.bool (mvB a b)) ∧ Below w.heap.size w w' := by
  have hb := (Below.refl w.heap.size w).alloc (Nat.le_refl _) (.cells #[.int .i64 a, .int .i64 b] 33)
  have HB := hid hb
  clear hb
  by_cases ha : 0 ≤ a ∧ a ≤ 23
  · have H1 := hid (specInR a 0 23 true (decide_eq_true ha))
    by_cases hb2 : 0 ≤ b ∧ b ≤ 23
    · have H2 := hid (specInR b 0 23 true (decide_eq_true hb2))
      have e1 : IntKind.i64.wrap (b - a) = b - a := IntWalk.i64_in _ (by omega)
      by_cases hne : a = b
      · have HF : Hid (mvB a b = false) := hid (mv_no (by omega))
        have hd : (a != b) = false := by simpa using hne
        clear ha hb2 hne
        go_enter Try.func41, Try.ntmps41
        go_wp2_with fail
        refine (H1.out _).mono ?_
        rintro e w1 ⟨rfl, rfl⟩
        go_wp2_with fail
        refine (H2.out _).mono ?_
        rintro e w1 ⟨rfl, rfl⟩
        go_wp2
        go_ret
        exact ⟨by rw [HF.out]; rfl, HB.out⟩
      · have hd : (a != b) = true := by simpa using hne
        have hd2 : (a == b) = false := by simpa using hne
        obtain ⟨q, hq⟩ : ∃ q, decide (-3 ≤ b - a ∧ b - a ≤ 3) = q := ⟨_, rfl⟩
        have HW := hid (specInR (b - a) (-3) 3 q hq)
        have HF : Hid (mvB a b = q) := hid (by
          rw [← hq]
          by_cases h : -3 ≤ b - a ∧ b - a ≤ 3
          · rw [decide_eq_true h]; exact mv_iff.2 (by omega)
          · rw [decide_eq_false h]; exact mv_no (by omega))
        clear ha hb2 hq hne
        go_enter Try.func41, Try.ntmps41
        go_wp2_with fail
        refine (H1.out _).mono ?_
        rintro e w1 ⟨rfl, rfl⟩
        go_wp2_with fail
        refine (H2.out _).mono ?_
        rintro e w1 ⟨rfl, rfl⟩
        go_wp2_with fail
        refine (HW.out _).mono ?_
        rintro e w1 ⟨rfl, rfl⟩
        go_wp2
        go_ret
        exact ⟨by rw [HF.out]; cases q <;> rfl, HB.out⟩
    · have H2 := hid (specInR b 0 23 false (decide_eq_false hb2))
      have HF : Hid (mvB a b = false) := hid (mv_no (fun h => hb2 h.2.1))
      clear ha hb2
      go_enter Try.func41, Try.ntmps41
      go_wp2_with fail
      refine (H1.out _).mono ?_
      rintro e w1 ⟨rfl, rfl⟩
      go_wp2_with fail
      refine (H2.out _).mono ?_
      rintro e w1 ⟨rfl, rfl⟩
      go_wp2
      go_ret
      exact ⟨by rw [HF.out]; rfl, HB.out⟩
  · have H1 := hid (specInR a 0 23 false (decide_eq_false ha))
    have HF : Hid (mvB a b = false) := hid (mv_no (fun h => ha h.1))
    clear ha
    go_enter Try.func41, Try.ntmps41
    go_wp2_with fail
    refine (H1.out _).mono ?_
    rintro e w1 ⟨rfl, rfl⟩
    go_wp2
    go_ret
    exact ⟨by rw [HF.out]; rfl, HB.out⟩
end Go.Proofs.Ytbbnheiibkcgiaa.mo
