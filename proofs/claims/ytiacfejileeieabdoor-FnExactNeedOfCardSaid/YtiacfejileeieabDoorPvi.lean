/-
  ValidPieces of the program.
-/
import Derived.Test.YtiacfejileeieabDoorPit
import Derived.Test.YtiacfejileeieabDoorSt1
namespace Go.Proofs.YtiacfejileeieabDoor.pc
open Go.RowKit Go.Sort Go.Proofs.YtiacfejileeieabDoor.sl Go.Proofs.YtiacfejileeieabDoor.st
set_option linter.unusedVariables false
set_option linter.unusedSimpArgs false
set_option maxRecDepth 100000

theorem beqD (a b : Int) : (a == b) = decide (a = b) := by rw [Bool.eq_iff_iff]; simp
theorem isGroupC (x : V) (w : World) : Calls Tryd.prog 54 #[x.val] w fun e w' => e = .returned (.bool (grp x)) ∧ w' = w.alloc (.cells #[.int .i64 x.a0, .int .i64 x.a1, .int .i64 x.a2] 51) := by
  obtain ⟨x0, x1, x2⟩ := x
  simp only [V.val, grp]
  go_enter Tryd.func54, Tryd.ntmps54
  go_wp2
  go_ret
  exact ⟨rfl, rfl⟩
theorem isOpenC (x : V) (w : World) : Calls Tryd.prog 57 #[x.val] w fun e w' => e = .returned (.bool (opn x)) ∧ Below w.heap.size w w' := by
  have HG := hid (fun W => isGroupC x W)
  obtain ⟨q, hq⟩ : ∃ q, q = grp x := ⟨_, rfl⟩
  have hr : opn x = (q && decide (x.a1 = 0)) := by rw [opn, hq]
  rw [hr]
  rw [← hq] at HG
  obtain ⟨x0, x1, x2⟩ := x
  simp only [V.val] at HG ⊢
  clear hq hr
  have hb : Below w.heap.size w ((w.alloc (.cells #[.int .i64 x0, .int .i64 x1, .int .i64 x2] 51)).alloc (.cells #[.int .i64 x0, .int .i64 x1, .int .i64 x2] 51)) := ((Below.refl _ w).alloc (Nat.le_refl _) _).alloc (by simp) _
  cases q with
  | false =>
    go_enter Tryd.func57, Tryd.ntmps57
    go_wp2_with (go_at_call 54; refine (HG.out _).mono ?_; rintro e w1 ⟨rfl, rfl⟩)
    go_ret
    exact ⟨rfl, hb⟩
  | true =>
    go_enter Tryd.func57, Tryd.ntmps57
    go_wp2_with (go_at_call 54; refine (HG.out _).mono ?_; rintro e w1 ⟨rfl, rfl⟩)
    go_ret
    exact ⟨by simp [beqD], hb⟩

theorem validInC (x : V) (g : Nat) (hg : g ≤ 10) (w : World) : Calls Tryd.prog 75 #[x.val, .int .i64 (g : Int)] w fun e w' => e = .returned (.bool (vld x g)) ∧ Below w.heap.size w w' := by
  have HG := hid (fun W => isGroupC x W)
  have HO := hid (fun W => isOpenC x W)
  have HW := hid (fun W => show Calls Tryd.prog 45 #[.int .i64 x.a1, .int .i64 0, .int .i64 16] W fun e w' => e = .returned (.bool (decide (0 ≤ x.a1 ∧ x.a1 ≤ 16))) ∧ W = w' from pm.within64 x.a1 0 16 W)
  have HK := hid (fun W => st.implStitch x.a0 W)
  have HV : Hid (vld x g = (decide (g ≤ 3) && (decide (0 ≤ x.a1 ∧ x.a1 ≤ 16) && (if grp x then decide (0 < x.a2) && (decide (g = 0) || !opn x) else knd x.a0 && (decide (0 < x.a1) && decide (x.a2 = 0)))))) := hid rfl
  generalize vld x g = r at *
  generalize decide (0 ≤ x.a1 ∧ x.a1 ≤ 16) = qw at *
  generalize grp x = qg at *
  generalize opn x = qo at *
  generalize knd x.a0 = qk at *
  obtain ⟨x0, x1, x2⟩ := x
  simp only [V.val] at HG HO HW HK HV ⊢
  have hbx : Below w.heap.size w (w.alloc (.cells #[.int .i64 x0, .int .i64 x1, .int .i64 x2] 51)) := (Below.refl _ w).alloc (Nat.le_refl _) _
  by_cases h3 : g ≤ 3
  · have h3' : ¬ (3 : Int) < (g : Int) := by omega
    cases qw with
    | false =>
      go_enter Tryd.func75, Tryd.ntmps75
      go_wp2_with (go_at_call 45; refine (HW.out _).mono ?_; rintro e w1 ⟨rfl, rfl⟩)
      go_ret
      exact ⟨by rw [HV.out]; simp, hbx⟩
    | true =>
      cases qg with
      | true =>
        have hb2 : Below w.heap.size w ((w.alloc (.cells #[.int .i64 x0, .int .i64 x1, .int .i64 x2] 51)).alloc (.cells #[.int .i64 x0, .int .i64 x1, .int .i64 x2] 51)) := hbx.alloc (by simp) _
        by_cases h2 : 0 < x2
        · rcases Nat.eq_zero_or_pos g with rfl | h0p
          · go_enter Tryd.func75, Tryd.ntmps75
            go_wp2_with (first | (go_at_call 45; refine (HW.out _).mono ?_; rintro e w1 ⟨rfl, rfl⟩) | (go_at_call 54; refine (HG.out _).mono ?_; rintro e w1 ⟨rfl, rfl⟩))
            go_ret
            exact ⟨by rw [HV.out]; simp [h2], hb2⟩
          · have h0 : ¬ (g : Int) = 0 := by omega
            have h0' : ((g : Int) == 0) = false := by simp; omega
            go_enter Tryd.func75, Tryd.ntmps75
            go_wp2_with (first | (go_at_call 45; refine (HW.out _).mono ?_; rintro e w1 ⟨rfl, rfl⟩) | (go_at_call 54; refine (HG.out _).mono ?_; rintro e w1 ⟨rfl, rfl⟩) | (go_at_call 57; refine (HO.out _).mono ?_; rintro e w1 ⟨rfl, b1⟩; have HB := hid (hb2.trans (b1.mono hb2.size)); clear b1))
            go_ret
            exact ⟨by rw [HV.out]; have : ¬ g = 0 := by omega
                      simp [h3, h2, this, h0], HB.out⟩
        · go_enter Tryd.func75, Tryd.ntmps75
          go_wp2_with (first | (go_at_call 45; refine (HW.out _).mono ?_; rintro e w1 ⟨rfl, rfl⟩) | (go_at_call 54; refine (HG.out _).mono ?_; rintro e w1 ⟨rfl, rfl⟩))
          go_ret
          have h2d : decide (0 < x2) = false := by simp; omega
          exact ⟨by rw [HV.out, h2d]; simp, hb2⟩
      | false =>
        have hb2 : Below w.heap.size w ((w.alloc (.cells #[.int .i64 x0, .int .i64 x1, .int .i64 x2] 51)).alloc (.cells #[.int .i64 x0, .int .i64 x1, .int .i64 x2] 51)) := hbx.alloc (by simp) _
        cases qk with
        | false =>
          go_enter Tryd.func75, Tryd.ntmps75
          go_wp2_with (first | (go_at_call 45; refine (HW.out _).mono ?_; rintro e w1 ⟨rfl, rfl⟩) | (go_at_call 54; refine (HG.out _).mono ?_; rintro e w1 ⟨rfl, rfl⟩) | (go_at_call 55; refine (HK.out _).mono ?_; rintro e w1 ⟨rfl, rfl⟩))
          go_ret
          exact ⟨by rw [HV.out]; simp, hb2⟩
        | true =>
          by_cases h1 : 0 < x1
          · go_enter Tryd.func75, Tryd.ntmps75
            go_wp2_with (first | (go_at_call 45; refine (HW.out _).mono ?_; rintro e w1 ⟨rfl, rfl⟩) | (go_at_call 54; refine (HG.out _).mono ?_; rintro e w1 ⟨rfl, rfl⟩) | (go_at_call 55; refine (HK.out _).mono ?_; rintro e w1 ⟨rfl, rfl⟩))
            go_ret
            have h1d : decide (0 < x1) = true := by simp; omega
            exact ⟨by rw [HV.out, h1d]; simp [h3, beqD], hb2⟩
          · go_enter Tryd.func75, Tryd.ntmps75
            go_wp2_with (first | (go_at_call 45; refine (HW.out _).mono ?_; rintro e w1 ⟨rfl, rfl⟩) | (go_at_call 54; refine (HG.out _).mono ?_; rintro e w1 ⟨rfl, rfl⟩) | (go_at_call 55; refine (HK.out _).mono ?_; rintro e w1 ⟨rfl, rfl⟩))
            go_ret
            have h1d : decide (0 < x1) = false := by simp; omega
            exact ⟨by rw [HV.out, h1d]; simp [h3, beqD], hb2⟩
  · have h3' : (3 : Int) < (g : Int) := by omega
    go_enter Tryd.func75, Tryd.ntmps75
    go_wp2
    go_ret
    exact ⟨by rw [HV.out]; simp [h3], hbx⟩
end Go.Proofs.YtiacfejileeieabDoor.pc
