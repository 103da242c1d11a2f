/-
  isValidFor of the program.
-/
import Derived.Test.YtiacfejileeieaaEvm
namespace Go.Proofs.Ytiacfejileeieaa.ev
open Go.RowKit Go.Sort Go.Proofs.Ytiacfejileeieaa.sl Go.Proofs.Ytiacfejileeieaa.nd Go.Proofs.Ytiacfejileeieaa.vo
set_option linter.unusedVariables false
set_option linter.unusedSimpArgs false

theorem below_drewN (w : World) (n : Nat) : Below w.heap.size w (w.drewN n) := ⟨rfl, rfl, rfl, Nat.le_refl _, fun _ _ => rfl⟩

set_option maxRecDepth 100000 in
theorem implV1 (x1 x2 x3 x4 x5 n : Int) (w : World) (hn0 : 0 ≤ n) (hn1 : n ≤ 4000) : Calls Try.prog 126 #[(V.mk 1 x1 x2 x3 x4 x5).val, .int .i64 n] w fun e w' => e = .returned (.bool (evB n ⟨1, x1, x2, x3, x4, x5⟩)) ∧ Below w.heap.size w w' := by
  obtain ⟨q, hq⟩ : ∃ q, q = evB n ⟨1, x1, x2, x3, x4, x5⟩ := ⟨_, rfl⟩
  rw [← hq]
  replace hq : q = (noneB ⟨1, x1, x2, x3, x4, x5⟩ && (x2 == 1 || x2 == -1) && decide (0 ≤ x1 ∧ x1 ≤ n - 2)) := hq
  simp only [V.val]
  have hb := (Below.refl w.heap.size w).alloc (Nat.le_refl _) (.cells #[.int .i64 1, .int .i64 x1, .int .i64 x2, .int .i64 x3, .int .i64 x4, .int .i64 x5] 77)
  have HA := at_new ⟨1, x1, x2, x3, x4, x5⟩ 77 w
  simp only at HA
  have HY := hid (fun W => hasNo ⟨1, x1, x2, x3, x4, x5⟩ W)
  simp only [V.val] at HY
  generalize noneB ⟨1, x1, x2, x3, x4, x5⟩ = y at *
  cases y with
  | false =>
    have HQ : Hid (q = false) := hid (by rw [hq]; simp)
    clear hq
    go_enter Try.func126, Try.ntmps126
    go_wp2_with fail
    generalize w.alloc (.cells #[.int .i64 1, .int .i64 x1, .int .i64 x2, .int .i64 x3, .int .i64 x4, .int .i64 x5] 77) = W0 at *
    refine (HY.out _).mono ?_
    rintro e w1 ⟨rfl, b1⟩
    replace HA := HA.below b1
    have HB := hid (hb.trans (b1.mono hb.size))
    clear b1 hb
    have c0 := HA.c0
    have c1 := HA.c1
    have c2 := HA.c2
    have c3 := HA.c3
    have c4 := HA.c4
    have c5 := HA.c5
    simp only at c0 c1 c2 c3 c4 c5
    clear HA
    go_wp2_with (go_at_call 59; refine (nd.within64 _ _ _ _).mono ?_; rintro e w2 ⟨rfl, rfl⟩)
    go_ret
    exact ⟨by rw [HQ.out]; first | done | rfl, HB.out⟩
  | true =>
    by_cases h1 : x2 = 1
    · subst h1
      have HQ : Hid (q = (decide (0 ≤ x1) && decide (x1 ≤ n - 2))) := hid (by rw [hq]; simp)
      clear hq
      go_enter Try.func126, Try.ntmps126
      go_wp2_with fail
      generalize w.alloc (.cells #[.int .i64 1, .int .i64 x1, .int .i64 1, .int .i64 x3, .int .i64 x4, .int .i64 x5] 77) = W0 at *
      refine (HY.out _).mono ?_
      rintro e w1 ⟨rfl, b1⟩
      replace HA := HA.below b1
      have HB := hid (hb.trans (b1.mono hb.size))
      clear b1 hb
      have c0 := HA.c0
      have c1 := HA.c1
      have c2 := HA.c2
      have c3 := HA.c3
      have c4 := HA.c4
      have c5 := HA.c5
      simp only at c0 c1 c2 c3 c4 c5
      clear HA
      go_wp2_with (go_at_call 59; refine (nd.within64 _ _ _ _).mono ?_; rintro e w2 ⟨rfl, rfl⟩)
      go_ret
      exact ⟨by rw [HQ.out]; first | done | rfl, HB.out⟩
    · have h1b : (x2 == 1) = false := by simpa using h1
      rw [h1b] at hq
      by_cases h2 : x2 = -1
      · subst h2
        have HQ : Hid (q = (decide (0 ≤ x1) && decide (x1 ≤ n - 2))) := hid (by rw [hq]; simp)
        clear hq
        go_enter Try.func126, Try.ntmps126
        go_wp2_with fail
        generalize w.alloc (.cells #[.int .i64 1, .int .i64 x1, .int .i64 (-1), .int .i64 x3, .int .i64 x4, .int .i64 x5] 77) = W0 at *
        refine (HY.out _).mono ?_
        rintro e w1 ⟨rfl, b1⟩
        replace HA := HA.below b1
        have HB := hid (hb.trans (b1.mono hb.size))
        clear b1 hb
        have c0 := HA.c0
        have c1 := HA.c1
        have c2 := HA.c2
        have c3 := HA.c3
        have c4 := HA.c4
        have c5 := HA.c5
        simp only at c0 c1 c2 c3 c4 c5
        clear HA
        go_wp2_with (go_at_call 59; refine (nd.within64 _ _ _ _).mono ?_; rintro e w2 ⟨rfl, rfl⟩)
        go_ret
        exact ⟨by rw [HQ.out]; first | done | rfl, HB.out⟩
      · have h2b : (x2 == -1) = false := by simpa using h2
        rw [h2b] at hq
        have HQ : Hid (q = false) := hid (by rw [hq]; simp)
        clear hq
        go_enter Try.func126, Try.ntmps126
        go_wp2_with fail
        generalize w.alloc (.cells #[.int .i64 1, .int .i64 x1, .int .i64 x2, .int .i64 x3, .int .i64 x4, .int .i64 x5] 77) = W0 at *
        refine (HY.out _).mono ?_
        rintro e w1 ⟨rfl, b1⟩
        replace HA := HA.below b1
        have HB := hid (hb.trans (b1.mono hb.size))
        clear b1 hb
        have c0 := HA.c0
        have c1 := HA.c1
        have c2 := HA.c2
        have c3 := HA.c3
        have c4 := HA.c4
        have c5 := HA.c5
        simp only at c0 c1 c2 c3 c4 c5
        clear HA
        go_wp2_with (go_at_call 59; refine (nd.within64 _ _ _ _).mono ?_; rintro e w2 ⟨rfl, rfl⟩)
        go_ret
        exact ⟨by rw [HQ.out]; first | done | rfl, HB.out⟩

set_option maxRecDepth 100000 in
theorem implV2 (x1 x2 x3 x4 x5 n : Int) (w : World) (hn0 : 0 ≤ n) (hn1 : n ≤ 4000) : Calls Try.prog 126 #[(V.mk 2 x1 x2 x3 x4 x5).val, .int .i64 n] w fun e w' => e = .returned (.bool (evB n ⟨2, x1, x2, x3, x4, x5⟩)) ∧ Below w.heap.size w w' := by
  obtain ⟨q, hq⟩ : ∃ q, q = evB n ⟨2, x1, x2, x3, x4, x5⟩ := ⟨_, rfl⟩
  rw [← hq]
  replace hq : q = (yarnB ⟨2, x1, x2, x3, x4, x5⟩ && decide (0 ≤ x2 ∧ x2 ≤ 4) && decide (0 ≤ x1 ∧ x1 ≤ n - x2)) := hq
  simp only [V.val]
  have hb := (Below.refl w.heap.size w).alloc (Nat.le_refl _) (.cells #[.int .i64 2, .int .i64 x1, .int .i64 x2, .int .i64 x3, .int .i64 x4, .int .i64 x5] 77)
  have HA := at_new ⟨2, x1, x2, x3, x4, x5⟩ 77 w
  simp only at HA
  have HY := hid (fun W => hasYn ⟨2, x1, x2, x3, x4, x5⟩ W)
  simp only [V.val] at HY
  generalize yarnB ⟨2, x1, x2, x3, x4, x5⟩ = y at *
  cases y with
  | false =>
    have HQ : Hid (q = false) := hid (by rw [hq]; simp)
    clear hq
    go_enter Try.func126, Try.ntmps126
    go_wp2_with fail
    generalize w.alloc (.cells #[.int .i64 2, .int .i64 x1, .int .i64 x2, .int .i64 x3, .int .i64 x4, .int .i64 x5] 77) = W0 at *
    refine (HY.out _).mono ?_
    rintro e w1 ⟨rfl, b1⟩
    replace HA := HA.below b1
    have HB := hid (hb.trans (b1.mono hb.size))
    clear b1 hb
    have c0 := HA.c0
    have c1 := HA.c1
    have c2 := HA.c2
    have c3 := HA.c3
    have c4 := HA.c4
    have c5 := HA.c5
    simp only at c0 c1 c2 c3 c4 c5
    clear HA
    go_wp2_with (go_at_call 59; refine (nd.within64 _ _ _ _).mono ?_; rintro e w2 ⟨rfl, rfl⟩)
    go_ret
    exact ⟨by rw [HQ.out]; first | done | rfl, HB.out⟩
  | true =>
    by_cases hc : 0 ≤ x2 ∧ x2 ≤ 4
    · have hd : decide (0 ≤ x2 ∧ x2 ≤ 4) = true := decide_eq_true hc
      rw [hd] at hq
      obtain ⟨hc0, hc1⟩ := hc
      have HQ : Hid (q = (decide (0 ≤ x1) && decide (x1 ≤ n - x2))) := hid (by rw [hq]; simp)
      clear hq
      go_enter Try.func126, Try.ntmps126
      go_wp2_with fail
      generalize w.alloc (.cells #[.int .i64 2, .int .i64 x1, .int .i64 x2, .int .i64 x3, .int .i64 x4, .int .i64 x5] 77) = W0 at *
      refine (HY.out _).mono ?_
      rintro e w1 ⟨rfl, b1⟩
      replace HA := HA.below b1
      have HB := hid (hb.trans (b1.mono hb.size))
      clear b1 hb
      have c0 := HA.c0
      have c1 := HA.c1
      have c2 := HA.c2
      have c3 := HA.c3
      have c4 := HA.c4
      have c5 := HA.c5
      simp only at c0 c1 c2 c3 c4 c5
      clear HA
      go_wp2_with (go_at_call 59; refine (nd.within64 _ _ _ _).mono ?_; rintro e w2 ⟨rfl, rfl⟩)
      go_ret
      exact ⟨by rw [HQ.out]; first | done | rfl, HB.out⟩
    · have hd : decide (0 ≤ x2 ∧ x2 ≤ 4) = false := decide_eq_false hc
      rw [hd] at hq
      clear hc
      have HQ : Hid (q = false) := hid (by rw [hq]; simp)
      clear hq
      go_enter Try.func126, Try.ntmps126
      go_wp2_with fail
      generalize w.alloc (.cells #[.int .i64 2, .int .i64 x1, .int .i64 x2, .int .i64 x3, .int .i64 x4, .int .i64 x5] 77) = W0 at *
      refine (HY.out _).mono ?_
      rintro e w1 ⟨rfl, b1⟩
      replace HA := HA.below b1
      have HB := hid (hb.trans (b1.mono hb.size))
      clear b1 hb
      have c0 := HA.c0
      have c1 := HA.c1
      have c2 := HA.c2
      have c3 := HA.c3
      have c4 := HA.c4
      have c5 := HA.c5
      simp only at c0 c1 c2 c3 c4 c5
      clear HA
      go_wp2_with (go_at_call 59; refine (nd.within64 _ _ _ _).mono ?_; rintro e w2 ⟨rfl, rfl⟩)
      go_ret
      exact ⟨by rw [HQ.out]; first | done | rfl, HB.out⟩

set_option maxRecDepth 100000 in
theorem implV3 (x1 x2 x3 x4 x5 n : Int) (w : World) (hn0 : 0 ≤ n) (hn1 : n ≤ 4000) : Calls Try.prog 126 #[(V.mk 3 x1 x2 x3 x4 x5).val, .int .i64 n] w fun e w' => e = .returned (.bool (evB n ⟨3, x1, x2, x3, x4, x5⟩)) ∧ Below w.heap.size w w' := by
  obtain ⟨q, hq⟩ : ∃ q, q = evB n ⟨3, x1, x2, x3, x4, x5⟩ := ⟨_, rfl⟩
  rw [← hq]
  replace hq : q = (yarnB ⟨3, x1, x2, x3, x4, x5⟩ && x2 == 0 && decide (0 ≤ x1 ∧ x1 ≤ n)) := hq
  simp only [V.val]
  have hb := (Below.refl w.heap.size w).alloc (Nat.le_refl _) (.cells #[.int .i64 3, .int .i64 x1, .int .i64 x2, .int .i64 x3, .int .i64 x4, .int .i64 x5] 77)
  have HA := at_new ⟨3, x1, x2, x3, x4, x5⟩ 77 w
  simp only at HA
  have HY := hid (fun W => hasYn ⟨3, x1, x2, x3, x4, x5⟩ W)
  simp only [V.val] at HY
  generalize yarnB ⟨3, x1, x2, x3, x4, x5⟩ = y at *
  cases y with
  | false =>
    have HQ : Hid (q = false) := hid (by rw [hq]; simp)
    clear hq
    go_enter Try.func126, Try.ntmps126
    go_wp2_with fail
    generalize w.alloc (.cells #[.int .i64 3, .int .i64 x1, .int .i64 x2, .int .i64 x3, .int .i64 x4, .int .i64 x5] 77) = W0 at *
    refine (HY.out _).mono ?_
    rintro e w1 ⟨rfl, b1⟩
    replace HA := HA.below b1
    have HB := hid (hb.trans (b1.mono hb.size))
    clear b1 hb
    have c0 := HA.c0
    have c1 := HA.c1
    have c2 := HA.c2
    have c3 := HA.c3
    have c4 := HA.c4
    have c5 := HA.c5
    simp only at c0 c1 c2 c3 c4 c5
    clear HA
    go_wp2_with (go_at_call 59; refine (nd.within64 _ _ _ _).mono ?_; rintro e w2 ⟨rfl, rfl⟩)
    go_ret
    exact ⟨by rw [HQ.out]; first | done | rfl, HB.out⟩
  | true =>
    by_cases h1 : x2 = 0
    · subst h1
      have HQ : Hid (q = (decide (0 ≤ x1) && decide (x1 ≤ n))) := hid (by rw [hq]; simp)
      clear hq
      go_enter Try.func126, Try.ntmps126
      go_wp2_with fail
      generalize w.alloc (.cells #[.int .i64 3, .int .i64 x1, .int .i64 0, .int .i64 x3, .int .i64 x4, .int .i64 x5] 77) = W0 at *
      refine (HY.out _).mono ?_
      rintro e w1 ⟨rfl, b1⟩
      replace HA := HA.below b1
      have HB := hid (hb.trans (b1.mono hb.size))
      clear b1 hb
      have c0 := HA.c0
      have c1 := HA.c1
      have c2 := HA.c2
      have c3 := HA.c3
      have c4 := HA.c4
      have c5 := HA.c5
      simp only at c0 c1 c2 c3 c4 c5
      clear HA
      go_wp2_with (go_at_call 59; refine (nd.within64 _ _ _ _).mono ?_; rintro e w2 ⟨rfl, rfl⟩)
      go_ret
      exact ⟨by rw [HQ.out]; first | done | rfl, HB.out⟩
    · have h1b : (x2 == 0) = false := by simpa using h1
      rw [h1b] at hq
      have HQ : Hid (q = false) := hid (by rw [hq]; simp)
      clear hq
      go_enter Try.func126, Try.ntmps126
      go_wp2_with fail
      generalize w.alloc (.cells #[.int .i64 3, .int .i64 x1, .int .i64 x2, .int .i64 x3, .int .i64 x4, .int .i64 x5] 77) = W0 at *
      refine (HY.out _).mono ?_
      rintro e w1 ⟨rfl, b1⟩
      replace HA := HA.below b1
      have HB := hid (hb.trans (b1.mono hb.size))
      clear b1 hb
      have c0 := HA.c0
      have c1 := HA.c1
      have c2 := HA.c2
      have c3 := HA.c3
      have c4 := HA.c4
      have c5 := HA.c5
      simp only at c0 c1 c2 c3 c4 c5
      clear HA
      go_wp2_with (go_at_call 59; refine (nd.within64 _ _ _ _).mono ?_; rintro e w2 ⟨rfl, rfl⟩)
      go_ret
      exact ⟨by rw [HQ.out]; first | done | rfl, HB.out⟩

set_option maxRecDepth 100000 in
theorem implV4 (x1 x2 x3 x4 x5 n : Int) (w : World) (hn0 : 0 ≤ n) (hn1 : n ≤ 4000) : Calls Try.prog 126 #[(V.mk 4 x1 x2 x3 x4 x5).val, .int .i64 n] w fun e w' => e = .returned (.bool (evB n ⟨4, x1, x2, x3, x4, x5⟩)) ∧ Below w.heap.size w w' := by
  obtain ⟨q, hq⟩ : ∃ q, q = evB n ⟨4, x1, x2, x3, x4, x5⟩ := ⟨_, rfl⟩
  rw [← hq]
  replace hq : q = (noneB ⟨4, x1, x2, x3, x4, x5⟩ && decide (1 ≤ x2 ∧ x2 ≤ 4) && decide (0 ≤ x1 ∧ x1 ≤ n - x2)) := hq
  simp only [V.val]
  have hb := (Below.refl w.heap.size w).alloc (Nat.le_refl _) (.cells #[.int .i64 4, .int .i64 x1, .int .i64 x2, .int .i64 x3, .int .i64 x4, .int .i64 x5] 77)
  have HA := at_new ⟨4, x1, x2, x3, x4, x5⟩ 77 w
  simp only at HA
  have HY := hid (fun W => hasNo ⟨4, x1, x2, x3, x4, x5⟩ W)
  simp only [V.val] at HY
  generalize noneB ⟨4, x1, x2, x3, x4, x5⟩ = y at *
  cases y with
  | false =>
    have HQ : Hid (q = false) := hid (by rw [hq]; simp)
    clear hq
    go_enter Try.func126, Try.ntmps126
    go_wp2_with fail
    generalize w.alloc (.cells #[.int .i64 4, .int .i64 x1, .int .i64 x2, .int .i64 x3, .int .i64 x4, .int .i64 x5] 77) = W0 at *
    refine (HY.out _).mono ?_
    rintro e w1 ⟨rfl, b1⟩
    replace HA := HA.below b1
    have HB := hid (hb.trans (b1.mono hb.size))
    clear b1 hb
    have c0 := HA.c0
    have c1 := HA.c1
    have c2 := HA.c2
    have c3 := HA.c3
    have c4 := HA.c4
    have c5 := HA.c5
    simp only at c0 c1 c2 c3 c4 c5
    clear HA
    go_wp2_with (go_at_call 59; refine (nd.within64 _ _ _ _).mono ?_; rintro e w2 ⟨rfl, rfl⟩)
    go_ret
    exact ⟨by rw [HQ.out]; first | done | rfl, HB.out⟩
  | true =>
    by_cases hc : 1 ≤ x2 ∧ x2 ≤ 4
    · have hd : decide (1 ≤ x2 ∧ x2 ≤ 4) = true := decide_eq_true hc
      rw [hd] at hq
      obtain ⟨hc0, hc1⟩ := hc
      have HQ : Hid (q = (decide (0 ≤ x1) && decide (x1 ≤ n - x2))) := hid (by rw [hq]; simp)
      clear hq
      go_enter Try.func126, Try.ntmps126
      go_wp2_with fail
      generalize w.alloc (.cells #[.int .i64 4, .int .i64 x1, .int .i64 x2, .int .i64 x3, .int .i64 x4, .int .i64 x5] 77) = W0 at *
      refine (HY.out _).mono ?_
      rintro e w1 ⟨rfl, b1⟩
      replace HA := HA.below b1
      have HB := hid (hb.trans (b1.mono hb.size))
      clear b1 hb
      have c0 := HA.c0
      have c1 := HA.c1
      have c2 := HA.c2
      have c3 := HA.c3
      have c4 := HA.c4
      have c5 := HA.c5
      simp only at c0 c1 c2 c3 c4 c5
      clear HA
      go_wp2_with (go_at_call 59; refine (nd.within64 _ _ _ _).mono ?_; rintro e w2 ⟨rfl, rfl⟩)
      go_ret
      exact ⟨by rw [HQ.out]; first | done | rfl, HB.out⟩
    · have hd : decide (1 ≤ x2 ∧ x2 ≤ 4) = false := decide_eq_false hc
      rw [hd] at hq
      clear hc
      have HQ : Hid (q = false) := hid (by rw [hq]; simp)
      clear hq
      go_enter Try.func126, Try.ntmps126
      go_wp2_with fail
      generalize w.alloc (.cells #[.int .i64 4, .int .i64 x1, .int .i64 x2, .int .i64 x3, .int .i64 x4, .int .i64 x5] 77) = W0 at *
      refine (HY.out _).mono ?_
      rintro e w1 ⟨rfl, b1⟩
      replace HA := HA.below b1
      have HB := hid (hb.trans (b1.mono hb.size))
      clear b1 hb
      have c0 := HA.c0
      have c1 := HA.c1
      have c2 := HA.c2
      have c3 := HA.c3
      have c4 := HA.c4
      have c5 := HA.c5
      simp only at c0 c1 c2 c3 c4 c5
      clear HA
      go_wp2_with (go_at_call 59; refine (nd.within64 _ _ _ _).mono ?_; rintro e w2 ⟨rfl, rfl⟩)
      go_ret
      exact ⟨by rw [HQ.out]; first | done | rfl, HB.out⟩

end Go.Proofs.Ytiacfejileeieaa.ev
