/-
  isValidFor of the program: splits, other kinds; all kinds.
-/
import Derived.Test.YtiacfejileeieaaEvi
namespace Go.Proofs.Ytiacfejileeieaa.ev
open Go.RowKit Go.Sort Go.Proofs.Ytiacfejileeieaa.sl Go.Proofs.Ytiacfejileeieaa.nd Go.Proofs.Ytiacfejileeieaa.vo
set_option linter.unusedVariables false
set_option linter.unusedSimpArgs false

set_option maxRecDepth 100000 in
theorem implV5b (x1 x2 x4 x5 n : Int) (w : World) (hn0 : 0 ≤ n) (hn1 : n ≤ 4000) : Calls Try.prog 126 #[(V.mk 5 x1 x2 2 x4 x5).val, .int .i64 n] w fun e w' => e = .returned (.bool (evB n ⟨5, x1, x2, 2, x4, x5⟩)) ∧ Below w.heap.size w w' := by
  obtain ⟨q, hq⟩ : ∃ q, q = evB n ⟨5, x1, x2, 2, x4, x5⟩ := ⟨_, rfl⟩
  rw [← hq]
  replace hq : q = (yarnB ⟨5, x1, x2, 2, x4, x5⟩ && decide (1 ≤ x2 ∧ x2 ≤ 4) && (if 2 = 2 then decide (x2 ≤ x1 ∧ x1 ≤ n) else decide (0 ≤ x1 ∧ x1 ≤ n - x2))) := hq
  rw [if_pos rfl] at hq
  simp only [V.val]
  have hb := (Below.refl w.heap.size w).alloc (Nat.le_refl _) (.cells #[.int .i64 5, .int .i64 x1, .int .i64 x2, .int .i64 2, .int .i64 x4, .int .i64 x5] 77)
  have HA := at_new ⟨5, x1, x2, 2, x4, x5⟩ 77 w
  simp only at HA
  have HY := hid (fun W => hasYn ⟨5, x1, x2, 2, x4, x5⟩ W)
  simp only [V.val] at HY
  generalize yarnB ⟨5, x1, x2, 2, x4, x5⟩ = y at *
  cases y with
  | false =>
    have HQ : Hid (q = false) := hid (by rw [hq]; simp)
    clear hq
    go_enter Try.func126, Try.ntmps126
    go_wp2_with fail
    go_quiet (fail)
    go_wp2_with fail
    refine (HY.out _).mono ?_
    rintro e w1 ⟨rfl, b1⟩
    have b2 := (bdrewN (Below.refl _ _) _).trans b1
    replace HA := HA.below b2
    have HB := hid (hb.trans (b2.mono hb.size))
    clear b1 b2 hb
    have c0 := HA.c0
    have c1 := HA.c1
    have c2 := HA.c2
    have c3 := HA.c3
    have c4 := HA.c4
    have c5 := HA.c5
    simp only at c0 c1 c2 c3 c4 c5
    clear HA
    go_wp2_with (go_at_call 59; refine (nd.within64 _ _ _ _).mono ?_; rintro e w2 ⟨rfl, rfl⟩)
    go_ret
    exact ⟨by rw [HQ.out]; first | done | rfl, HB.out⟩
  | true =>
    by_cases hc : 1 ≤ x2 ∧ x2 ≤ 4
    · have hd : decide (1 ≤ x2 ∧ x2 ≤ 4) = true := decide_eq_true hc
      rw [hd] at hq
      obtain ⟨hc0, hc1⟩ := hc
      have hwr : IntKind.i64.wrap (n - x2) = n - x2 := by rw [IntKind.wrap_i64]; omega
      have HQ : Hid (q = (decide (x2 ≤ x1) && decide (x1 ≤ n))) := hid (by rw [hq]; simp)
      clear hq
      go_enter Try.func126, Try.ntmps126
      go_wp2_with fail
      go_quiet (fail)
      go_wp2_with fail
      refine (HY.out _).mono ?_
      rintro e w1 ⟨rfl, b1⟩
      have b2 := (bdrewN (Below.refl _ _) _).trans b1
      replace HA := HA.below b2
      have HB := hid (hb.trans (b2.mono hb.size))
      clear b1 b2 hb
      have c0 := HA.c0
      have c1 := HA.c1
      have c2 := HA.c2
      have c3 := HA.c3
      have c4 := HA.c4
      have c5 := HA.c5
      simp only at c0 c1 c2 c3 c4 c5
      clear HA
      go_wp2_with (go_at_call 59; refine (nd.within64 _ _ _ _).mono ?_; rintro e w2 ⟨rfl, rfl⟩)
      go_ret
      exact ⟨by rw [HQ.out]; first | done | rfl, HB.out⟩
    · have hd : decide (1 ≤ x2 ∧ x2 ≤ 4) = false := decide_eq_false hc
      rw [hd] at hq
      clear hc
      have HQ : Hid (q = false) := hid (by rw [hq]; simp)
      clear hq
      go_enter Try.func126, Try.ntmps126
      go_wp2_with fail
      go_quiet (fail)
      go_wp2_with fail
      refine (HY.out _).mono ?_
      rintro e w1 ⟨rfl, b1⟩
      have b2 := (bdrewN (Below.refl _ _) _).trans b1
      replace HA := HA.below b2
      have HB := hid (hb.trans (b2.mono hb.size))
      clear b1 b2 hb
      have c0 := HA.c0
      have c1 := HA.c1
      have c2 := HA.c2
      have c3 := HA.c3
      have c4 := HA.c4
      have c5 := HA.c5
      simp only at c0 c1 c2 c3 c4 c5
      clear HA
      go_wp2_with (go_at_call 59; refine (nd.within64 _ _ _ _).mono ?_; rintro e w2 ⟨rfl, rfl⟩)
      go_ret
      exact ⟨by rw [HQ.out]; first | done | rfl, HB.out⟩

set_option maxRecDepth 100000 in
theorem implV5f (x1 x2 x3 x4 x5 n : Int) (w : World) (hne : ¬ x3 = 2) (hn0 : 0 ≤ n) (hn1 : n ≤ 4000) : Calls Try.prog 126 #[(V.mk 5 x1 x2 x3 x4 x5).val, .int .i64 n] w fun e w' => e = .returned (.bool (evB n ⟨5, x1, x2, x3, x4, x5⟩)) ∧ Below w.heap.size w w' := by
  obtain ⟨q, hq⟩ : ∃ q, q = evB n ⟨5, x1, x2, x3, x4, x5⟩ := ⟨_, rfl⟩
  rw [← hq]
  replace hq : q = (yarnB ⟨5, x1, x2, x3, x4, x5⟩ && decide (1 ≤ x2 ∧ x2 ≤ 4) && (if x3 = 2 then decide (x2 ≤ x1 ∧ x1 ≤ n) else decide (0 ≤ x1 ∧ x1 ≤ n - x2))) := hq
  rw [if_neg hne] at hq
  have hneb : (x3 == 2) = false := by simpa using hne
  clear hne
  simp only [V.val]
  have hb := (Below.refl w.heap.size w).alloc (Nat.le_refl _) (.cells #[.int .i64 5, .int .i64 x1, .int .i64 x2, .int .i64 x3, .int .i64 x4, .int .i64 x5] 77)
  have HA := at_new ⟨5, x1, x2, x3, x4, x5⟩ 77 w
  simp only at HA
  have HY := hid (fun W => hasYn ⟨5, x1, x2, x3, x4, x5⟩ W)
  simp only [V.val] at HY
  generalize yarnB ⟨5, x1, x2, x3, x4, x5⟩ = y at *
  cases y with
  | false =>
    have HQ : Hid (q = false) := hid (by rw [hq]; simp)
    clear hq
    go_enter Try.func126, Try.ntmps126
    go_wp2_with fail
    go_quiet (fail)
    go_wp2_with fail
    refine (HY.out _).mono ?_
    rintro e w1 ⟨rfl, b1⟩
    have b2 := (bdrewN (Below.refl _ _) _).trans b1
    replace HA := HA.below b2
    have HB := hid (hb.trans (b2.mono hb.size))
    clear b1 b2 hb
    have c0 := HA.c0
    have c1 := HA.c1
    have c2 := HA.c2
    have c3 := HA.c3
    have c4 := HA.c4
    have c5 := HA.c5
    simp only at c0 c1 c2 c3 c4 c5
    clear HA
    go_wp2_with (go_at_call 59; refine (nd.within64 _ _ _ _).mono ?_; rintro e w2 ⟨rfl, rfl⟩)
    go_ret
    exact ⟨by rw [HQ.out]; first | done | rfl, HB.out⟩
  | true =>
    by_cases hc : 1 ≤ x2 ∧ x2 ≤ 4
    · have hd : decide (1 ≤ x2 ∧ x2 ≤ 4) = true := decide_eq_true hc
      rw [hd] at hq
      obtain ⟨hc0, hc1⟩ := hc
      have hwr : IntKind.i64.wrap (n - x2) = n - x2 := by rw [IntKind.wrap_i64]; omega
      have HQ : Hid (q = (decide (0 ≤ x1) && decide (x1 ≤ n - x2))) := hid (by rw [hq]; simp)
      clear hq
      go_enter Try.func126, Try.ntmps126
      go_wp2_with fail
      go_quiet (fail)
      go_wp2_with fail
      refine (HY.out _).mono ?_
      rintro e w1 ⟨rfl, b1⟩
      have b2 := (bdrewN (Below.refl _ _) _).trans b1
      replace HA := HA.below b2
      have HB := hid (hb.trans (b2.mono hb.size))
      clear b1 b2 hb
      have c0 := HA.c0
      have c1 := HA.c1
      have c2 := HA.c2
      have c3 := HA.c3
      have c4 := HA.c4
      have c5 := HA.c5
      simp only at c0 c1 c2 c3 c4 c5
      clear HA
      go_wp2_with (go_at_call 59; refine (nd.within64 _ _ _ _).mono ?_; rintro e w2 ⟨rfl, rfl⟩)
      go_ret
      exact ⟨by rw [HQ.out]; first | done | rfl, HB.out⟩
    · have hd : decide (1 ≤ x2 ∧ x2 ≤ 4) = false := decide_eq_false hc
      rw [hd] at hq
      clear hc
      have HQ : Hid (q = false) := hid (by rw [hq]; simp)
      clear hq
      go_enter Try.func126, Try.ntmps126
      go_wp2_with fail
      go_quiet (fail)
      go_wp2_with fail
      refine (HY.out _).mono ?_
      rintro e w1 ⟨rfl, b1⟩
      have b2 := (bdrewN (Below.refl _ _) _).trans b1
      replace HA := HA.below b2
      have HB := hid (hb.trans (b2.mono hb.size))
      clear b1 b2 hb
      have c0 := HA.c0
      have c1 := HA.c1
      have c2 := HA.c2
      have c3 := HA.c3
      have c4 := HA.c4
      have c5 := HA.c5
      simp only at c0 c1 c2 c3 c4 c5
      clear HA
      go_wp2_with (go_at_call 59; refine (nd.within64 _ _ _ _).mono ?_; rintro e w2 ⟨rfl, rfl⟩)
      go_ret
      exact ⟨by rw [HQ.out]; first | done | rfl, HB.out⟩

set_option maxRecDepth 100000 in
theorem implV (x : V) (n : Int) (w : World) (hn0 : 0 ≤ n) (hn1 : n ≤ 4000) : Calls Try.prog 126 #[x.val, .int .i64 n] w fun e w' => e = .returned (.bool (evB n x)) ∧ Below w.heap.size w w' := by
  obtain ⟨x0, x1, x2, x3, x4, x5⟩ := x
  by_cases h1 : x0 = 1
  · subst h1; exact implV1 _ _ _ _ _ n w hn0 hn1
  by_cases h2 : x0 = 2
  · subst h2; exact implV2 _ _ _ _ _ n w hn0 hn1
  by_cases h3 : x0 = 3
  · subst h3; exact implV3 _ _ _ _ _ n w hn0 hn1
  by_cases h4 : x0 = 4
  · subst h4; exact implV4 _ _ _ _ _ n w hn0 hn1
  by_cases h5 : x0 = 5
  · subst h5
    by_cases hb : x3 = 2
    · subst hb; exact implV5b _ _ _ _ n w hn0 hn1
    · exact implV5f _ _ _ _ _ n w hb hn0 hn1
  have HQ : Hid (evB n ⟨x0, x1, x2, x3, x4, x5⟩ = false) := hid (by simp only [evB]; rw [if_neg h1, if_neg h2, if_neg h3, if_neg h4, if_neg h5])
  generalize evB n ⟨x0, x1, x2, x3, x4, x5⟩ = q at *
  simp only [V.val]
  have hb := (Below.refl w.heap.size w).alloc (Nat.le_refl _) (.cells #[.int .i64 x0, .int .i64 x1, .int .i64 x2, .int .i64 x3, .int .i64 x4, .int .i64 x5] 77)
  have g1 : (x0 == 1) = false := by simpa using h1
  have g2 : (x0 == 2) = false := by simpa using h2
  have g3 : (x0 == 3) = false := by simpa using h3
  have g4 : (x0 == 4) = false := by simpa using h4
  have g5 : (x0 == 5) = false := by simpa using h5
  go_enter Try.func126, Try.ntmps126
  go_wp2
  go_ret
  exact ⟨by rw [HQ.out]; first | done | rfl, hb⟩
end Go.Proofs.Ytiacfejileeieaa.ev
