/-
  Valid events: mathematics; hasYarn, hasNoYarn.
-/
import Derived.Test.YtiacfejileeieaaEv1
import Derived.Test.YtiacfejileeieaaVo
namespace Go.Proofs.Ytiacfejileeieaa.ev
open Go.RowKit Go.Sort Go.Proofs.Ytiacfejileeieaa.sl Go.Proofs.Ytiacfejileeieaa.nd Go.Proofs.Ytiacfejileeieaa.vo
set_option linter.unusedVariables false
set_option linter.unusedSimpArgs false

def bedB (b : Int) : Bool := decide (1 ≤ b ∧ b ≤ 2)
def yarnB (x : V) : Bool := bedB x.a3 && carB x.a4 && dirB x.a5
def noneB (x : V) : Bool := x.a3 == 0 && x.a4 == 0 && x.a5 == 0
/-- Valid, where there are n strands. -/
def evB (n : Int) (x : V) : Bool :=
  if x.a0 = 1 then noneB x && (x.a2 == 1 || x.a2 == -1) && decide (0 ≤ x.a1 ∧ x.a1 ≤ n - 2)
  else if x.a0 = 2 then yarnB x && decide (0 ≤ x.a2 ∧ x.a2 ≤ 4) && decide (0 ≤ x.a1 ∧ x.a1 ≤ n - x.a2)
  else if x.a0 = 3 then yarnB x && x.a2 == 0 && decide (0 ≤ x.a1 ∧ x.a1 ≤ n)
  else if x.a0 = 4 then noneB x && decide (1 ≤ x.a2 ∧ x.a2 ≤ 4) && decide (0 ≤ x.a1 ∧ x.a1 ≤ n - x.a2)
  else if x.a0 = 5 then yarnB x && decide (1 ≤ x.a2 ∧ x.a2 ≤ 4) && (if x.a3 = 2 then decide (x.a2 ≤ x.a1 ∧ x.a1 ≤ n) else decide (0 ≤ x.a1 ∧ x.a1 ≤ n - x.a2))
  else false
/-- The strands behind it. -/
def nxt (n : Int) (x : V) : Int :=
  if x.a0 = 2 then n - x.a2 + 1 else if x.a0 = 3 then n + 1 else if x.a0 = 4 then n - x.a2 else if x.a0 = 5 then n + 1 else n
theorem nxt_bound {n : Int} {x : V} (h : evB n x = true) (hn : 0 ≤ n) : 0 ≤ nxt n x ∧ nxt n x ≤ n + 1 := by
  unfold evB at h
  unfold nxt
  split at h
  · simp_all
    omega
  · split at h
    · simp_all
      omega
    · split at h
      · simp_all
        omega
      · split at h
        · simp_all
          omega
        · split at h
          · simp_all
            omega
          · cases h

theorem hasNo (x : V) (w : World) : Calls Try.prog 140 #[x.val] w fun e w' => e = .returned (.bool (noneB x)) ∧ Below w.heap.size w w' := by
  obtain ⟨x0, x1, x2, x3, x4, x5⟩ := x
  obtain ⟨q, hq⟩ : ∃ q, q = noneB ⟨x0, x1, x2, x3, x4, x5⟩ := ⟨_, rfl⟩
  rw [← hq]
  simp only [noneB] at hq
  simp only [V.val]
  have hb := (Below.refl w.heap.size w).alloc (Nat.le_refl _) (.cells #[.int .i64 x0, .int .i64 x1, .int .i64 x2, .int .i64 x3, .int .i64 x4, .int .i64 x5] 77)
  obtain ⟨b0, hb0⟩ : ∃ b, b = (x3 == 0) := ⟨_, rfl⟩
  rw [← hb0] at hq
  obtain ⟨b1, hb1⟩ : ∃ b, b = (x4 == 0) := ⟨_, rfl⟩
  rw [← hb1] at hq
  obtain ⟨b2, hb2⟩ : ∃ b, b = (x5 == 0) := ⟨_, rfl⟩
  rw [← hb2] at hq
  replace hb0 := hb0.symm
  replace hb1 := hb1.symm
  replace hb2 := hb2.symm
  cases b0 with
  | false =>
    have HQ : Hid (q = false) := hid (by rw [hq]; simp)
    clear hq
    go_enter Try.func140, Try.ntmps140
    go_wp2
    go_ret
    exact ⟨by rw [HQ.out]; first | done | rfl, hb⟩
  | true =>
    cases b1 with
    | false =>
      have HQ : Hid (q = false) := hid (by rw [hq]; simp)
      clear hq
      go_enter Try.func140, Try.ntmps140
      go_wp2
      go_ret
      exact ⟨by rw [HQ.out]; first | done | rfl, hb⟩
    | true =>
      cases b2 with
      | false =>
        have HQ : Hid (q = false) := hid (by rw [hq]; simp)
        clear hq
        go_enter Try.func140, Try.ntmps140
        go_wp2
        go_ret
        exact ⟨by rw [HQ.out]; first | done | rfl, hb⟩
      | true =>
        have HQ : Hid (q = true) := hid (by rw [hq]; simp)
        clear hq
        go_enter Try.func140, Try.ntmps140
        go_wp2
        go_ret
        exact ⟨by rw [HQ.out]; first | done | rfl, hb⟩

theorem hasYn (x : V) (w : World) : Calls Try.prog 141 #[x.val] w fun e w' => e = .returned (.bool (yarnB x)) ∧ Below w.heap.size w w' := by
  obtain ⟨x0, x1, x2, x3, x4, x5⟩ := x
  obtain ⟨q, hq⟩ : ∃ q, q = yarnB ⟨x0, x1, x2, x3, x4, x5⟩ := ⟨_, rfl⟩
  rw [← hq]
  simp only [yarnB] at hq
  simp only [V.val]
  have hb := (Below.refl w.heap.size w).alloc (Nat.le_refl _) (.cells #[.int .i64 x0, .int .i64 x1, .int .i64 x2, .int .i64 x3, .int .i64 x4, .int .i64 x5] 77)
  obtain ⟨b0, hb0⟩ : ∃ b, b = bedB x3 := ⟨_, rfl⟩
  rw [← hb0] at hq
  obtain ⟨b1, hb1⟩ : ∃ b, b = carB x4 := ⟨_, rfl⟩
  rw [← hb1] at hq
  obtain ⟨b2, hb2⟩ : ∃ b, b = dirB x5 := ⟨_, rfl⟩
  rw [← hb2] at hq
  have A0 := hid (fun w1 => show Calls Try.prog 59 #[.int .i64 x3, .int .i64 1, .int .i64 2] w1 fun e w2 => e = .returned (.bool b0) ∧ w1 = w2 from by rw [hb0]; exact nd.within64 _ _ _ w1)
  clear hb0
  have A1 := hid (fun w1 => show Calls Try.prog 60 #[.int .i64 x4] w1 fun e w2 => e = .returned (.bool b1) ∧ w1 = w2 from by rw [hb1]; exact implCar _ w1)
  clear hb1
  have A2 := hid (fun w1 => show Calls Try.prog 74 #[.int .i64 x5] w1 fun e w2 => e = .returned (.bool b2) ∧ w1 = w2 from by rw [hb2]; exact implDir _ w1)
  clear hb2
  cases b0 with
  | false =>
    have HQ : Hid (q = false) := hid (by rw [hq]; simp)
    clear hq
    go_enter Try.func141, Try.ntmps141
    go_wp2_with (first | (go_at_call 59; refine (A0.out _).mono ?_; rintro e w2 ⟨rfl, rfl⟩) | (go_at_call 60; refine (A1.out _).mono ?_; rintro e w2 ⟨rfl, rfl⟩) | (go_at_call 74; refine (A2.out _).mono ?_; rintro e w2 ⟨rfl, rfl⟩))
    go_ret
    exact ⟨by rw [HQ.out]; first | done | rfl, hb⟩
  | true =>
    cases b1 with
    | false =>
      have HQ : Hid (q = false) := hid (by rw [hq]; simp)
      clear hq
      go_enter Try.func141, Try.ntmps141
      go_wp2_with (first | (go_at_call 59; refine (A0.out _).mono ?_; rintro e w2 ⟨rfl, rfl⟩) | (go_at_call 60; refine (A1.out _).mono ?_; rintro e w2 ⟨rfl, rfl⟩) | (go_at_call 74; refine (A2.out _).mono ?_; rintro e w2 ⟨rfl, rfl⟩))
      go_ret
      exact ⟨by rw [HQ.out]; first | done | rfl, hb⟩
    | true =>
      cases b2 with
      | false =>
        have HQ : Hid (q = false) := hid (by rw [hq]; simp)
        clear hq
        go_enter Try.func141, Try.ntmps141
        go_wp2_with (first | (go_at_call 59; refine (A0.out _).mono ?_; rintro e w2 ⟨rfl, rfl⟩) | (go_at_call 60; refine (A1.out _).mono ?_; rintro e w2 ⟨rfl, rfl⟩) | (go_at_call 74; refine (A2.out _).mono ?_; rintro e w2 ⟨rfl, rfl⟩))
        go_ret
        exact ⟨by rw [HQ.out]; first | done | rfl, hb⟩
      | true =>
        have HQ : Hid (q = true) := hid (by rw [hq]; simp)
        clear hq
        go_enter Try.func141, Try.ntmps141
        go_wp2_with (first | (go_at_call 59; refine (A0.out _).mono ?_; rintro e w2 ⟨rfl, rfl⟩) | (go_at_call 60; refine (A1.out _).mono ?_; rintro e w2 ⟨rfl, rfl⟩) | (go_at_call 74; refine (A2.out _).mono ?_; rintro e w2 ⟨rfl, rfl⟩))
        go_ret
        exact ⟨by rw [HQ.out]; first | done | rfl, hb⟩

end Go.Proofs.Ytiacfejileeieaa.ev
