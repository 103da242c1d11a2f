/-
  The model's l10Event: splits; all kinds; l10Count.
-/
import Derived.Test.YtiacfejileeieaaEvt
import Derived.Deep.CutRange
namespace Go.Proofs.Ytiacfejileeieaa.ev
open Go.RowKit Go.Sort Go.Proofs.Ytiacfejileeieaa.sl Go.Proofs.Ytiacfejileeieaa.nd Go.Proofs.Ytiacfejileeieaa.vo
set_option linter.unusedVariables false
set_option linter.unusedSimpArgs false

set_option maxRecDepth 100000 in
set_option maxHeartbeats 1000000 in
theorem specV5f (x1 x2 x3 x4 x5 n : Int) (p o : Nat) (w : World) (H : At w p o ⟨5, x1, x2, x3, x4, x5⟩) (h0 : 0 ≤ x1) (h1 : x1 ≤ n) (hbed : x3 = 1) (hn0 : 0 ≤ n) (hn1 : n ≤ 4000) : Calls Try.prog 110 #[.pointer (some ⟨p, o, none⟩), .int .i64 n] w (EvPost n ⟨5, x1, x2, x3, x4, x5⟩ w) := by
  have c0 := H.c0
  have c1 := H.c1
  have c2 := H.c2
  have c3 := H.c3
  have c4 := H.c4
  have c5 := H.c5
  simp only at c0 c1 c2 c3 c4 c5
  clear H
  have HBED := hid hbed
  clear hbed
  obtain ⟨q, hq⟩ : ∃ q, q = evB n ⟨5, x1, x2, x3, x4, x5⟩ := ⟨_, rfl⟩
  have hE := hid (fun (z : Int) (w' : World) (h : q = true → z = nxt n ⟨5, x1, x2, x3, x4, x5⟩) (hb : Below w.heap.size w w') => (show EvPost n ⟨5, x1, x2, x3, x4, x5⟩ w (.returned (.tuple #[.int .i64 z, .bool q])) w' from ⟨z, by rw [hq], fun h2 => h (by rw [hq]; exact h2), hb⟩))
  replace hq : q = (yarnB ⟨5, x1, x2, x3, x4, x5⟩ && decide (1 ≤ x2 ∧ x2 ≤ 4) && (if x3 = 2 then decide (x2 ≤ x1 ∧ x1 ≤ n) else decide (0 ≤ x1 ∧ x1 ≤ n - x2))) := hq
  obtain ⟨P, hP⟩ : ∃ P, P = EvPost n ⟨5, x1, x2, x3, x4, x5⟩ w := ⟨_, rfl⟩
  rw [← hP] at hE ⊢
  clear hP
  obtain ⟨b0, hb0⟩ : ∃ b, b = bedB x3 := ⟨_, rfl⟩
  obtain ⟨b1, hb1⟩ : ∃ b, b = carB x4 := ⟨_, rfl⟩
  obtain ⟨b2, hb2⟩ : ∃ b, b = dirB x5 := ⟨_, rfl⟩
  have A0 := hid (fun w1 => show Calls Try.prog 125 #[.int .i64 x3] w1 fun e w2 => e = .returned (.bool b0) ∧ w1 = w2 from by rw [hb0]; exact nd.specBed _ w1)
  have A1 := hid (fun w1 => show Calls Try.prog 57 #[.int .i64 x4] w1 fun e w2 => e = .returned (.bool b1) ∧ w1 = w2 from by rw [hb1]; exact specYarn _ w1)
  have A2 := hid (fun w1 => show Calls Try.prog 70 #[.int .i64 x5] w1 fun e w2 => e = .returned (.bool b2) ∧ w1 = w2 from by rw [hb2]; exact specDir _ w1)
  obtain ⟨y, hy⟩ : ∃ y, y = yarnB ⟨5, x1, x2, x3, x4, x5⟩ := ⟨_, rfl⟩
  have HY : Hid (y = (b0 && b1 && b2)) := hid (by rw [hy, hb0, hb1, hb2]; rfl)
  have HB : Hid (y = true → 1 ≤ x3 ∧ x3 ≤ 2) := hid (by rw [hy]; simp [yarnB, bedB]; omega)
  obtain ⟨z0, hz0⟩ : ∃ b, (x3 == 0) = b := ⟨_, rfl⟩
  obtain ⟨z1, hz1⟩ : ∃ b, (x4 == 0) = b := ⟨_, rfl⟩
  obtain ⟨z2, hz2⟩ : ∃ b, (x5 == 0) = b := ⟨_, rfl⟩
  obtain ⟨u, hu⟩ : ∃ u, u = noneB ⟨5, x1, x2, x3, x4, x5⟩ := ⟨_, rfl⟩
  have HN : Hid (u = (z0 && z1 && z2)) := hid (by rw [hu, ← hz0, ← hz1, ← hz2]; rfl)
  try rw [← hy] at hq
  try rw [← hu] at hq
  clear hy hu hb0 hb1 hb2
  go_enter Try.func110, Try.ntmps110
  go_upto_region 1 with fail
  go_cut [6] from 9 to 206 (fun s6 wx => s6 = .bool y ∧ w = wx)
  case first =>
    cases b0
    · have HY2 := hid (HY.out.trans (by simp : _ = false))
      clear HY HN
      go_wp2_with (go_at_call 125; refine (A0.out _).mono ?_; rintro e w2 ⟨rfl, rfl⟩)
      go_meet
      exact ⟨by rw [HY2.out], rfl⟩
    · cases b1
      · have HY2 := hid (HY.out.trans (by simp : _ = false))
        clear HY HN
        go_wp2_with (first | (go_at_call 125; refine (A0.out _).mono ?_; rintro e w2 ⟨rfl, rfl⟩) | (go_at_call 57; refine (A1.out _).mono ?_; rintro e w2 ⟨rfl, rfl⟩))
        go_meet
        exact ⟨by rw [HY2.out], rfl⟩
      · have HY2 := hid (HY.out.trans (by simp : _ = b2))
        clear HY HN
        go_wp2_with (first | (go_at_call 125; refine (A0.out _).mono ?_; rintro e w2 ⟨rfl, rfl⟩) | (go_at_call 57; refine (A1.out _).mono ?_; rintro e w2 ⟨rfl, rfl⟩) | (go_at_call 70; refine (A2.out _).mono ?_; rintro e w2 ⟨rfl, rfl⟩))
        go_meet
        exact ⟨by rw [HY2.out], rfl⟩
  case rest =>
    obtain ⟨rfl, rfl⟩ := hcut
    clear A0 A1 A2
    go_upto_region 2 with fail
    go_cut [7] from 9 to 206 (fun s7 wx => s7 = .bool u ∧ w = wx)
    case first =>
      cases z0
      · have HN2 := hid (HN.out.trans (by simp : _ = false))
        clear HN HY
        go_wp2
        go_meet
        exact ⟨by rw [HN2.out], rfl⟩
      · cases z1
        · have HN2 := hid (HN.out.trans (by simp : _ = false))
          clear HN HY
          go_wp2
          go_meet
          exact ⟨by rw [HN2.out], rfl⟩
        · have HN2 := hid (HN.out.trans (by simp : _ = z2))
          clear HN HY
          go_wp2
          go_meet
          exact ⟨by rw [HN2.out], rfl⟩
    case rest =>
      obtain ⟨rfl, rfl⟩ := hcut
      clear HY HN
      have hbed := HBED.out
      have hneb : (x3 == 1) = true := by simpa using hbed
      clear hbed
      have hw0 : IntKind.i64.wrap (n + 1) = n + 1 := by rw [IntKind.wrap_i64]; omega
      have hI := hid (fun w1 => (nd.specIn x2 1 4 w1))
      cases y
      · have hneb := hneb
        have HQ : Hid (q = false) := hid (by rw [hq]; simp)
        clear hq HB
        try clear hbed
        go_wp2_with (go_at_call 56; refine (hI.out _).mono ?_; rintro e w2 ⟨rfl, rfl⟩)
        go_big_quiet (fail)
        go_wp2
        try go_ret2
        exact (by rw [HQ.out] at hE; exact hE.out _ _ (fun h => by cases h) (by first | exact Below.refl _ _ | exact bdrewN (Below.refl _ _) _))
      · have hbd := HB.out rfl
        have hbed := HBED.out
        by_cases hc : 1 ≤ x2 ∧ x2 ≤ 4
        · have hd : decide (1 ≤ x2 ∧ x2 ≤ 4) = true := decide_eq_true hc
          rw [hd] at hq hI
          obtain ⟨hc0, hc1⟩ := hc
          have hw3 : IntKind.i64.wrap (x1 + x2) = x1 + x2 := by rw [IntKind.wrap_i64]; omega
          have HQ : Hid (q = decide (x1 + x2 ≤ n)) := hid (by rw [hq, if_neg (by omega), show decide (0 ≤ x1 ∧ x1 ≤ n - x2) = decide (x1 + x2 ≤ n) from decide_eq_decide.2 (by omega)]; simp)
          clear hq HB
          try clear hbed
          go_wp2_with (go_at_call 56; refine (hI.out _).mono ?_; rintro e w2 ⟨rfl, rfl⟩)
          go_big_quiet (fail)
          go_wp2
          try go_ret2
          exact (by rw [HQ.out] at hE; exact hE.out _ _ (fun _ => by simp [nxt]) (by first | exact Below.refl _ _ | exact bdrewN (Below.refl _ _) _))
        · have hd : decide (1 ≤ x2 ∧ x2 ≤ 4) = false := decide_eq_false hc
          rw [hd] at hq hI
          clear hc
          have HQ : Hid (q = false) := hid (by rw [hq]; simp)
          clear hq HB
          try clear hbed
          go_wp2_with (go_at_call 56; refine (hI.out _).mono ?_; rintro e w2 ⟨rfl, rfl⟩)
          go_big_quiet (fail)
          go_wp2
          try go_ret2
          exact (by rw [HQ.out] at hE; exact hE.out _ _ (fun h => by cases h) (by first | exact Below.refl _ _ | exact bdrewN (Below.refl _ _) _))

set_option maxRecDepth 100000 in
set_option maxHeartbeats 1000000 in
theorem specV5b (x1 x2 x3 x4 x5 n : Int) (p o : Nat) (w : World) (H : At w p o ⟨5, x1, x2, x3, x4, x5⟩) (h0 : 0 ≤ x1) (h1 : x1 ≤ n) (hbed : ¬ x3 = 1) (hn0 : 0 ≤ n) (hn1 : n ≤ 4000) : Calls Try.prog 110 #[.pointer (some ⟨p, o, none⟩), .int .i64 n] w (EvPost n ⟨5, x1, x2, x3, x4, x5⟩ w) := by
  have c0 := H.c0
  have c1 := H.c1
  have c2 := H.c2
  have c3 := H.c3
  have c4 := H.c4
  have c5 := H.c5
  simp only at c0 c1 c2 c3 c4 c5
  clear H
  have HBED := hid hbed
  clear hbed
  obtain ⟨q, hq⟩ : ∃ q, q = evB n ⟨5, x1, x2, x3, x4, x5⟩ := ⟨_, rfl⟩
  have hE := hid (fun (z : Int) (w' : World) (h : q = true → z = nxt n ⟨5, x1, x2, x3, x4, x5⟩) (hb : Below w.heap.size w w') => (show EvPost n ⟨5, x1, x2, x3, x4, x5⟩ w (.returned (.tuple #[.int .i64 z, .bool q])) w' from ⟨z, by rw [hq], fun h2 => h (by rw [hq]; exact h2), hb⟩))
  replace hq : q = (yarnB ⟨5, x1, x2, x3, x4, x5⟩ && decide (1 ≤ x2 ∧ x2 ≤ 4) && (if x3 = 2 then decide (x2 ≤ x1 ∧ x1 ≤ n) else decide (0 ≤ x1 ∧ x1 ≤ n - x2))) := hq
  obtain ⟨P, hP⟩ : ∃ P, P = EvPost n ⟨5, x1, x2, x3, x4, x5⟩ w := ⟨_, rfl⟩
  rw [← hP] at hE ⊢
  clear hP
  obtain ⟨b0, hb0⟩ : ∃ b, b = bedB x3 := ⟨_, rfl⟩
  obtain ⟨b1, hb1⟩ : ∃ b, b = carB x4 := ⟨_, rfl⟩
  obtain ⟨b2, hb2⟩ : ∃ b, b = dirB x5 := ⟨_, rfl⟩
  have A0 := hid (fun w1 => show Calls Try.prog 125 #[.int .i64 x3] w1 fun e w2 => e = .returned (.bool b0) ∧ w1 = w2 from by rw [hb0]; exact nd.specBed _ w1)
  have A1 := hid (fun w1 => show Calls Try.prog 57 #[.int .i64 x4] w1 fun e w2 => e = .returned (.bool b1) ∧ w1 = w2 from by rw [hb1]; exact specYarn _ w1)
  have A2 := hid (fun w1 => show Calls Try.prog 70 #[.int .i64 x5] w1 fun e w2 => e = .returned (.bool b2) ∧ w1 = w2 from by rw [hb2]; exact specDir _ w1)
  obtain ⟨y, hy⟩ : ∃ y, y = yarnB ⟨5, x1, x2, x3, x4, x5⟩ := ⟨_, rfl⟩
  have HY : Hid (y = (b0 && b1 && b2)) := hid (by rw [hy, hb0, hb1, hb2]; rfl)
  have HB : Hid (y = true → 1 ≤ x3 ∧ x3 ≤ 2) := hid (by rw [hy]; simp [yarnB, bedB]; omega)
  obtain ⟨z0, hz0⟩ : ∃ b, (x3 == 0) = b := ⟨_, rfl⟩
  obtain ⟨z1, hz1⟩ : ∃ b, (x4 == 0) = b := ⟨_, rfl⟩
  obtain ⟨z2, hz2⟩ : ∃ b, (x5 == 0) = b := ⟨_, rfl⟩
  obtain ⟨u, hu⟩ : ∃ u, u = noneB ⟨5, x1, x2, x3, x4, x5⟩ := ⟨_, rfl⟩
  have HN : Hid (u = (z0 && z1 && z2)) := hid (by rw [hu, ← hz0, ← hz1, ← hz2]; rfl)
  try rw [← hy] at hq
  try rw [← hu] at hq
  clear hy hu hb0 hb1 hb2
  go_enter Try.func110, Try.ntmps110
  go_upto_region 1 with fail
  go_cut [6] from 9 to 206 (fun s6 wx => s6 = .bool y ∧ w = wx)
  case first =>
    cases b0
    · have HY2 := hid (HY.out.trans (by simp : _ = false))
      clear HY HN
      go_wp2_with (go_at_call 125; refine (A0.out _).mono ?_; rintro e w2 ⟨rfl, rfl⟩)
      go_meet
      exact ⟨by rw [HY2.out], rfl⟩
    · cases b1
      · have HY2 := hid (HY.out.trans (by simp : _ = false))
        clear HY HN
        go_wp2_with (first | (go_at_call 125; refine (A0.out _).mono ?_; rintro e w2 ⟨rfl, rfl⟩) | (go_at_call 57; refine (A1.out _).mono ?_; rintro e w2 ⟨rfl, rfl⟩))
        go_meet
        exact ⟨by rw [HY2.out], rfl⟩
      · have HY2 := hid (HY.out.trans (by simp : _ = b2))
        clear HY HN
        go_wp2_with (first | (go_at_call 125; refine (A0.out _).mono ?_; rintro e w2 ⟨rfl, rfl⟩) | (go_at_call 57; refine (A1.out _).mono ?_; rintro e w2 ⟨rfl, rfl⟩) | (go_at_call 70; refine (A2.out _).mono ?_; rintro e w2 ⟨rfl, rfl⟩))
        go_meet
        exact ⟨by rw [HY2.out], rfl⟩
  case rest =>
    obtain ⟨rfl, rfl⟩ := hcut
    clear A0 A1 A2
    go_upto_region 2 with fail
    go_cut [7] from 9 to 206 (fun s7 wx => s7 = .bool u ∧ w = wx)
    case first =>
      cases z0
      · have HN2 := hid (HN.out.trans (by simp : _ = false))
        clear HN HY
        go_wp2
        go_meet
        exact ⟨by rw [HN2.out], rfl⟩
      · cases z1
        · have HN2 := hid (HN.out.trans (by simp : _ = false))
          clear HN HY
          go_wp2
          go_meet
          exact ⟨by rw [HN2.out], rfl⟩
        · have HN2 := hid (HN.out.trans (by simp : _ = z2))
          clear HN HY
          go_wp2
          go_meet
          exact ⟨by rw [HN2.out], rfl⟩
    case rest =>
      obtain ⟨rfl, rfl⟩ := hcut
      clear HY HN
      have hbed := HBED.out
      have hneb : (x3 == 1) = false := by simpa using hbed
      clear hbed
      have hw0 : IntKind.i64.wrap (n + 1) = n + 1 := by rw [IntKind.wrap_i64]; omega
      have hI := hid (fun w1 => (nd.specIn x2 1 4 w1))
      cases y
      · have hneb := hneb
        have HQ : Hid (q = false) := hid (by rw [hq]; simp)
        clear hq HB
        try clear hbed
        go_wp2_with (go_at_call 56; refine (hI.out _).mono ?_; rintro e w2 ⟨rfl, rfl⟩)
        go_big_quiet (fail)
        go_wp2
        try go_ret2
        exact (by rw [HQ.out] at hE; exact hE.out _ _ (fun h => by cases h) (by first | exact Below.refl _ _ | exact bdrewN (Below.refl _ _) _))
      · have hbd := HB.out rfl
        have hbed := HBED.out
        by_cases hc : 1 ≤ x2 ∧ x2 ≤ 4
        · have hd : decide (1 ≤ x2 ∧ x2 ≤ 4) = true := decide_eq_true hc
          rw [hd] at hq hI
          obtain ⟨hc0, hc1⟩ := hc
          have hw3 : IntKind.i64.wrap (x1 + x2) = x1 + x2 := by rw [IntKind.wrap_i64]; omega
          have HQ : Hid (q = decide (x2 ≤ x1)) := hid (by rw [hq, if_pos (by omega), show decide (x2 ≤ x1 ∧ x1 ≤ n) = decide (x2 ≤ x1) from decide_eq_decide.2 (by omega)]; simp)
          clear hq HB
          try clear hbed
          go_wp2_with (go_at_call 56; refine (hI.out _).mono ?_; rintro e w2 ⟨rfl, rfl⟩)
          go_big_quiet (fail)
          go_wp2
          try go_ret2
          exact (by rw [HQ.out] at hE; exact hE.out _ _ (fun _ => by simp [nxt]) (by first | exact Below.refl _ _ | exact bdrewN (Below.refl _ _) _))
        · have hd : decide (1 ≤ x2 ∧ x2 ≤ 4) = false := decide_eq_false hc
          rw [hd] at hq hI
          clear hc
          have HQ : Hid (q = false) := hid (by rw [hq]; simp)
          clear hq HB
          try clear hbed
          go_wp2_with (go_at_call 56; refine (hI.out _).mono ?_; rintro e w2 ⟨rfl, rfl⟩)
          go_big_quiet (fail)
          go_wp2
          try go_ret2
          exact (by rw [HQ.out] at hE; exact hE.out _ _ (fun h => by cases h) (by first | exact Below.refl _ _ | exact bdrewN (Below.refl _ _) _))

set_option maxRecDepth 100000 in
set_option maxHeartbeats 1000000 in
theorem specVo (x0 x1 x2 x3 x4 x5 n : Int) (p o : Nat) (w : World) (H : At w p o ⟨x0, x1, x2, x3, x4, x5⟩) (h0 : 0 ≤ x1) (h1 : x1 ≤ n) (g1 : ¬ x0 = 1) (g2 : ¬ x0 = 2) (g3 : ¬ x0 = 3) (g4 : ¬ x0 = 4) (g5 : ¬ x0 = 5) (hn0 : 0 ≤ n) (hn1 : n ≤ 4000) : Calls Try.prog 110 #[.pointer (some ⟨p, o, none⟩), .int .i64 n] w (EvPost n ⟨x0, x1, x2, x3, x4, x5⟩ w) := by
  have c0 := H.c0
  have c1 := H.c1
  have c2 := H.c2
  have c3 := H.c3
  have c4 := H.c4
  have c5 := H.c5
  simp only at c0 c1 c2 c3 c4 c5
  clear H
  obtain ⟨q, hq⟩ : ∃ q, q = evB n ⟨x0, x1, x2, x3, x4, x5⟩ := ⟨_, rfl⟩
  have hE := hid (fun (z : Int) (w' : World) (h : q = true → z = nxt n ⟨x0, x1, x2, x3, x4, x5⟩) (hb : Below w.heap.size w w') => (show EvPost n ⟨x0, x1, x2, x3, x4, x5⟩ w (.returned (.tuple #[.int .i64 z, .bool q])) w' from ⟨z, by rw [hq], fun h2 => h (by rw [hq]; exact h2), hb⟩))
  replace hq : q = (false) := by rw [hq]; simp only [evB]; rw [if_neg g1, if_neg g2, if_neg g3, if_neg g4, if_neg g5]
  subst hq
  have hq : True := trivial
  obtain ⟨P, hP⟩ : ∃ P, P = EvPost n ⟨x0, x1, x2, x3, x4, x5⟩ w := ⟨_, rfl⟩
  rw [← hP] at hE ⊢
  clear hP
  obtain ⟨b0, hb0⟩ : ∃ b, b = bedB x3 := ⟨_, rfl⟩
  obtain ⟨b1, hb1⟩ : ∃ b, b = carB x4 := ⟨_, rfl⟩
  obtain ⟨b2, hb2⟩ : ∃ b, b = dirB x5 := ⟨_, rfl⟩
  have A0 := hid (fun w1 => show Calls Try.prog 125 #[.int .i64 x3] w1 fun e w2 => e = .returned (.bool b0) ∧ w1 = w2 from by rw [hb0]; exact nd.specBed _ w1)
  have A1 := hid (fun w1 => show Calls Try.prog 57 #[.int .i64 x4] w1 fun e w2 => e = .returned (.bool b1) ∧ w1 = w2 from by rw [hb1]; exact specYarn _ w1)
  have A2 := hid (fun w1 => show Calls Try.prog 70 #[.int .i64 x5] w1 fun e w2 => e = .returned (.bool b2) ∧ w1 = w2 from by rw [hb2]; exact specDir _ w1)
  obtain ⟨y, hy⟩ : ∃ y, y = yarnB ⟨x0, x1, x2, x3, x4, x5⟩ := ⟨_, rfl⟩
  have HY : Hid (y = (b0 && b1 && b2)) := hid (by rw [hy, hb0, hb1, hb2]; rfl)
  have HB : Hid (y = true → 1 ≤ x3 ∧ x3 ≤ 2) := hid (by rw [hy]; simp [yarnB, bedB]; omega)
  obtain ⟨z0, hz0⟩ : ∃ b, (x3 == 0) = b := ⟨_, rfl⟩
  obtain ⟨z1, hz1⟩ : ∃ b, (x4 == 0) = b := ⟨_, rfl⟩
  obtain ⟨z2, hz2⟩ : ∃ b, (x5 == 0) = b := ⟨_, rfl⟩
  obtain ⟨u, hu⟩ : ∃ u, u = noneB ⟨x0, x1, x2, x3, x4, x5⟩ := ⟨_, rfl⟩
  have HN : Hid (u = (z0 && z1 && z2)) := hid (by rw [hu, ← hz0, ← hz1, ← hz2]; rfl)
  try rw [← hy] at hq
  try rw [← hu] at hq
  clear hy hu hb0 hb1 hb2
  have e1 : (x0 == 1) = false := by simpa using g1
  have e2 : (x0 == 2) = false := by simpa using g2
  have e3 : (x0 == 3) = false := by simpa using g3
  have e4 : (x0 == 4) = false := by simpa using g4
  have e5 : (x0 == 5) = false := by simpa using g5
  go_enter Try.func110, Try.ntmps110
  go_upto_region 1 with fail
  go_cut [6] from 9 to 206 (fun s6 wx => s6 = .bool y ∧ w = wx)
  case first =>
    cases b0
    · have HY2 := hid (HY.out.trans (by simp : _ = false))
      clear HY HN
      go_wp2_with (go_at_call 125; refine (A0.out _).mono ?_; rintro e w2 ⟨rfl, rfl⟩)
      go_meet
      exact ⟨by rw [HY2.out], rfl⟩
    · cases b1
      · have HY2 := hid (HY.out.trans (by simp : _ = false))
        clear HY HN
        go_wp2_with (first | (go_at_call 125; refine (A0.out _).mono ?_; rintro e w2 ⟨rfl, rfl⟩) | (go_at_call 57; refine (A1.out _).mono ?_; rintro e w2 ⟨rfl, rfl⟩))
        go_meet
        exact ⟨by rw [HY2.out], rfl⟩
      · have HY2 := hid (HY.out.trans (by simp : _ = b2))
        clear HY HN
        go_wp2_with (first | (go_at_call 125; refine (A0.out _).mono ?_; rintro e w2 ⟨rfl, rfl⟩) | (go_at_call 57; refine (A1.out _).mono ?_; rintro e w2 ⟨rfl, rfl⟩) | (go_at_call 70; refine (A2.out _).mono ?_; rintro e w2 ⟨rfl, rfl⟩))
        go_meet
        exact ⟨by rw [HY2.out], rfl⟩
  case rest =>
    obtain ⟨rfl, rfl⟩ := hcut
    clear A0 A1 A2
    go_upto_region 2 with fail
    go_cut [7] from 9 to 206 (fun s7 wx => s7 = .bool u ∧ w = wx)
    case first =>
      cases z0
      · have HN2 := hid (HN.out.trans (by simp : _ = false))
        clear HN HY
        go_wp2
        go_meet
        exact ⟨by rw [HN2.out], rfl⟩
      · cases z1
        · have HN2 := hid (HN.out.trans (by simp : _ = false))
          clear HN HY
          go_wp2
          go_meet
          exact ⟨by rw [HN2.out], rfl⟩
        · have HN2 := hid (HN.out.trans (by simp : _ = z2))
          clear HN HY
          go_wp2
          go_meet
          exact ⟨by rw [HN2.out], rfl⟩
    case rest =>
      obtain ⟨rfl, rfl⟩ := hcut
      clear hq HY HN HB
      go_wp2
      try go_ret2
      exact hE.out _ _ (fun h => by cases h) (Below.refl _ _)

theorem specV (x : V) (n : Int) (p o : Nat) (w : World) (H : At w p o x) (hn0 : 0 ≤ n) (hn1 : n ≤ 4000) : Calls Try.prog 110 #[.pointer (some ⟨p, o, none⟩), .int .i64 n] w (EvPost n x w) := by
  obtain ⟨x0, x1, x2, x3, x4, x5⟩ := x
  by_cases h0 : x1 < 0
  · exact specVlo _ _ _ _ _ _ n p o w H h0 hn0 hn1
  by_cases h1 : n < x1
  · exact specVhi _ _ _ _ _ _ n p o w H (by omega) h1 hn0 hn1
  by_cases g1 : x0 = 1
  · subst g1; exact specV1 _ _ _ _ _ n p o w H (by omega) (by omega) hn0 hn1
  by_cases g2 : x0 = 2
  · subst g2; exact specV2 _ _ _ _ _ n p o w H (by omega) (by omega) hn0 hn1
  by_cases g3 : x0 = 3
  · subst g3; exact specV3 _ _ _ _ _ n p o w H (by omega) (by omega) hn0 hn1
  by_cases g4 : x0 = 4
  · subst g4; exact specV4 _ _ _ _ _ n p o w H (by omega) (by omega) hn0 hn1
  by_cases g5 : x0 = 5
  · subst g5
    by_cases hb : x3 = 1
    · exact specV5f _ _ _ _ _ n p o w H (by omega) (by omega) hb hn0 hn1
    · exact specV5b _ _ _ _ _ n p o w H (by omega) (by omega) hb hn0 hn1
  exact specVo _ _ _ _ _ _ n p o w H (by omega) (by omega) g1 g2 g3 g4 g5 hn0 hn1
end Go.Proofs.Ytiacfejileeieaa.ev
