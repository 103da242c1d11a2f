/-
  The model's l10Event: places out of range, other kinds, crossings and tucks.
-/
import Derived.Test.YtiacfejileeieaaEvm
import Derived.Deep.CutRange
namespace Go.Proofs.Ytiacfejileeieaa.ev
open Go.RowKit Go.Sort Go.Proofs.Ytiacfejileeieaa.sl Go.Proofs.Ytiacfejileeieaa.nd Go.Proofs.Ytiacfejileeieaa.vo
set_option linter.unusedVariables false
set_option linter.unusedSimpArgs false

def EvPost (n : Int) (x : V) (w : World) (e : Ending) (w' : World) : Prop := ∃ z : Int, e = .returned (.tuple #[.int .i64 z, .bool (evB n x)]) ∧ (evB n x = true → z = nxt n x) ∧ Below w.heap.size w w'
theorem ev_out {n : Int} {x : V} (h : x.a1 < 0 ∨ n < x.a1) (hn : 0 ≤ n) : evB n x = false := by
  obtain ⟨x0, x1, x2, x3, x4, x5⟩ := x
  simp only at h
  unfold evB
  simp only
  repeat' split
  all_goals (simp; try omega)

set_option maxRecDepth 100000 in
set_option maxHeartbeats 1000000 in
theorem specVlo (x0 x1 x2 x3 x4 x5 n : Int) (p o : Nat) (w : World) (H : At w p o ⟨x0, x1, x2, x3, x4, x5⟩) (hlo : x1 < 0) (hn0 : 0 ≤ n) (hn1 : n ≤ 4000) : Calls Try.prog 110 #[.pointer (some ⟨p, o, none⟩), .int .i64 n] w (EvPost n ⟨x0, x1, x2, x3, x4, x5⟩ w) := by
  have c0 := H.c0
  have c1 := H.c1
  have c2 := H.c2
  have c3 := H.c3
  have c4 := H.c4
  have c5 := H.c5
  simp only at c0 c1 c2 c3 c4 c5
  clear H
  obtain ⟨q, hq⟩ : ∃ q, q = evB n ⟨x0, x1, x2, x3, x4, x5⟩ := ⟨_, rfl⟩
  have hE := hid (fun (z : Int) (w' : World) (h : q = true → z = nxt n ⟨x0, x1, x2, x3, x4, x5⟩) (hb : Below w.heap.size w w') => (show EvPost n ⟨x0, x1, x2, x3, x4, x5⟩ w (.returned (.tuple #[.int .i64 z, .bool q])) w' from ⟨z, by rw [hq], fun h2 => h (by rw [hq]; exact h2), hb⟩))
  replace hq : q = (false) := by rw [hq]; exact ev_out (.inl hlo) hn0
  subst hq
  have hq : True := trivial
  obtain ⟨P, hP⟩ : ∃ P, P = EvPost n ⟨x0, x1, x2, x3, x4, x5⟩ w := ⟨_, rfl⟩
  rw [← hP] at hE ⊢
  clear hP
  obtain ⟨b0, hb0⟩ : ∃ b, b = bedB x3 := ⟨_, rfl⟩
  obtain ⟨b1, hb1⟩ : ∃ b, b = carB x4 := ⟨_, rfl⟩
  obtain ⟨b2, hb2⟩ : ∃ b, b = dirB x5 := ⟨_, rfl⟩
  have A0 := hid (fun w1 => show Calls Try.prog 125 #[.int .i64 x3] w1 fun e w2 => e = .returned (.bool b0) ∧ w1 = w2 from by rw [hb0]; exact nd.specBed _ w1)
  have A1 := hid (fun w1 => show Calls Try.prog 57 #[.int .i64 x4] w1 fun e w2 => e = .returned (.bool b1) ∧ w1 = w2 from by rw [hb1]; exact specYarn _ w1)
  have A2 := hid (fun w1 => show Calls Try.prog 70 #[.int .i64 x5] w1 fun e w2 => e = .returned (.bool b2) ∧ w1 = w2 from by rw [hb2]; exact specDir _ w1)
  obtain ⟨y, hy⟩ : ∃ y, y = yarnB ⟨x0, x1, x2, x3, x4, x5⟩ := ⟨_, rfl⟩
  have HY : Hid (y = (b0 && b1 && b2)) := hid (by rw [hy, hb0, hb1, hb2]; rfl)
  have HB : Hid (y = true → 1 ≤ x3 ∧ x3 ≤ 2) := hid (by rw [hy]; simp [yarnB, bedB]; omega)
  obtain ⟨z0, hz0⟩ : ∃ b, (x3 == 0) = b := ⟨_, rfl⟩
  obtain ⟨z1, hz1⟩ : ∃ b, (x4 == 0) = b := ⟨_, rfl⟩
  obtain ⟨z2, hz2⟩ : ∃ b, (x5 == 0) = b := ⟨_, rfl⟩
  obtain ⟨u, hu⟩ : ∃ u, u = noneB ⟨x0, x1, x2, x3, x4, x5⟩ := ⟨_, rfl⟩
  have HN : Hid (u = (z0 && z1 && z2)) := hid (by rw [hu, ← hz0, ← hz1, ← hz2]; rfl)
  try rw [← hy] at hq
  try rw [← hu] at hq
  clear hy hu hb0 hb1 hb2
  go_enter Try.func110, Try.ntmps110
  go_upto_region 1 with fail
  go_cut [6] from 9 to 206 (fun s6 wx => s6 = .bool y ∧ w = wx)
  case first =>
    cases b0
    · have HY2 := hid (HY.out.trans (by simp : _ = false))
      clear HY HN
      go_wp2_with (go_at_call 125; refine (A0.out _).mono ?_; rintro e w2 ⟨rfl, rfl⟩)
      go_meet
      exact ⟨by rw [HY2.out], rfl⟩
    · cases b1
      · have HY2 := hid (HY.out.trans (by simp : _ = false))
        clear HY HN
        go_wp2_with (first | (go_at_call 125; refine (A0.out _).mono ?_; rintro e w2 ⟨rfl, rfl⟩) | (go_at_call 57; refine (A1.out _).mono ?_; rintro e w2 ⟨rfl, rfl⟩))
        go_meet
        exact ⟨by rw [HY2.out], rfl⟩
      · have HY2 := hid (HY.out.trans (by simp : _ = b2))
        clear HY HN
        go_wp2_with (first | (go_at_call 125; refine (A0.out _).mono ?_; rintro e w2 ⟨rfl, rfl⟩) | (go_at_call 57; refine (A1.out _).mono ?_; rintro e w2 ⟨rfl, rfl⟩) | (go_at_call 70; refine (A2.out _).mono ?_; rintro e w2 ⟨rfl, rfl⟩))
        go_meet
        exact ⟨by rw [HY2.out], rfl⟩
  case rest =>
    obtain ⟨rfl, rfl⟩ := hcut
    clear A0 A1 A2
    go_upto_region 2 with fail
    go_cut [7] from 9 to 206 (fun s7 wx => s7 = .bool u ∧ w = wx)
    case first =>
      cases z0
      · have HN2 := hid (HN.out.trans (by simp : _ = false))
        clear HN HY
        go_wp2
        go_meet
        exact ⟨by rw [HN2.out], rfl⟩
      · cases z1
        · have HN2 := hid (HN.out.trans (by simp : _ = false))
          clear HN HY
          go_wp2
          go_meet
          exact ⟨by rw [HN2.out], rfl⟩
        · have HN2 := hid (HN.out.trans (by simp : _ = z2))
          clear HN HY
          go_wp2
          go_meet
          exact ⟨by rw [HN2.out], rfl⟩
    case rest =>
      obtain ⟨rfl, rfl⟩ := hcut
      clear hq HY HN HB
      go_wp2
      try go_ret2
      exact hE.out _ _ (fun h => by cases h) (Below.refl _ _)

set_option maxRecDepth 100000 in
set_option maxHeartbeats 1000000 in
theorem specVhi (x0 x1 x2 x3 x4 x5 n : Int) (p o : Nat) (w : World) (H : At w p o ⟨x0, x1, x2, x3, x4, x5⟩) (h0 : 0 ≤ x1) (hhi : n < x1) (hn0 : 0 ≤ n) (hn1 : n ≤ 4000) : Calls Try.prog 110 #[.pointer (some ⟨p, o, none⟩), .int .i64 n] w (EvPost n ⟨x0, x1, x2, x3, x4, x5⟩ w) := by
  have c0 := H.c0
  have c1 := H.c1
  have c2 := H.c2
  have c3 := H.c3
  have c4 := H.c4
  have c5 := H.c5
  simp only at c0 c1 c2 c3 c4 c5
  clear H
  obtain ⟨q, hq⟩ : ∃ q, q = evB n ⟨x0, x1, x2, x3, x4, x5⟩ := ⟨_, rfl⟩
  have hE := hid (fun (z : Int) (w' : World) (h : q = true → z = nxt n ⟨x0, x1, x2, x3, x4, x5⟩) (hb : Below w.heap.size w w') => (show EvPost n ⟨x0, x1, x2, x3, x4, x5⟩ w (.returned (.tuple #[.int .i64 z, .bool q])) w' from ⟨z, by rw [hq], fun h2 => h (by rw [hq]; exact h2), hb⟩))
  replace hq : q = (false) := by rw [hq]; exact ev_out (.inr hhi) hn0
  subst hq
  have hq : True := trivial
  obtain ⟨P, hP⟩ : ∃ P, P = EvPost n ⟨x0, x1, x2, x3, x4, x5⟩ w := ⟨_, rfl⟩
  rw [← hP] at hE ⊢
  clear hP
  obtain ⟨b0, hb0⟩ : ∃ b, b = bedB x3 := ⟨_, rfl⟩
  obtain ⟨b1, hb1⟩ : ∃ b, b = carB x4 := ⟨_, rfl⟩
  obtain ⟨b2, hb2⟩ : ∃ b, b = dirB x5 := ⟨_, rfl⟩
  have A0 := hid (fun w1 => show Calls Try.prog 125 #[.int .i64 x3] w1 fun e w2 => e = .returned (.bool b0) ∧ w1 = w2 from by rw [hb0]; exact nd.specBed _ w1)
  have A1 := hid (fun w1 => show Calls Try.prog 57 #[.int .i64 x4] w1 fun e w2 => e = .returned (.bool b1) ∧ w1 = w2 from by rw [hb1]; exact specYarn _ w1)
  have A2 := hid (fun w1 => show Calls Try.prog 70 #[.int .i64 x5] w1 fun e w2 => e = .returned (.bool b2) ∧ w1 = w2 from by rw [hb2]; exact specDir _ w1)
  obtain ⟨y, hy⟩ : ∃ y, y = yarnB ⟨x0, x1, x2, x3, x4, x5⟩ := ⟨_, rfl⟩
  have HY : Hid (y = (b0 && b1 && b2)) := hid (by rw [hy, hb0, hb1, hb2]; rfl)
  have HB : Hid (y = true → 1 ≤ x3 ∧ x3 ≤ 2) := hid (by rw [hy]; simp [yarnB, bedB]; omega)
  obtain ⟨z0, hz0⟩ : ∃ b, (x3 == 0) = b := ⟨_, rfl⟩
  obtain ⟨z1, hz1⟩ : ∃ b, (x4 == 0) = b := ⟨_, rfl⟩
  obtain ⟨z2, hz2⟩ : ∃ b, (x5 == 0) = b := ⟨_, rfl⟩
  obtain ⟨u, hu⟩ : ∃ u, u = noneB ⟨x0, x1, x2, x3, x4, x5⟩ := ⟨_, rfl⟩
  have HN : Hid (u = (z0 && z1 && z2)) := hid (by rw [hu, ← hz0, ← hz1, ← hz2]; rfl)
  try rw [← hy] at hq
  try rw [← hu] at hq
  clear hy hu hb0 hb1 hb2
  go_enter Try.func110, Try.ntmps110
  go_upto_region 1 with fail
  go_cut [6] from 9 to 206 (fun s6 wx => s6 = .bool y ∧ w = wx)
  case first =>
    cases b0
    · have HY2 := hid (HY.out.trans (by simp : _ = false))
      clear HY HN
      go_wp2_with (go_at_call 125; refine (A0.out _).mono ?_; rintro e w2 ⟨rfl, rfl⟩)
      go_meet
      exact ⟨by rw [HY2.out], rfl⟩
    · cases b1
      · have HY2 := hid (HY.out.trans (by simp : _ = false))
        clear HY HN
        go_wp2_with (first | (go_at_call 125; refine (A0.out _).mono ?_; rintro e w2 ⟨rfl, rfl⟩) | (go_at_call 57; refine (A1.out _).mono ?_; rintro e w2 ⟨rfl, rfl⟩))
        go_meet
        exact ⟨by rw [HY2.out], rfl⟩
      · have HY2 := hid (HY.out.trans (by simp : _ = b2))
        clear HY HN
        go_wp2_with (first | (go_at_call 125; refine (A0.out _).mono ?_; rintro e w2 ⟨rfl, rfl⟩) | (go_at_call 57; refine (A1.out _).mono ?_; rintro e w2 ⟨rfl, rfl⟩) | (go_at_call 70; refine (A2.out _).mono ?_; rintro e w2 ⟨rfl, rfl⟩))
        go_meet
        exact ⟨by rw [HY2.out], rfl⟩
  case rest =>
    obtain ⟨rfl, rfl⟩ := hcut
    clear A0 A1 A2
    go_upto_region 2 with fail
    go_cut [7] from 9 to 206 (fun s7 wx => s7 = .bool u ∧ w = wx)
    case first =>
      cases z0
      · have HN2 := hid (HN.out.trans (by simp : _ = false))
        clear HN HY
        go_wp2
        go_meet
        exact ⟨by rw [HN2.out], rfl⟩
      · cases z1
        · have HN2 := hid (HN.out.trans (by simp : _ = false))
          clear HN HY
          go_wp2
          go_meet
          exact ⟨by rw [HN2.out], rfl⟩
        · have HN2 := hid (HN.out.trans (by simp : _ = z2))
          clear HN HY
          go_wp2
          go_meet
          exact ⟨by rw [HN2.out], rfl⟩
    case rest =>
      obtain ⟨rfl, rfl⟩ := hcut
      clear hq HY HN HB
      go_wp2
      try go_ret2
      exact hE.out _ _ (fun h => by cases h) (Below.refl _ _)

set_option maxRecDepth 100000 in
set_option maxHeartbeats 1000000 in
theorem specV1 (x1 x2 x3 x4 x5 n : Int) (p o : Nat) (w : World) (H : At w p o ⟨1, x1, x2, x3, x4, x5⟩) (h0 : 0 ≤ x1) (h1 : x1 ≤ n) (hn0 : 0 ≤ n) (hn1 : n ≤ 4000) : Calls Try.prog 110 #[.pointer (some ⟨p, o, none⟩), .int .i64 n] w (EvPost n ⟨1, x1, x2, x3, x4, x5⟩ w) := by
  have c0 := H.c0
  have c1 := H.c1
  have c2 := H.c2
  have c3 := H.c3
  have c4 := H.c4
  have c5 := H.c5
  simp only at c0 c1 c2 c3 c4 c5
  clear H
  obtain ⟨q, hq⟩ : ∃ q, q = evB n ⟨1, x1, x2, x3, x4, x5⟩ := ⟨_, rfl⟩
  have hE := hid (fun (z : Int) (w' : World) (h : q = true → z = nxt n ⟨1, x1, x2, x3, x4, x5⟩) (hb : Below w.heap.size w w') => (show EvPost n ⟨1, x1, x2, x3, x4, x5⟩ w (.returned (.tuple #[.int .i64 z, .bool q])) w' from ⟨z, by rw [hq], fun h2 => h (by rw [hq]; exact h2), hb⟩))
  replace hq : q = (noneB ⟨1, x1, x2, x3, x4, x5⟩ && (x2 == 1 || x2 == -1) && decide (0 ≤ x1 ∧ x1 ≤ n - 2)) := hq
  obtain ⟨P, hP⟩ : ∃ P, P = EvPost n ⟨1, x1, x2, x3, x4, x5⟩ w := ⟨_, rfl⟩
  rw [← hP] at hE ⊢
  clear hP
  obtain ⟨b0, hb0⟩ : ∃ b, b = bedB x3 := ⟨_, rfl⟩
  obtain ⟨b1, hb1⟩ : ∃ b, b = carB x4 := ⟨_, rfl⟩
  obtain ⟨b2, hb2⟩ : ∃ b, b = dirB x5 := ⟨_, rfl⟩
  have A0 := hid (fun w1 => show Calls Try.prog 125 #[.int .i64 x3] w1 fun e w2 => e = .returned (.bool b0) ∧ w1 = w2 from by rw [hb0]; exact nd.specBed _ w1)
  have A1 := hid (fun w1 => show Calls Try.prog 57 #[.int .i64 x4] w1 fun e w2 => e = .returned (.bool b1) ∧ w1 = w2 from by rw [hb1]; exact specYarn _ w1)
  have A2 := hid (fun w1 => show Calls Try.prog 70 #[.int .i64 x5] w1 fun e w2 => e = .returned (.bool b2) ∧ w1 = w2 from by rw [hb2]; exact specDir _ w1)
  obtain ⟨y, hy⟩ : ∃ y, y = yarnB ⟨1, x1, x2, x3, x4, x5⟩ := ⟨_, rfl⟩
  have HY : Hid (y = (b0 && b1 && b2)) := hid (by rw [hy, hb0, hb1, hb2]; rfl)
  have HB : Hid (y = true → 1 ≤ x3 ∧ x3 ≤ 2) := hid (by rw [hy]; simp [yarnB, bedB]; omega)
  obtain ⟨z0, hz0⟩ : ∃ b, (x3 == 0) = b := ⟨_, rfl⟩
  obtain ⟨z1, hz1⟩ : ∃ b, (x4 == 0) = b := ⟨_, rfl⟩
  obtain ⟨z2, hz2⟩ : ∃ b, (x5 == 0) = b := ⟨_, rfl⟩
  obtain ⟨u, hu⟩ : ∃ u, u = noneB ⟨1, x1, x2, x3, x4, x5⟩ := ⟨_, rfl⟩
  have HN : Hid (u = (z0 && z1 && z2)) := hid (by rw [hu, ← hz0, ← hz1, ← hz2]; rfl)
  try rw [← hy] at hq
  try rw [← hu] at hq
  clear hy hu hb0 hb1 hb2
  go_enter Try.func110, Try.ntmps110
  go_upto_region 1 with fail
  go_cut [6] from 9 to 206 (fun s6 wx => s6 = .bool y ∧ w = wx)
  case first =>
    cases b0
    · have HY2 := hid (HY.out.trans (by simp : _ = false))
      clear HY HN
      go_wp2_with (go_at_call 125; refine (A0.out _).mono ?_; rintro e w2 ⟨rfl, rfl⟩)
      go_meet
      exact ⟨by rw [HY2.out], rfl⟩
    · cases b1
      · have HY2 := hid (HY.out.trans (by simp : _ = false))
        clear HY HN
        go_wp2_with (first | (go_at_call 125; refine (A0.out _).mono ?_; rintro e w2 ⟨rfl, rfl⟩) | (go_at_call 57; refine (A1.out _).mono ?_; rintro e w2 ⟨rfl, rfl⟩))
        go_meet
        exact ⟨by rw [HY2.out], rfl⟩
      · have HY2 := hid (HY.out.trans (by simp : _ = b2))
        clear HY HN
        go_wp2_with (first | (go_at_call 125; refine (A0.out _).mono ?_; rintro e w2 ⟨rfl, rfl⟩) | (go_at_call 57; refine (A1.out _).mono ?_; rintro e w2 ⟨rfl, rfl⟩) | (go_at_call 70; refine (A2.out _).mono ?_; rintro e w2 ⟨rfl, rfl⟩))
        go_meet
        exact ⟨by rw [HY2.out], rfl⟩
  case rest =>
    obtain ⟨rfl, rfl⟩ := hcut
    clear A0 A1 A2
    go_upto_region 2 with fail
    go_cut [7] from 9 to 206 (fun s7 wx => s7 = .bool u ∧ w = wx)
    case first =>
      cases z0
      · have HN2 := hid (HN.out.trans (by simp : _ = false))
        clear HN HY
        go_wp2
        go_meet
        exact ⟨by rw [HN2.out], rfl⟩
      · cases z1
        · have HN2 := hid (HN.out.trans (by simp : _ = false))
          clear HN HY
          go_wp2
          go_meet
          exact ⟨by rw [HN2.out], rfl⟩
        · have HN2 := hid (HN.out.trans (by simp : _ = z2))
          clear HN HY
          go_wp2
          go_meet
          exact ⟨by rw [HN2.out], rfl⟩
    case rest =>
      obtain ⟨rfl, rfl⟩ := hcut
      clear HY HN HB
      have hwr : IntKind.i64.wrap (x1 + 1) = x1 + 1 := by rw [IntKind.wrap_i64]; omega
      cases u
      · have HQ : Hid (q = false) := hid (by rw [hq]; first | done | rfl | (simp; done) | (simp; omega))
        clear hq
        go_wp2_with fail
        go_big_quiet (fail)
        go_wp2
        try go_ret2
        exact (by rw [HQ.out] at hE; exact hE.out _ _ (fun h => by cases h) (by first | exact Below.refl _ _ | exact bdrewN (Below.refl _ _) _))
      · by_cases e1 : x2 = 1
        · subst e1
          have HQ : Hid (q = decide (x1 + 1 < n)) := hid (by rw [hq, show decide (0 ≤ x1 ∧ x1 ≤ n - 2) = decide (x1 + 1 < n) from decide_eq_decide.2 (by omega)]; simp)
          clear hq
          go_wp2_with fail
          go_big_quiet (fail)
          go_wp2
          try go_ret2
          exact (by rw [HQ.out] at hE; exact hE.out _ _ (fun _ => by simp [nxt]) (by first | exact Below.refl _ _ | exact bdrewN (Below.refl _ _) _))
        · have e1b : (x2 == 1) = false := by simpa using e1
          by_cases e2 : x2 = -1
          · subst e2
            have HQ : Hid (q = decide (x1 + 1 < n)) := hid (by rw [hq, show decide (0 ≤ x1 ∧ x1 ≤ n - 2) = decide (x1 + 1 < n) from decide_eq_decide.2 (by omega)]; simp)
            clear hq
            go_wp2_with fail
            go_big_quiet (fail)
            go_wp2
            try go_ret2
            exact (by rw [HQ.out] at hE; exact hE.out _ _ (fun _ => by simp [nxt]) (by first | exact Below.refl _ _ | exact bdrewN (Below.refl _ _) _))
          · have e2b : (x2 == -1) = false := by simpa using e2
            rw [e1b, e2b] at hq
            have HQ : Hid (q = false) := hid (by rw [hq]; first | done | rfl | (simp; done) | (simp; omega))
            clear hq
            go_wp2_with fail
            go_big_quiet (fail)
            go_wp2
            try go_ret2
            exact (by rw [HQ.out] at hE; exact hE.out _ _ (fun h => by cases h) (by first | exact Below.refl _ _ | exact bdrewN (Below.refl _ _) _))

set_option maxRecDepth 100000 in
set_option maxHeartbeats 1000000 in
theorem specV3 (x1 x2 x3 x4 x5 n : Int) (p o : Nat) (w : World) (H : At w p o ⟨3, x1, x2, x3, x4, x5⟩) (h0 : 0 ≤ x1) (h1 : x1 ≤ n) (hn0 : 0 ≤ n) (hn1 : n ≤ 4000) : Calls Try.prog 110 #[.pointer (some ⟨p, o, none⟩), .int .i64 n] w (EvPost n ⟨3, x1, x2, x3, x4, x5⟩ w) := by
  have c0 := H.c0
  have c1 := H.c1
  have c2 := H.c2
  have c3 := H.c3
  have c4 := H.c4
  have c5 := H.c5
  simp only at c0 c1 c2 c3 c4 c5
  clear H
  obtain ⟨q, hq⟩ : ∃ q, q = evB n ⟨3, x1, x2, x3, x4, x5⟩ := ⟨_, rfl⟩
  have hE := hid (fun (z : Int) (w' : World) (h : q = true → z = nxt n ⟨3, x1, x2, x3, x4, x5⟩) (hb : Below w.heap.size w w') => (show EvPost n ⟨3, x1, x2, x3, x4, x5⟩ w (.returned (.tuple #[.int .i64 z, .bool q])) w' from ⟨z, by rw [hq], fun h2 => h (by rw [hq]; exact h2), hb⟩))
  replace hq : q = (yarnB ⟨3, x1, x2, x3, x4, x5⟩ && x2 == 0 && decide (0 ≤ x1 ∧ x1 ≤ n)) := hq
  obtain ⟨P, hP⟩ : ∃ P, P = EvPost n ⟨3, x1, x2, x3, x4, x5⟩ w := ⟨_, rfl⟩
  rw [← hP] at hE ⊢
  clear hP
  obtain ⟨b0, hb0⟩ : ∃ b, b = bedB x3 := ⟨_, rfl⟩
  obtain ⟨b1, hb1⟩ : ∃ b, b = carB x4 := ⟨_, rfl⟩
  obtain ⟨b2, hb2⟩ : ∃ b, b = dirB x5 := ⟨_, rfl⟩
  have A0 := hid (fun w1 => show Calls Try.prog 125 #[.int .i64 x3] w1 fun e w2 => e = .returned (.bool b0) ∧ w1 = w2 from by rw [hb0]; exact nd.specBed _ w1)
  have A1 := hid (fun w1 => show Calls Try.prog 57 #[.int .i64 x4] w1 fun e w2 => e = .returned (.bool b1) ∧ w1 = w2 from by rw [hb1]; exact specYarn _ w1)
  have A2 := hid (fun w1 => show Calls Try.prog 70 #[.int .i64 x5] w1 fun e w2 => e = .returned (.bool b2) ∧ w1 = w2 from by rw [hb2]; exact specDir _ w1)
  obtain ⟨y, hy⟩ : ∃ y, y = yarnB ⟨3, x1, x2, x3, x4, x5⟩ := ⟨_, rfl⟩
  have HY : Hid (y = (b0 && b1 && b2)) := hid (by rw [hy, hb0, hb1, hb2]; rfl)
  have HB : Hid (y = true → 1 ≤ x3 ∧ x3 ≤ 2) := hid (by rw [hy]; simp [yarnB, bedB]; omega)
  obtain ⟨z0, hz0⟩ : ∃ b, (x3 == 0) = b := ⟨_, rfl⟩
  obtain ⟨z1, hz1⟩ : ∃ b, (x4 == 0) = b := ⟨_, rfl⟩
  obtain ⟨z2, hz2⟩ : ∃ b, (x5 == 0) = b := ⟨_, rfl⟩
  obtain ⟨u, hu⟩ : ∃ u, u = noneB ⟨3, x1, x2, x3, x4, x5⟩ := ⟨_, rfl⟩
  have HN : Hid (u = (z0 && z1 && z2)) := hid (by rw [hu, ← hz0, ← hz1, ← hz2]; rfl)
  try rw [← hy] at hq
  try rw [← hu] at hq
  clear hy hu hb0 hb1 hb2
  go_enter Try.func110, Try.ntmps110
  go_upto_region 1 with fail
  go_cut [6] from 9 to 206 (fun s6 wx => s6 = .bool y ∧ w = wx)
  case first =>
    cases b0
    · have HY2 := hid (HY.out.trans (by simp : _ = false))
      clear HY HN
      go_wp2_with (go_at_call 125; refine (A0.out _).mono ?_; rintro e w2 ⟨rfl, rfl⟩)
      go_meet
      exact ⟨by rw [HY2.out], rfl⟩
    · cases b1
      · have HY2 := hid (HY.out.trans (by simp : _ = false))
        clear HY HN
        go_wp2_with (first | (go_at_call 125; refine (A0.out _).mono ?_; rintro e w2 ⟨rfl, rfl⟩) | (go_at_call 57; refine (A1.out _).mono ?_; rintro e w2 ⟨rfl, rfl⟩))
        go_meet
        exact ⟨by rw [HY2.out], rfl⟩
      · have HY2 := hid (HY.out.trans (by simp : _ = b2))
        clear HY HN
        go_wp2_with (first | (go_at_call 125; refine (A0.out _).mono ?_; rintro e w2 ⟨rfl, rfl⟩) | (go_at_call 57; refine (A1.out _).mono ?_; rintro e w2 ⟨rfl, rfl⟩) | (go_at_call 70; refine (A2.out _).mono ?_; rintro e w2 ⟨rfl, rfl⟩))
        go_meet
        exact ⟨by rw [HY2.out], rfl⟩
  case rest =>
    obtain ⟨rfl, rfl⟩ := hcut
    clear A0 A1 A2
    go_upto_region 2 with fail
    go_cut [7] from 9 to 206 (fun s7 wx => s7 = .bool u ∧ w = wx)
    case first =>
      cases z0
      · have HN2 := hid (HN.out.trans (by simp : _ = false))
        clear HN HY
        go_wp2
        go_meet
        exact ⟨by rw [HN2.out], rfl⟩
      · cases z1
        · have HN2 := hid (HN.out.trans (by simp : _ = false))
          clear HN HY
          go_wp2
          go_meet
          exact ⟨by rw [HN2.out], rfl⟩
        · have HN2 := hid (HN.out.trans (by simp : _ = z2))
          clear HN HY
          go_wp2
          go_meet
          exact ⟨by rw [HN2.out], rfl⟩
    case rest =>
      obtain ⟨rfl, rfl⟩ := hcut
      clear HY HN HB
      have hwr : IntKind.i64.wrap (n + 1) = n + 1 := by rw [IntKind.wrap_i64]; omega
      cases y
      · have HQ : Hid (q = false) := hid (by rw [hq]; first | done | rfl | (simp; done) | (simp; omega))
        clear hq
        go_wp2_with fail
        go_big_quiet (fail)
        go_wp2
        try go_ret2
        exact (by rw [HQ.out] at hE; exact hE.out _ _ (fun h => by cases h) (by first | exact Below.refl _ _ | exact bdrewN (Below.refl _ _) _))
      · by_cases e1 : x2 = 0
        · subst e1
          have HQ : Hid (q = true) := hid (by rw [hq]; first | done | rfl | (simp; done) | (simp; omega))
          clear hq
          go_wp2_with fail
          go_big_quiet (fail)
          go_wp2
          try go_ret2
          exact (by rw [HQ.out] at hE; exact hE.out _ _ (fun _ => by simp [nxt]) (by first | exact Below.refl _ _ | exact bdrewN (Below.refl _ _) _))
        · have e1b : (x2 == 0) = false := by simpa using e1
          rw [e1b] at hq
          have HQ : Hid (q = false) := hid (by rw [hq]; first | done | rfl | (simp; done) | (simp; omega))
          clear hq
          go_wp2_with fail
          go_big_quiet (fail)
          go_wp2
          try go_ret2
          exact (by rw [HQ.out] at hE; exact hE.out _ _ (fun h => by cases h) (by first | exact Below.refl _ _ | exact bdrewN (Below.refl _ _) _))

end Go.Proofs.Ytiacfejileeieaa.ev
