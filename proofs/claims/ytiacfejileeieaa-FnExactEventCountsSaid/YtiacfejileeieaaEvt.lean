/-
  The model's l10Event: knits, drops, splits; all kinds.
-/
import Derived.Test.YtiacfejileeieaaEvs
import Derived.Deep.CutRange
namespace Go.Proofs.Ytiacfejileeieaa.ev
open Go.RowKit Go.Sort Go.Proofs.Ytiacfejileeieaa.sl Go.Proofs.Ytiacfejileeieaa.nd Go.Proofs.Ytiacfejileeieaa.vo
set_option linter.unusedVariables false
set_option linter.unusedSimpArgs false

set_option maxRecDepth 100000 in
set_option maxHeartbeats 1000000 in
theorem specV2 (x1 x2 x3 x4 x5 n : Int) (p o : Nat) (w : World) (H : At w p o ⟨2, x1, x2, x3, x4, x5⟩) (h0 : 0 ≤ x1) (h1 : x1 ≤ n) (hn0 : 0 ≤ n) (hn1 : n ≤ 4000) : Calls Try.prog 110 #[.pointer (some ⟨p, o, none⟩), .int .i64 n] w (EvPost n ⟨2, x1, x2, x3, x4, x5⟩ w) := by
  have c0 := H.c0
  have c1 := H.c1
  have c2 := H.c2
  have c3 := H.c3
  have c4 := H.c4
  have c5 := H.c5
  simp only at c0 c1 c2 c3 c4 c5
  clear H
  obtain ⟨q, hq⟩ : ∃ q, q = evB n ⟨2, x1, x2, x3, x4, x5⟩ := ⟨_, rfl⟩
  have hE := hid (fun (z : Int) (w' : World) (h : q = true → z = nxt n ⟨2, x1, x2, x3, x4, x5⟩) (hb : Below w.heap.size w w') => (show EvPost n ⟨2, x1, x2, x3, x4, x5⟩ w (.returned (.tuple #[.int .i64 z, .bool q])) w' from ⟨z, by rw [hq], fun h2 => h (by rw [hq]; exact h2), hb⟩))
  replace hq : q = (yarnB ⟨2, x1, x2, x3, x4, x5⟩ && decide (0 ≤ x2 ∧ x2 ≤ 4) && decide (0 ≤ x1 ∧ x1 ≤ n - x2)) := hq
  obtain ⟨P, hP⟩ : ∃ P, P = EvPost n ⟨2, x1, x2, x3, x4, x5⟩ w := ⟨_, rfl⟩
  rw [← hP] at hE ⊢
  clear hP
  obtain ⟨b0, hb0⟩ : ∃ b, b = bedB x3 := ⟨_, rfl⟩
  obtain ⟨b1, hb1⟩ : ∃ b, b = carB x4 := ⟨_, rfl⟩
  obtain ⟨b2, hb2⟩ : ∃ b, b = dirB x5 := ⟨_, rfl⟩
  have A0 := hid (fun w1 => show Calls Try.prog 125 #[.int .i64 x3] w1 fun e w2 => e = .returned (.bool b0) ∧ w1 = w2 from by rw [hb0]; exact nd.specBed _ w1)
  have A1 := hid (fun w1 => show Calls Try.prog 57 #[.int .i64 x4] w1 fun e w2 => e = .returned (.bool b1) ∧ w1 = w2 from by rw [hb1]; exact specYarn _ w1)
  have A2 := hid (fun w1 => show Calls Try.prog 70 #[.int .i64 x5] w1 fun e w2 => e = .returned (.bool b2) ∧ w1 = w2 from by rw [hb2]; exact specDir _ w1)
  obtain ⟨y, hy⟩ : ∃ y, y = yarnB ⟨2, x1, x2, x3, x4, x5⟩ := ⟨_, rfl⟩
  have HY : Hid (y = (b0 && b1 && b2)) := hid (by rw [hy, hb0, hb1, hb2]; rfl)
  have HB : Hid (y = true → 1 ≤ x3 ∧ x3 ≤ 2) := hid (by rw [hy]; simp [yarnB, bedB]; omega)
  obtain ⟨z0, hz0⟩ : ∃ b, (x3 == 0) = b := ⟨_, rfl⟩
  obtain ⟨z1, hz1⟩ : ∃ b, (x4 == 0) = b := ⟨_, rfl⟩
  obtain ⟨z2, hz2⟩ : ∃ b, (x5 == 0) = b := ⟨_, rfl⟩
  obtain ⟨u, hu⟩ : ∃ u, u = noneB ⟨2, x1, x2, x3, x4, x5⟩ := ⟨_, rfl⟩
  have HN : Hid (u = (z0 && z1 && z2)) := hid (by rw [hu, ← hz0, ← hz1, ← hz2]; rfl)
  try rw [← hy] at hq
  try rw [← hu] at hq
  clear hy hu hb0 hb1 hb2
  go_enter Try.func110, Try.ntmps110
  go_upto_region 1 with fail
  go_cut [6] from 9 to 206 (fun s6 wx => s6 = .bool y ∧ w = wx)
  case first =>
    cases b0
    · have HY2 := hid (HY.out.trans (by simp : _ = false))
      clear HY HN
      go_wp2_with (go_at_call 125; refine (A0.out _).mono ?_; rintro e w2 ⟨rfl, rfl⟩)
      go_meet
      exact ⟨by rw [HY2.out], rfl⟩
    · cases b1
      · have HY2 := hid (HY.out.trans (by simp : _ = false))
        clear HY HN
        go_wp2_with (first | (go_at_call 125; refine (A0.out _).mono ?_; rintro e w2 ⟨rfl, rfl⟩) | (go_at_call 57; refine (A1.out _).mono ?_; rintro e w2 ⟨rfl, rfl⟩))
        go_meet
        exact ⟨by rw [HY2.out], rfl⟩
      · have HY2 := hid (HY.out.trans (by simp : _ = b2))
        clear HY HN
        go_wp2_with (first | (go_at_call 125; refine (A0.out _).mono ?_; rintro e w2 ⟨rfl, rfl⟩) | (go_at_call 57; refine (A1.out _).mono ?_; rintro e w2 ⟨rfl, rfl⟩) | (go_at_call 70; refine (A2.out _).mono ?_; rintro e w2 ⟨rfl, rfl⟩))
        go_meet
        exact ⟨by rw [HY2.out], rfl⟩
  case rest =>
    obtain ⟨rfl, rfl⟩ := hcut
    clear A0 A1 A2
    go_upto_region 2 with fail
    go_cut [7] from 9 to 206 (fun s7 wx => s7 = .bool u ∧ w = wx)
    case first =>
      cases z0
      · have HN2 := hid (HN.out.trans (by simp : _ = false))
        clear HN HY
        go_wp2
        go_meet
        exact ⟨by rw [HN2.out], rfl⟩
      · cases z1
        · have HN2 := hid (HN.out.trans (by simp : _ = false))
          clear HN HY
          go_wp2
          go_meet
          exact ⟨by rw [HN2.out], rfl⟩
        · have HN2 := hid (HN.out.trans (by simp : _ = z2))
          clear HN HY
          go_wp2
          go_meet
          exact ⟨by rw [HN2.out], rfl⟩
    case rest =>
      obtain ⟨rfl, rfl⟩ := hcut
      clear HY HN HB
      cases y
      · have HQ : Hid (q = false) := hid (by rw [hq]; first | done | rfl | (simp; done) | (simp; omega))
        clear hq
        go_wp2_with fail
        go_big_quiet (((go_at_call 56; exact Calls.quiet_of_same ((nd.specIn _ _ _ _).mono (fun _ _ ⟨e1, e2⟩ => ⟨e1, e2.symm⟩)))))
        go_wp2
        try go_ret2
        exact (by rw [HQ.out] at hE; exact hE.out _ _ (fun h => by cases h) (by first | exact Below.refl _ _ | exact bdrewN (Below.refl _ _) _))
      · by_cases hc : 0 ≤ x2 ∧ x2 ≤ 4
        · have hd : decide (0 ≤ x2 ∧ x2 ≤ 4) = true := decide_eq_true hc
          rw [hd] at hq
          have hI := hid (fun w1 => show Calls Try.prog 56 #[.int .i64 x2, .int .i64 0, .int .i64 4] w1 fun e w2 => e = .returned (.bool true) ∧ w2 = w1 from by rw [← hd]; exact (nd.specIn _ _ _ w1).mono (fun _ _ ⟨e1, e2⟩ => ⟨e1, e2.symm⟩))
          clear hd
          obtain ⟨hc0, hc1⟩ := hc
          have hw1 : IntKind.i64.wrap (n - x2) = n - x2 := by rw [IntKind.wrap_i64]; omega
          have hw2 : IntKind.i64.wrap (n - x2 + 1) = n - x2 + 1 := by rw [IntKind.wrap_i64]; omega
          have hw3 : IntKind.i64.wrap (x1 + x2) = x1 + x2 := by rw [IntKind.wrap_i64]; omega
          have HQ : Hid (q = decide (x1 + x2 ≤ n)) := hid (by rw [hq, show decide (0 ≤ x1 ∧ x1 ≤ n - x2) = decide (x1 + x2 ≤ n) from decide_eq_decide.2 (by omega)]; simp)
          clear hq
          go_wp2_with fail
          go_big_quiet (((go_at_call 56; exact Calls.quiet_of_same (hI.out _))))
          go_wp2
          try go_ret2
          exact (by rw [HQ.out] at hE; exact hE.out _ _ (fun _ => by simp [nxt]) (by first | exact Below.refl _ _ | exact bdrewN (Below.refl _ _) _))
        · have hd : decide (0 ≤ x2 ∧ x2 ≤ 4) = false := decide_eq_false hc
          rw [hd] at hq
          have hI := hid (fun w1 => show Calls Try.prog 56 #[.int .i64 x2, .int .i64 0, .int .i64 4] w1 fun e w2 => e = .returned (.bool false) ∧ w2 = w1 from by rw [← hd]; exact (nd.specIn _ _ _ w1).mono (fun _ _ ⟨e1, e2⟩ => ⟨e1, e2.symm⟩))
          clear hd hc
          have HQ : Hid (q = false) := hid (by rw [hq]; first | done | rfl | (simp; done) | (simp; omega))
          clear hq
          go_wp2_with fail
          go_big_quiet (((go_at_call 56; exact Calls.quiet_of_same (hI.out _))))
          go_wp2
          try go_ret2
          exact (by rw [HQ.out] at hE; exact hE.out _ _ (fun h => by cases h) (by first | exact Below.refl _ _ | exact bdrewN (Below.refl _ _) _))

set_option maxRecDepth 100000 in
set_option maxHeartbeats 1000000 in
theorem specV4 (x1 x2 x3 x4 x5 n : Int) (p o : Nat) (w : World) (H : At w p o ⟨4, x1, x2, x3, x4, x5⟩) (h0 : 0 ≤ x1) (h1 : x1 ≤ n) (hn0 : 0 ≤ n) (hn1 : n ≤ 4000) : Calls Try.prog 110 #[.pointer (some ⟨p, o, none⟩), .int .i64 n] w (EvPost n ⟨4, x1, x2, x3, x4, x5⟩ w) := by
  have c0 := H.c0
  have c1 := H.c1
  have c2 := H.c2
  have c3 := H.c3
  have c4 := H.c4
  have c5 := H.c5
  simp only at c0 c1 c2 c3 c4 c5
  clear H
  obtain ⟨q, hq⟩ : ∃ q, q = evB n ⟨4, x1, x2, x3, x4, x5⟩ := ⟨_, rfl⟩
  have hE := hid (fun (z : Int) (w' : World) (h : q = true → z = nxt n ⟨4, x1, x2, x3, x4, x5⟩) (hb : Below w.heap.size w w') => (show EvPost n ⟨4, x1, x2, x3, x4, x5⟩ w (.returned (.tuple #[.int .i64 z, .bool q])) w' from ⟨z, by rw [hq], fun h2 => h (by rw [hq]; exact h2), hb⟩))
  replace hq : q = (noneB ⟨4, x1, x2, x3, x4, x5⟩ && decide (1 ≤ x2 ∧ x2 ≤ 4) && decide (0 ≤ x1 ∧ x1 ≤ n - x2)) := hq
  obtain ⟨P, hP⟩ : ∃ P, P = EvPost n ⟨4, x1, x2, x3, x4, x5⟩ w := ⟨_, rfl⟩
  rw [← hP] at hE ⊢
  clear hP
  obtain ⟨b0, hb0⟩ : ∃ b, b = bedB x3 := ⟨_, rfl⟩
  obtain ⟨b1, hb1⟩ : ∃ b, b = carB x4 := ⟨_, rfl⟩
  obtain ⟨b2, hb2⟩ : ∃ b, b = dirB x5 := ⟨_, rfl⟩
  have A0 := hid (fun w1 => show Calls Try.prog 125 #[.int .i64 x3] w1 fun e w2 => e = .returned (.bool b0) ∧ w1 = w2 from by rw [hb0]; exact nd.specBed _ w1)
  have A1 := hid (fun w1 => show Calls Try.prog 57 #[.int .i64 x4] w1 fun e w2 => e = .returned (.bool b1) ∧ w1 = w2 from by rw [hb1]; exact specYarn _ w1)
  have A2 := hid (fun w1 => show Calls Try.prog 70 #[.int .i64 x5] w1 fun e w2 => e = .returned (.bool b2) ∧ w1 = w2 from by rw [hb2]; exact specDir _ w1)
  obtain ⟨y, hy⟩ : ∃ y, y = yarnB ⟨4, x1, x2, x3, x4, x5⟩ := ⟨_, rfl⟩
  have HY : Hid (y = (b0 && b1 && b2)) := hid (by rw [hy, hb0, hb1, hb2]; rfl)
  have HB : Hid (y = true → 1 ≤ x3 ∧ x3 ≤ 2) := hid (by rw [hy]; simp [yarnB, bedB]; omega)
  obtain ⟨z0, hz0⟩ : ∃ b, (x3 == 0) = b := ⟨_, rfl⟩
  obtain ⟨z1, hz1⟩ : ∃ b, (x4 == 0) = b := ⟨_, rfl⟩
  obtain ⟨z2, hz2⟩ : ∃ b, (x5 == 0) = b := ⟨_, rfl⟩
  obtain ⟨u, hu⟩ : ∃ u, u = noneB ⟨4, x1, x2, x3, x4, x5⟩ := ⟨_, rfl⟩
  have HN : Hid (u = (z0 && z1 && z2)) := hid (by rw [hu, ← hz0, ← hz1, ← hz2]; rfl)
  try rw [← hy] at hq
  try rw [← hu] at hq
  clear hy hu hb0 hb1 hb2
  go_enter Try.func110, Try.ntmps110
  go_upto_region 1 with fail
  go_cut [6] from 9 to 206 (fun s6 wx => s6 = .bool y ∧ w = wx)
  case first =>
    cases b0
    · have HY2 := hid (HY.out.trans (by simp : _ = false))
      clear HY HN
      go_wp2_with (go_at_call 125; refine (A0.out _).mono ?_; rintro e w2 ⟨rfl, rfl⟩)
      go_meet
      exact ⟨by rw [HY2.out], rfl⟩
    · cases b1
      · have HY2 := hid (HY.out.trans (by simp : _ = false))
        clear HY HN
        go_wp2_with (first | (go_at_call 125; refine (A0.out _).mono ?_; rintro e w2 ⟨rfl, rfl⟩) | (go_at_call 57; refine (A1.out _).mono ?_; rintro e w2 ⟨rfl, rfl⟩))
        go_meet
        exact ⟨by rw [HY2.out], rfl⟩
      · have HY2 := hid (HY.out.trans (by simp : _ = b2))
        clear HY HN
        go_wp2_with (first | (go_at_call 125; refine (A0.out _).mono ?_; rintro e w2 ⟨rfl, rfl⟩) | (go_at_call 57; refine (A1.out _).mono ?_; rintro e w2 ⟨rfl, rfl⟩) | (go_at_call 70; refine (A2.out _).mono ?_; rintro e w2 ⟨rfl, rfl⟩))
        go_meet
        exact ⟨by rw [HY2.out], rfl⟩
  case rest =>
    obtain ⟨rfl, rfl⟩ := hcut
    clear A0 A1 A2
    go_upto_region 2 with fail
    go_cut [7] from 9 to 206 (fun s7 wx => s7 = .bool u ∧ w = wx)
    case first =>
      cases z0
      · have HN2 := hid (HN.out.trans (by simp : _ = false))
        clear HN HY
        go_wp2
        go_meet
        exact ⟨by rw [HN2.out], rfl⟩
      · cases z1
        · have HN2 := hid (HN.out.trans (by simp : _ = false))
          clear HN HY
          go_wp2
          go_meet
          exact ⟨by rw [HN2.out], rfl⟩
        · have HN2 := hid (HN.out.trans (by simp : _ = z2))
          clear HN HY
          go_wp2
          go_meet
          exact ⟨by rw [HN2.out], rfl⟩
    case rest =>
      obtain ⟨rfl, rfl⟩ := hcut
      clear HY HN HB
      cases u
      · have HQ : Hid (q = false) := hid (by rw [hq]; first | done | rfl | (simp; done) | (simp; omega))
        clear hq
        go_wp2_with fail
        go_big_quiet (((go_at_call 56; exact Calls.quiet_of_same ((nd.specIn _ _ _ _).mono (fun _ _ ⟨e1, e2⟩ => ⟨e1, e2.symm⟩)))))
        go_wp2
        try go_ret2
        exact (by rw [HQ.out] at hE; exact hE.out _ _ (fun h => by cases h) (by first | exact Below.refl _ _ | exact bdrewN (Below.refl _ _) _))
      · by_cases hc : 1 ≤ x2 ∧ x2 ≤ 4
        · have hd : decide (1 ≤ x2 ∧ x2 ≤ 4) = true := decide_eq_true hc
          rw [hd] at hq
          have hI := hid (fun w1 => show Calls Try.prog 56 #[.int .i64 x2, .int .i64 1, .int .i64 4] w1 fun e w2 => e = .returned (.bool true) ∧ w2 = w1 from by rw [← hd]; exact (nd.specIn _ _ _ w1).mono (fun _ _ ⟨e1, e2⟩ => ⟨e1, e2.symm⟩))
          clear hd
          obtain ⟨hc0, hc1⟩ := hc
          have hw1 : IntKind.i64.wrap (n - x2) = n - x2 := by rw [IntKind.wrap_i64]; omega
          have hw2 : IntKind.i64.wrap (n - x2 + 1) = n - x2 + 1 := by rw [IntKind.wrap_i64]; omega
          have hw3 : IntKind.i64.wrap (x1 + x2) = x1 + x2 := by rw [IntKind.wrap_i64]; omega
          have HQ : Hid (q = decide (x1 + x2 ≤ n)) := hid (by rw [hq, show decide (0 ≤ x1 ∧ x1 ≤ n - x2) = decide (x1 + x2 ≤ n) from decide_eq_decide.2 (by omega)]; simp)
          clear hq
          go_wp2_with fail
          go_big_quiet (((go_at_call 56; exact Calls.quiet_of_same (hI.out _))))
          go_wp2
          try go_ret2
          exact (by rw [HQ.out] at hE; exact hE.out _ _ (fun _ => by simp [nxt]) (by first | exact Below.refl _ _ | exact bdrewN (Below.refl _ _) _))
        · have hd : decide (1 ≤ x2 ∧ x2 ≤ 4) = false := decide_eq_false hc
          rw [hd] at hq
          have hI := hid (fun w1 => show Calls Try.prog 56 #[.int .i64 x2, .int .i64 1, .int .i64 4] w1 fun e w2 => e = .returned (.bool false) ∧ w2 = w1 from by rw [← hd]; exact (nd.specIn _ _ _ w1).mono (fun _ _ ⟨e1, e2⟩ => ⟨e1, e2.symm⟩))
          clear hd hc
          have HQ : Hid (q = false) := hid (by rw [hq]; first | done | rfl | (simp; done) | (simp; omega))
          clear hq
          go_wp2_with fail
          go_big_quiet (((go_at_call 56; exact Calls.quiet_of_same (hI.out _))))
          go_wp2
          try go_ret2
          exact (by rw [HQ.out] at hE; exact hE.out _ _ (fun h => by cases h) (by first | exact Below.refl _ _ | exact bdrewN (Below.refl _ _) _))

end Go.Proofs.Ytiacfejileeieaa.ev
