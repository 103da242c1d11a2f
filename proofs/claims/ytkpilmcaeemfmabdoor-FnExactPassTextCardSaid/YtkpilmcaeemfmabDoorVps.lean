/-
  Valid passes: the model's l09Ok and the program's ValidPass; toPass.
-/
import Derived.Test.YtkpilmcaeemfmabDoorVo
namespace Go.Proofs.YtkpilmcaeemfmabDoor.vp
open Go.RowKit Go.Proofs.YtkpilmcaeemfmabDoor.nd Go.Proofs.YtkpilmcaeemfmabDoor.sl Go.Proofs.YtkpilmcaeemfmabDoor.vo
set_option linter.unusedVariables false
set_option linter.unusedSimpArgs false

def passB (a c d g h k : Int) : Bool :=
  decide (-3 ≤ g ∧ g ≤ 3) && decide (0 ≤ h ∧ h ≤ 1499) && decide (1 ≤ k ∧ k ≤ 1500 - h) && (if a = 1 then dirB c && carB d else decide (2 ≤ a ∧ a ≤ 3) && c == 0 && d == 0)
theorem belowN (w : World) (n : Nat) : Below w.heap.size w (w.drewN n) := ⟨rfl, rfl, rfl, Nat.le_refl _, fun _ _ => rfl⟩
/-- A pass in memory. -/
structure PAt (w : World) (p : Nat) (a c d g h k : Int) : Prop where
  c0 : w.cell? ⟨p, 0, none⟩ = some (.int .i64 a)
  c1 : w.cell? ⟨p, 1, none⟩ = some (.int .i64 c)
  c2 : w.cell? ⟨p, 2, none⟩ = some (.int .i64 d)
  c3 : w.cell? ⟨p, 3, none⟩ = some (.int .i64 g)
  c4 : w.cell? ⟨p, 4, none⟩ = some (.int .i64 h)
  c5 : w.cell? ⟨p, 5, none⟩ = some (.int .i64 k)

theorem toP (a c d g h k : Int) (w : World) :
    Calls Tryd.prog 5 #[.agg #[.int .i64 a, .int .i64 c, .int .i64 d, .int .i64 g, .int .i64 h, .int .i64 k]] w fun e w' => e = .returned (.agg #[.int .i64 a, .int .i64 c, .int .i64 d, .int .i64 g, .int .i64 h, .int .i64 k]) ∧ Below w.heap.size w w' := by
  go_enter Tryd.func5, Tryd.ntmps5
  go_wp2
  refine bodyPost_ret (v := .agg #[.int .i64 a, .int .i64 c, .int .i64 d, .int .i64 g, .int .i64 h, .int .i64 k]) (by simp [results, Tryd.results5, go_sem]) rfl ⟨rfl, ?_⟩
  repeat (first | exact Below.refl _ _ | refine Below.setCell ?_ (by simp) _ | refine Below.alloc ?_ (by simp; try omega) _)

set_option maxRecDepth 100000 in
set_option maxHeartbeats 400000 in
theorem specOk (a c d g h k : Int) (p : Nat) (w : World) (H : PAt w p a c d g h k) :
    Calls Tryd.prog 7 #[.pointer (some ⟨p, 0, none⟩)] w fun e w' => e = .returned (.bool (passB a c d g h k)) ∧ Below w.heap.size w w' := by
  have h0 := H.c0
  have h1 := H.c1
  have h2 := H.c2
  have h3 := H.c3
  have h4 := H.c4
  have h5 := H.c5
  clear H
  obtain ⟨q, hq⟩ : ∃ q, q = passB a c d g h k := ⟨_, rfl⟩
  rw [← hq]
  obtain ⟨r, hr⟩ : ∃ b, b = (decide (-3 ≤ g ∧ g ≤ 3)) := ⟨_, rfl⟩
  have Ar := hid (fun w1 => show Calls Tryd.prog 13 #[.int .i64 g, .int .i64 (-3), .int .i64 3] w1 fun e w2 => e = .returned (.bool r) ∧ w2 = w1 from by rw [hr]; exact (nd.specIn _ _ _ w1).mono (fun _ _ ⟨e1, e2⟩ => ⟨e1, e2.symm⟩))
  obtain ⟨f, hf⟩ : ∃ b, b = (decide (0 ≤ h ∧ h ≤ 1499)) := ⟨_, rfl⟩
  have Af := hid (fun w1 => show Calls Tryd.prog 13 #[.int .i64 h, .int .i64 0, .int .i64 1499] w1 fun e w2 => e = .returned (.bool f) ∧ w2 = w1 from by rw [hf]; exact (nd.specIn _ _ _ w1).mono (fun _ _ ⟨e1, e2⟩ => ⟨e1, e2.symm⟩))
  obtain ⟨n, hn⟩ : ∃ b, b = (decide (1 ≤ k ∧ k ≤ 1500 - h)) := ⟨_, rfl⟩
  have An := hid (fun w1 => show Calls Tryd.prog 13 #[.int .i64 k, .int .i64 1, .int .i64 (1500 - h)] w1 fun e w2 => e = .returned (.bool n) ∧ w2 = w1 from by rw [hn]; exact (nd.specIn _ _ _ w1).mono (fun _ _ ⟨e1, e2⟩ => ⟨e1, e2.symm⟩))
  obtain ⟨x, hx⟩ : ∃ b, b = (dirB c) := ⟨_, rfl⟩
  have Ax := hid (fun w1 => show Calls Tryd.prog 14 #[.int .i64 c] w1 fun e w2 => e = .returned (.bool x) ∧ w2 = w1 from by rw [hx]; exact (specDir _ w1).mono (fun _ _ ⟨e1, e2⟩ => ⟨e1, e2.symm⟩))
  obtain ⟨y, hy⟩ : ∃ b, b = (carB d) := ⟨_, rfl⟩
  have Ay := hid (fun w1 => show Calls Tryd.prog 15 #[.int .i64 d] w1 fun e w2 => e = .returned (.bool y) ∧ w2 = w1 from by rw [hy]; exact (specYarn _ w1).mono (fun _ _ ⟨e1, e2⟩ => ⟨e1, e2.symm⟩))
  obtain ⟨z, hz⟩ : ∃ b, b = (decide (2 ≤ a ∧ a ≤ 3)) := ⟨_, rfl⟩
  have Az := hid (fun w1 => show Calls Tryd.prog 13 #[.int .i64 a, .int .i64 2, .int .i64 3] w1 fun e w2 => e = .returned (.bool z) ∧ w2 = w1 from by rw [hz]; exact (nd.specIn _ _ _ w1).mono (fun _ _ ⟨e1, e2⟩ => ⟨e1, e2.symm⟩))
  have hq2 : q = (r && f && n && (if a = 1 then x && y else z && c == 0 && d == 0)) := by rw [hq, passB, hr, hf, hn, hx, hy, hz]
  clear hq
  cases r with
  | false =>
    have HQ : Hid (q = false) := hid (by rw [hq2]; simp)
    clear hq2 hr hf hn hx hy hz
    go_enter Tryd.func7, Tryd.ntmps7
    go_wp2_with fail
    go_big_quiet (first | (go_at_call_of 13 (Value.int .i64 g); exact Calls.quiet_of_same (Ar.out _)) | (go_at_call_of 13 (Value.int .i64 h); exact Calls.quiet_of_same (Af.out _)) | (go_at_call_of 13 (Value.int .i64 k); exact Calls.quiet_of_same (An.out _)))
    go_wp2_with (first | (go_at_call_of 13 (Value.int .i64 g); refine (Ar.out _).mono ?_; rintro e w2 ⟨rfl, rfl⟩) | (go_at_call_of 13 (Value.int .i64 h); refine (Af.out _).mono ?_; rintro e w2 ⟨rfl, rfl⟩) | (go_at_call_of 13 (Value.int .i64 k); refine (An.out _).mono ?_; rintro e w2 ⟨rfl, rfl⟩) | (go_at_call_of 14 (Value.int .i64 c); refine (Ax.out _).mono ?_; rintro e w2 ⟨rfl, rfl⟩) | (go_at_call_of 15 (Value.int .i64 d); refine (Ay.out _).mono ?_; rintro e w2 ⟨rfl, rfl⟩) | (go_at_call_of 13 (Value.int .i64 a); refine (Az.out _).mono ?_; rintro e w2 ⟨rfl, rfl⟩))
    go_ret
    exact ⟨by rw [HQ.out]; first | done | rfl, belowN _ _⟩
  | true =>
    cases f with
    | false =>
      have HQ : Hid (q = false) := hid (by rw [hq2]; simp)
      clear hq2 hr hf hn hx hy hz
      go_enter Tryd.func7, Tryd.ntmps7
      go_wp2_with fail
      go_big_quiet (first | (go_at_call_of 13 (Value.int .i64 g); exact Calls.quiet_of_same (Ar.out _)) | (go_at_call_of 13 (Value.int .i64 h); exact Calls.quiet_of_same (Af.out _)) | (go_at_call_of 13 (Value.int .i64 k); exact Calls.quiet_of_same (An.out _)))
      go_wp2_with (first | (go_at_call_of 13 (Value.int .i64 g); refine (Ar.out _).mono ?_; rintro e w2 ⟨rfl, rfl⟩) | (go_at_call_of 13 (Value.int .i64 h); refine (Af.out _).mono ?_; rintro e w2 ⟨rfl, rfl⟩) | (go_at_call_of 13 (Value.int .i64 k); refine (An.out _).mono ?_; rintro e w2 ⟨rfl, rfl⟩) | (go_at_call_of 14 (Value.int .i64 c); refine (Ax.out _).mono ?_; rintro e w2 ⟨rfl, rfl⟩) | (go_at_call_of 15 (Value.int .i64 d); refine (Ay.out _).mono ?_; rintro e w2 ⟨rfl, rfl⟩) | (go_at_call_of 13 (Value.int .i64 a); refine (Az.out _).mono ?_; rintro e w2 ⟨rfl, rfl⟩))
      go_ret
      exact ⟨by rw [HQ.out]; first | done | rfl, belowN _ _⟩
    | true =>
      have hh : 0 ≤ h ∧ h ≤ 1499 := by simpa using hf.symm
      obtain ⟨hh0, hh1⟩ := hh
      have hwr : IntKind.i64.wrap (1500 - h) = 1500 - h := by rw [IntKind.wrap_i64]; omega
      cases n with
      | false =>
        have HQ : Hid (q = false) := hid (by rw [hq2]; simp)
        clear hq2 hr hf hn hx hy hz
        go_enter Tryd.func7, Tryd.ntmps7
        go_wp2_with fail
        go_big_quiet (first | (go_at_call_of 13 (Value.int .i64 g); exact Calls.quiet_of_same (Ar.out _)) | (go_at_call_of 13 (Value.int .i64 h); exact Calls.quiet_of_same (Af.out _)) | (go_at_call_of 13 (Value.int .i64 k); exact Calls.quiet_of_same (An.out _)))
        go_wp2_with (first | (go_at_call_of 13 (Value.int .i64 g); refine (Ar.out _).mono ?_; rintro e w2 ⟨rfl, rfl⟩) | (go_at_call_of 13 (Value.int .i64 h); refine (Af.out _).mono ?_; rintro e w2 ⟨rfl, rfl⟩) | (go_at_call_of 13 (Value.int .i64 k); refine (An.out _).mono ?_; rintro e w2 ⟨rfl, rfl⟩) | (go_at_call_of 14 (Value.int .i64 c); refine (Ax.out _).mono ?_; rintro e w2 ⟨rfl, rfl⟩) | (go_at_call_of 15 (Value.int .i64 d); refine (Ay.out _).mono ?_; rintro e w2 ⟨rfl, rfl⟩) | (go_at_call_of 13 (Value.int .i64 a); refine (Az.out _).mono ?_; rintro e w2 ⟨rfl, rfl⟩))
        go_ret
        exact ⟨by rw [HQ.out]; first | done | rfl, belowN _ _⟩
      | true =>
        by_cases ha : a = 1
        · subst ha
          cases x with
          | false =>
            have HQ : Hid (q = false) := hid (by rw [hq2]; simp)
            clear hq2 hr hf hn hx hy hz
            go_enter Tryd.func7, Tryd.ntmps7
            go_wp2_with fail
            go_big_quiet (first | (go_at_call_of 13 (Value.int .i64 g); exact Calls.quiet_of_same (Ar.out _)) | (go_at_call_of 13 (Value.int .i64 h); exact Calls.quiet_of_same (Af.out _)) | (go_at_call_of 13 (Value.int .i64 k); exact Calls.quiet_of_same (An.out _)))
            go_wp2_with (first | (go_at_call_of 13 (Value.int .i64 g); refine (Ar.out _).mono ?_; rintro e w2 ⟨rfl, rfl⟩) | (go_at_call_of 13 (Value.int .i64 h); refine (Af.out _).mono ?_; rintro e w2 ⟨rfl, rfl⟩) | (go_at_call_of 13 (Value.int .i64 k); refine (An.out _).mono ?_; rintro e w2 ⟨rfl, rfl⟩) | (go_at_call_of 14 (Value.int .i64 c); refine (Ax.out _).mono ?_; rintro e w2 ⟨rfl, rfl⟩) | (go_at_call_of 15 (Value.int .i64 d); refine (Ay.out _).mono ?_; rintro e w2 ⟨rfl, rfl⟩) | (go_at_call_of 13 (Value.int .i64 a); refine (Az.out _).mono ?_; rintro e w2 ⟨rfl, rfl⟩))
            go_ret
            exact ⟨by rw [HQ.out]; first | done | rfl, belowN _ _⟩
          | true =>
            have HQ : Hid (q = y) := hid (by rw [hq2]; simp)
            clear hq2 hr hf hn hx hy hz
            go_enter Tryd.func7, Tryd.ntmps7
            go_wp2_with fail
            go_big_quiet (first | (go_at_call_of 13 (Value.int .i64 g); exact Calls.quiet_of_same (Ar.out _)) | (go_at_call_of 13 (Value.int .i64 h); exact Calls.quiet_of_same (Af.out _)) | (go_at_call_of 13 (Value.int .i64 k); exact Calls.quiet_of_same (An.out _)))
            go_wp2_with (first | (go_at_call_of 13 (Value.int .i64 g); refine (Ar.out _).mono ?_; rintro e w2 ⟨rfl, rfl⟩) | (go_at_call_of 13 (Value.int .i64 h); refine (Af.out _).mono ?_; rintro e w2 ⟨rfl, rfl⟩) | (go_at_call_of 13 (Value.int .i64 k); refine (An.out _).mono ?_; rintro e w2 ⟨rfl, rfl⟩) | (go_at_call_of 14 (Value.int .i64 c); refine (Ax.out _).mono ?_; rintro e w2 ⟨rfl, rfl⟩) | (go_at_call_of 15 (Value.int .i64 d); refine (Ay.out _).mono ?_; rintro e w2 ⟨rfl, rfl⟩) | (go_at_call_of 13 (Value.int .i64 a); refine (Az.out _).mono ?_; rintro e w2 ⟨rfl, rfl⟩))
            go_ret
            exact ⟨by rw [HQ.out]; first | done | rfl, belowN _ _⟩
        · have hab : (a == 1) = false := by simpa using ha
          replace hq2 : q = (z && c == 0 && d == 0) := by rw [hq2]; simp [ha]
          cases z with
          | false =>
            have HQ : Hid (q = false) := hid (by rw [hq2]; simp)
            clear hq2 hr hf hn hx hy hz
            go_enter Tryd.func7, Tryd.ntmps7
            go_wp2_with fail
            go_big_quiet (first | (go_at_call_of 13 (Value.int .i64 g); exact Calls.quiet_of_same (Ar.out _)) | (go_at_call_of 13 (Value.int .i64 h); exact Calls.quiet_of_same (Af.out _)) | (go_at_call_of 13 (Value.int .i64 k); exact Calls.quiet_of_same (An.out _)))
            go_wp2_with (first | (go_at_call_of 13 (Value.int .i64 g); refine (Ar.out _).mono ?_; rintro e w2 ⟨rfl, rfl⟩) | (go_at_call_of 13 (Value.int .i64 h); refine (Af.out _).mono ?_; rintro e w2 ⟨rfl, rfl⟩) | (go_at_call_of 13 (Value.int .i64 k); refine (An.out _).mono ?_; rintro e w2 ⟨rfl, rfl⟩) | (go_at_call_of 14 (Value.int .i64 c); refine (Ax.out _).mono ?_; rintro e w2 ⟨rfl, rfl⟩) | (go_at_call_of 15 (Value.int .i64 d); refine (Ay.out _).mono ?_; rintro e w2 ⟨rfl, rfl⟩) | (go_at_call_of 13 (Value.int .i64 a); refine (Az.out _).mono ?_; rintro e w2 ⟨rfl, rfl⟩))
            go_ret
            exact ⟨by rw [HQ.out]; first | done | rfl, belowN _ _⟩
          | true =>
            obtain ⟨u, hu⟩ : ∃ u, u = (c == 0) := ⟨_, rfl⟩
            rw [← hu] at hq2
            replace hu := hu.symm
            cases u with
            | false =>
              have HQ : Hid (q = false) := hid (by rw [hq2]; simp)
              clear hq2 hr hf hn hx hy hz
              go_enter Tryd.func7, Tryd.ntmps7
              go_wp2_with fail
              go_big_quiet (first | (go_at_call_of 13 (Value.int .i64 g); exact Calls.quiet_of_same (Ar.out _)) | (go_at_call_of 13 (Value.int .i64 h); exact Calls.quiet_of_same (Af.out _)) | (go_at_call_of 13 (Value.int .i64 k); exact Calls.quiet_of_same (An.out _)))
              go_wp2_with (first | (go_at_call_of 13 (Value.int .i64 g); refine (Ar.out _).mono ?_; rintro e w2 ⟨rfl, rfl⟩) | (go_at_call_of 13 (Value.int .i64 h); refine (Af.out _).mono ?_; rintro e w2 ⟨rfl, rfl⟩) | (go_at_call_of 13 (Value.int .i64 k); refine (An.out _).mono ?_; rintro e w2 ⟨rfl, rfl⟩) | (go_at_call_of 14 (Value.int .i64 c); refine (Ax.out _).mono ?_; rintro e w2 ⟨rfl, rfl⟩) | (go_at_call_of 15 (Value.int .i64 d); refine (Ay.out _).mono ?_; rintro e w2 ⟨rfl, rfl⟩) | (go_at_call_of 13 (Value.int .i64 a); refine (Az.out _).mono ?_; rintro e w2 ⟨rfl, rfl⟩))
              go_ret
              exact ⟨by rw [HQ.out]; first | done | rfl, belowN _ _⟩
            | true =>
              have HQ : Hid (q = (d == 0)) := hid (by rw [hq2]; simp)
              clear hq2 hr hf hn hx hy hz
              go_enter Tryd.func7, Tryd.ntmps7
              go_wp2_with fail
              go_big_quiet (first | (go_at_call_of 13 (Value.int .i64 g); exact Calls.quiet_of_same (Ar.out _)) | (go_at_call_of 13 (Value.int .i64 h); exact Calls.quiet_of_same (Af.out _)) | (go_at_call_of 13 (Value.int .i64 k); exact Calls.quiet_of_same (An.out _)))
              go_wp2_with (first | (go_at_call_of 13 (Value.int .i64 g); refine (Ar.out _).mono ?_; rintro e w2 ⟨rfl, rfl⟩) | (go_at_call_of 13 (Value.int .i64 h); refine (Af.out _).mono ?_; rintro e w2 ⟨rfl, rfl⟩) | (go_at_call_of 13 (Value.int .i64 k); refine (An.out _).mono ?_; rintro e w2 ⟨rfl, rfl⟩) | (go_at_call_of 14 (Value.int .i64 c); refine (Ax.out _).mono ?_; rintro e w2 ⟨rfl, rfl⟩) | (go_at_call_of 15 (Value.int .i64 d); refine (Ay.out _).mono ?_; rintro e w2 ⟨rfl, rfl⟩) | (go_at_call_of 13 (Value.int .i64 a); refine (Az.out _).mono ?_; rintro e w2 ⟨rfl, rfl⟩))
              go_ret
              exact ⟨by rw [HQ.out]; first | done | rfl, belowN _ _⟩

set_option maxRecDepth 100000 in
set_option maxHeartbeats 400000 in
theorem implOk (a c d g h k : Int) (w : World) :
    Calls Tryd.prog 10 #[.agg #[.int .i64 a, .int .i64 c, .int .i64 d, .int .i64 g, .int .i64 h, .int .i64 k]] w fun e w' => e = .returned (.bool (passB a c d g h k)) ∧ Below w.heap.size w w' := by
  obtain ⟨q, hq⟩ : ∃ q, q = passB a c d g h k := ⟨_, rfl⟩
  rw [← hq]
  obtain ⟨r, hr⟩ : ∃ b, b = (decide (-3 ≤ g ∧ g ≤ 3)) := ⟨_, rfl⟩
  have Ar := hid (fun w1 => show Calls Tryd.prog 16 #[.int .i64 g, .int .i64 (-3), .int .i64 3] w1 fun e w2 => e = .returned (.bool r) ∧ w2 = w1 from by rw [hr]; exact (nd.within64 _ _ _ w1).mono (fun _ _ ⟨e1, e2⟩ => ⟨e1, e2.symm⟩))
  obtain ⟨f, hf⟩ : ∃ b, b = (decide (0 ≤ h ∧ h ≤ 1499)) := ⟨_, rfl⟩
  have Af := hid (fun w1 => show Calls Tryd.prog 16 #[.int .i64 h, .int .i64 0, .int .i64 1499] w1 fun e w2 => e = .returned (.bool f) ∧ w2 = w1 from by rw [hf]; exact (nd.within64 _ _ _ w1).mono (fun _ _ ⟨e1, e2⟩ => ⟨e1, e2.symm⟩))
  obtain ⟨n, hn⟩ : ∃ b, b = (decide (1 ≤ k ∧ k ≤ 1500 - h)) := ⟨_, rfl⟩
  have An := hid (fun w1 => show Calls Tryd.prog 16 #[.int .i64 k, .int .i64 1, .int .i64 (1500 - h)] w1 fun e w2 => e = .returned (.bool n) ∧ w2 = w1 from by rw [hn]; exact (nd.within64 _ _ _ w1).mono (fun _ _ ⟨e1, e2⟩ => ⟨e1, e2.symm⟩))
  obtain ⟨x, hx⟩ : ∃ b, b = (dirB c) := ⟨_, rfl⟩
  have Ax := hid (fun w1 => show Calls Tryd.prog 17 #[.int .i64 c] w1 fun e w2 => e = .returned (.bool x) ∧ w2 = w1 from by rw [hx]; exact (implDir _ w1).mono (fun _ _ ⟨e1, e2⟩ => ⟨e1, e2.symm⟩))
  obtain ⟨y, hy⟩ : ∃ b, b = (carB d) := ⟨_, rfl⟩
  have Ay := hid (fun w1 => show Calls Tryd.prog 18 #[.int .i64 d] w1 fun e w2 => e = .returned (.bool y) ∧ w2 = w1 from by rw [hy]; exact (implCar _ w1).mono (fun _ _ ⟨e1, e2⟩ => ⟨e1, e2.symm⟩))
  have hq2 : q = (r && f && n && (if a = 1 then x && y else decide (2 ≤ a ∧ a ≤ 3) && c == 0 && d == 0)) := by rw [hq, passB, hr, hf, hn, hx, hy]
  clear hq
  cases r with
  | false =>
    have HQ : Hid (q = false) := hid (by rw [hq2]; simp)
    clear hq2 hr hf hn hx hy
    go_enter Tryd.func10, Tryd.ntmps10
    go_wp2_with (first | (go_at_call_of 16 (Value.int .i64 g); refine (Ar.out _).mono ?_; rintro e w2 ⟨rfl, rfl⟩) | (go_at_call_of 16 (Value.int .i64 h); refine (Af.out _).mono ?_; rintro e w2 ⟨rfl, rfl⟩) | (go_at_call_of 16 (Value.int .i64 k); refine (An.out _).mono ?_; rintro e w2 ⟨rfl, rfl⟩) | (go_at_call_of 17 (Value.int .i64 c); refine (Ax.out _).mono ?_; rintro e w2 ⟨rfl, rfl⟩) | (go_at_call_of 18 (Value.int .i64 d); refine (Ay.out _).mono ?_; rintro e w2 ⟨rfl, rfl⟩))
    go_ret
    exact ⟨by rw [HQ.out]; first | done | rfl, (Below.refl _ _).alloc (Nat.le_refl _) _⟩
  | true =>
    cases f with
    | false =>
      have HQ : Hid (q = false) := hid (by rw [hq2]; simp)
      clear hq2 hr hf hn hx hy
      go_enter Tryd.func10, Tryd.ntmps10
      go_wp2_with (first | (go_at_call_of 16 (Value.int .i64 g); refine (Ar.out _).mono ?_; rintro e w2 ⟨rfl, rfl⟩) | (go_at_call_of 16 (Value.int .i64 h); refine (Af.out _).mono ?_; rintro e w2 ⟨rfl, rfl⟩) | (go_at_call_of 16 (Value.int .i64 k); refine (An.out _).mono ?_; rintro e w2 ⟨rfl, rfl⟩) | (go_at_call_of 17 (Value.int .i64 c); refine (Ax.out _).mono ?_; rintro e w2 ⟨rfl, rfl⟩) | (go_at_call_of 18 (Value.int .i64 d); refine (Ay.out _).mono ?_; rintro e w2 ⟨rfl, rfl⟩))
      go_ret
      exact ⟨by rw [HQ.out]; first | done | rfl, (Below.refl _ _).alloc (Nat.le_refl _) _⟩
    | true =>
      have hh : 0 ≤ h ∧ h ≤ 1499 := by simpa using hf.symm
      obtain ⟨hh0, hh1⟩ := hh
      have hwr : IntKind.i64.wrap (1500 - h) = 1500 - h := by rw [IntKind.wrap_i64]; omega
      cases n with
      | false =>
        have HQ : Hid (q = false) := hid (by rw [hq2]; simp)
        clear hq2 hr hf hn hx hy
        go_enter Tryd.func10, Tryd.ntmps10
        go_wp2_with (first | (go_at_call_of 16 (Value.int .i64 g); refine (Ar.out _).mono ?_; rintro e w2 ⟨rfl, rfl⟩) | (go_at_call_of 16 (Value.int .i64 h); refine (Af.out _).mono ?_; rintro e w2 ⟨rfl, rfl⟩) | (go_at_call_of 16 (Value.int .i64 k); refine (An.out _).mono ?_; rintro e w2 ⟨rfl, rfl⟩) | (go_at_call_of 17 (Value.int .i64 c); refine (Ax.out _).mono ?_; rintro e w2 ⟨rfl, rfl⟩) | (go_at_call_of 18 (Value.int .i64 d); refine (Ay.out _).mono ?_; rintro e w2 ⟨rfl, rfl⟩))
        go_ret
        exact ⟨by rw [HQ.out]; first | done | rfl, (Below.refl _ _).alloc (Nat.le_refl _) _⟩
      | true =>
        by_cases ha : a = 1
        · subst ha
          cases x with
          | false =>
            have HQ : Hid (q = false) := hid (by rw [hq2]; simp)
            clear hq2 hr hf hn hx hy
            go_enter Tryd.func10, Tryd.ntmps10
            go_wp2_with (first | (go_at_call_of 16 (Value.int .i64 g); refine (Ar.out _).mono ?_; rintro e w2 ⟨rfl, rfl⟩) | (go_at_call_of 16 (Value.int .i64 h); refine (Af.out _).mono ?_; rintro e w2 ⟨rfl, rfl⟩) | (go_at_call_of 16 (Value.int .i64 k); refine (An.out _).mono ?_; rintro e w2 ⟨rfl, rfl⟩) | (go_at_call_of 17 (Value.int .i64 c); refine (Ax.out _).mono ?_; rintro e w2 ⟨rfl, rfl⟩) | (go_at_call_of 18 (Value.int .i64 d); refine (Ay.out _).mono ?_; rintro e w2 ⟨rfl, rfl⟩))
            go_ret
            exact ⟨by rw [HQ.out]; first | done | rfl, (Below.refl _ _).alloc (Nat.le_refl _) _⟩
          | true =>
            have HQ : Hid (q = y) := hid (by rw [hq2]; simp)
            clear hq2 hr hf hn hx hy
            go_enter Tryd.func10, Tryd.ntmps10
            go_wp2_with (first | (go_at_call_of 16 (Value.int .i64 g); refine (Ar.out _).mono ?_; rintro e w2 ⟨rfl, rfl⟩) | (go_at_call_of 16 (Value.int .i64 h); refine (Af.out _).mono ?_; rintro e w2 ⟨rfl, rfl⟩) | (go_at_call_of 16 (Value.int .i64 k); refine (An.out _).mono ?_; rintro e w2 ⟨rfl, rfl⟩) | (go_at_call_of 17 (Value.int .i64 c); refine (Ax.out _).mono ?_; rintro e w2 ⟨rfl, rfl⟩) | (go_at_call_of 18 (Value.int .i64 d); refine (Ay.out _).mono ?_; rintro e w2 ⟨rfl, rfl⟩))
            go_ret
            exact ⟨by rw [HQ.out]; first | done | rfl, (Below.refl _ _).alloc (Nat.le_refl _) _⟩
        · have hab : (a == 1) = false := by simpa using ha
          replace hq2 : q = (decide (2 ≤ a ∧ a ≤ 3) && c == 0 && d == 0) := by rw [hq2]; simp [ha]
          by_cases h2 : a = 2
          · subst h2
            obtain ⟨u, hu⟩ : ∃ u, u = (c == 0) := ⟨_, rfl⟩
            rw [← hu] at hq2
            replace hu := hu.symm
            cases u with
            | false =>
              have HQ : Hid (q = false) := hid (by rw [hq2]; simp)
              clear hq2 hr hf hn hx hy
              go_enter Tryd.func10, Tryd.ntmps10
              go_wp2_with (first | (go_at_call_of 16 (Value.int .i64 g); refine (Ar.out _).mono ?_; rintro e w2 ⟨rfl, rfl⟩) | (go_at_call_of 16 (Value.int .i64 h); refine (Af.out _).mono ?_; rintro e w2 ⟨rfl, rfl⟩) | (go_at_call_of 16 (Value.int .i64 k); refine (An.out _).mono ?_; rintro e w2 ⟨rfl, rfl⟩) | (go_at_call_of 17 (Value.int .i64 c); refine (Ax.out _).mono ?_; rintro e w2 ⟨rfl, rfl⟩) | (go_at_call_of 18 (Value.int .i64 d); refine (Ay.out _).mono ?_; rintro e w2 ⟨rfl, rfl⟩))
              go_ret
              exact ⟨by rw [HQ.out]; first | done | rfl, (Below.refl _ _).alloc (Nat.le_refl _) _⟩
            | true =>
              have HQ : Hid (q = (d == 0)) := hid (by rw [hq2]; simp)
              clear hq2 hr hf hn hx hy
              go_enter Tryd.func10, Tryd.ntmps10
              go_wp2_with (first | (go_at_call_of 16 (Value.int .i64 g); refine (Ar.out _).mono ?_; rintro e w2 ⟨rfl, rfl⟩) | (go_at_call_of 16 (Value.int .i64 h); refine (Af.out _).mono ?_; rintro e w2 ⟨rfl, rfl⟩) | (go_at_call_of 16 (Value.int .i64 k); refine (An.out _).mono ?_; rintro e w2 ⟨rfl, rfl⟩) | (go_at_call_of 17 (Value.int .i64 c); refine (Ax.out _).mono ?_; rintro e w2 ⟨rfl, rfl⟩) | (go_at_call_of 18 (Value.int .i64 d); refine (Ay.out _).mono ?_; rintro e w2 ⟨rfl, rfl⟩))
              go_ret
              exact ⟨by rw [HQ.out]; first | done | rfl, (Below.refl _ _).alloc (Nat.le_refl _) _⟩
          · by_cases h3 : a = 3
            · subst h3
              obtain ⟨u, hu⟩ : ∃ u, u = (c == 0) := ⟨_, rfl⟩
              rw [← hu] at hq2
              replace hu := hu.symm
              cases u with
              | false =>
                have HQ : Hid (q = false) := hid (by rw [hq2]; simp)
                clear hq2 hr hf hn hx hy
                go_enter Tryd.func10, Tryd.ntmps10
                go_wp2_with (first | (go_at_call_of 16 (Value.int .i64 g); refine (Ar.out _).mono ?_; rintro e w2 ⟨rfl, rfl⟩) | (go_at_call_of 16 (Value.int .i64 h); refine (Af.out _).mono ?_; rintro e w2 ⟨rfl, rfl⟩) | (go_at_call_of 16 (Value.int .i64 k); refine (An.out _).mono ?_; rintro e w2 ⟨rfl, rfl⟩) | (go_at_call_of 17 (Value.int .i64 c); refine (Ax.out _).mono ?_; rintro e w2 ⟨rfl, rfl⟩) | (go_at_call_of 18 (Value.int .i64 d); refine (Ay.out _).mono ?_; rintro e w2 ⟨rfl, rfl⟩))
                go_ret
                exact ⟨by rw [HQ.out]; first | done | rfl, (Below.refl _ _).alloc (Nat.le_refl _) _⟩
              | true =>
                have HQ : Hid (q = (d == 0)) := hid (by rw [hq2]; simp)
                clear hq2 hr hf hn hx hy
                go_enter Tryd.func10, Tryd.ntmps10
                go_wp2_with (first | (go_at_call_of 16 (Value.int .i64 g); refine (Ar.out _).mono ?_; rintro e w2 ⟨rfl, rfl⟩) | (go_at_call_of 16 (Value.int .i64 h); refine (Af.out _).mono ?_; rintro e w2 ⟨rfl, rfl⟩) | (go_at_call_of 16 (Value.int .i64 k); refine (An.out _).mono ?_; rintro e w2 ⟨rfl, rfl⟩) | (go_at_call_of 17 (Value.int .i64 c); refine (Ax.out _).mono ?_; rintro e w2 ⟨rfl, rfl⟩) | (go_at_call_of 18 (Value.int .i64 d); refine (Ay.out _).mono ?_; rintro e w2 ⟨rfl, rfl⟩))
                go_ret
                exact ⟨by rw [HQ.out]; first | done | rfl, (Below.refl _ _).alloc (Nat.le_refl _) _⟩
            · have h2b : (a == 2) = false := by simpa using h2
              have h3b : (a == 3) = false := by simpa using h3
              have h23 : decide (2 ≤ a ∧ a ≤ 3) = false := by simp; omega
              rw [h23] at hq2
              have HQ : Hid (q = false) := hid (by rw [hq2]; simp)
              clear hq2 hr hf hn hx hy
              go_enter Tryd.func10, Tryd.ntmps10
              go_wp2_with (first | (go_at_call_of 16 (Value.int .i64 g); refine (Ar.out _).mono ?_; rintro e w2 ⟨rfl, rfl⟩) | (go_at_call_of 16 (Value.int .i64 h); refine (Af.out _).mono ?_; rintro e w2 ⟨rfl, rfl⟩) | (go_at_call_of 16 (Value.int .i64 k); refine (An.out _).mono ?_; rintro e w2 ⟨rfl, rfl⟩) | (go_at_call_of 17 (Value.int .i64 c); refine (Ax.out _).mono ?_; rintro e w2 ⟨rfl, rfl⟩) | (go_at_call_of 18 (Value.int .i64 d); refine (Ay.out _).mono ?_; rintro e w2 ⟨rfl, rfl⟩))
              go_ret
              exact ⟨by rw [HQ.out]; first | done | rfl, (Below.refl _ _).alloc (Nat.le_refl _) _⟩
end Go.Proofs.YtkpilmcaeemfmabDoor.vp
