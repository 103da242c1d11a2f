/-
  usesYarn and usesBothBeds of the program.
-/
import Derived.Test.YtaconeliiicloaaVp
namespace Go.Proofs.Ytaconeliiicloaa.vo
open Go.RowKit Go.Sort Go.Proofs.Ytaconeliiicloaa.nd Go.Proofs.Ytaconeliiicloaa.sl
set_option linter.unusedVariables false
set_option linter.unusedSimpArgs false
theorem _root_.Go.Calls.toB {P : Program} {f : FuncId} {args : Array Value} {w : World} {v : Value} (h : Calls P f args w fun e w' => e = .returned v ∧ w = w') : Calls P f args w fun e w' => e = .returned v ∧ Below w.heap.size w w' :=
  h.mono fun _ _ ⟨he, hw⟩ => ⟨he, by subst hw; exact Below.refl _ _⟩
set_option maxRecDepth 100000 in
set_option maxHeartbeats 8000000 in
theorem implYarn0 (k d fb fa tb ta c r : Int) (w : World) (x0 x1 x2 : Bool) (hx0 : x0 = (dirB d)) (hx1 : x1 = (validB fb fa)) (hx2 : x2 = (carB c)) :
    Calls Try.prog 154 #[.agg #[.int .i64 k, .int .i64 d, .int .i64 fb, .int .i64 fa, .int .i64 tb, .int .i64 ta, .int .i64 c, .int .i64 r]] w fun e w' => e = .returned (.bool (x0 && x1 && x2)) ∧ Below w.heap.size w w' := by
  have bE : Below w.heap.size w (w.alloc (.cells #[.int .i64 k, .int .i64 d, .int .i64 fb, .int .i64 fa, .int .i64 tb, .int .i64 ta, .int .i64 c, .int .i64 r] 90)) := (Below.refl _ _).alloc (Nat.le_refl _) _
  have H1 := opAt_new k d fb fa tb ta c r w
  have A0 := hid (show ∀ w1, Calls Try.prog 156 #[.int .i64 d] w1 fun e w2 => e = .returned (.bool x0) ∧ w1 = w2 from fun w1 => by rw [hx0]; exact (implDir _ w1))
  have A1 := hid (show ∀ w1, Calls Try.prog 111 #[.agg #[.int .i64 fb, .int .i64 fa]] w1 fun e w2 => e = .returned (.bool x1) ∧ Below w1.heap.size w1 w2 from fun w1 => by rw [hx1]; exact implValid _ _ w1)
  have A2 := hid (show ∀ w1, Calls Try.prog 83 #[.int .i64 c] w1 fun e w2 => e = .returned (.bool x2) ∧ w1 = w2 from fun w1 => by rw [hx2]; exact (implCar _ w1))
  clear hx0 hx1 hx2
  cases x0 with
  | false =>
    go_enter Try.func154, Try.ntmps154
    go_wp2_with (first | (go_at_call 156; refine (A0.out _).mono ?_; rintro e w' ⟨rfl, rfl⟩) | (go_at_call 83; refine (A2.out _).mono ?_; rintro e w' ⟨rfl, rfl⟩))
    go_ret
    exact ⟨by simp, bE⟩
  | true =>
    cases x1 with
    | false =>
      go_enter Try.func154, Try.ntmps154
      go_wp2_with (first | (go_at_call 156; refine (A0.out _).mono ?_; rintro e w' ⟨rfl, rfl⟩) | (go_at_call 83; refine (A2.out _).mono ?_; rintro e w' ⟨rfl, rfl⟩))
      generalize w.alloc (.cells #[.int .i64 k, .int .i64 d, .int .i64 fb, .int .i64 fa, .int .i64 tb, .int .i64 ta, .int .i64 c, .int .i64 r] 90) = W0 at *
      refine (A1.out _).mono ?_
      rintro e w0 ⟨rfl, hb⟩
      replace H1 := OpAt.below H1 hb; replace bE := Below.trans bE (Below.mono hb (Below.size bE)); clear hb
      obtain ⟨k0, k1, k2, k3, k4, k5, k6, k7⟩ := H1.z
      go_wp2_with (first | (go_at_call 156; refine (A0.out _).mono ?_; rintro e w' ⟨rfl, rfl⟩) | (go_at_call 83; refine (A2.out _).mono ?_; rintro e w' ⟨rfl, rfl⟩))
      go_ret
      exact ⟨by simp, bE⟩
    | true =>
      cases x2 with
      | false =>
        go_enter Try.func154, Try.ntmps154
        go_wp2_with (first | (go_at_call 156; refine (A0.out _).mono ?_; rintro e w' ⟨rfl, rfl⟩) | (go_at_call 83; refine (A2.out _).mono ?_; rintro e w' ⟨rfl, rfl⟩))
        generalize w.alloc (.cells #[.int .i64 k, .int .i64 d, .int .i64 fb, .int .i64 fa, .int .i64 tb, .int .i64 ta, .int .i64 c, .int .i64 r] 90) = W0 at *
        refine (A1.out _).mono ?_
        rintro e w0 ⟨rfl, hb⟩
        replace H1 := OpAt.below H1 hb; replace bE := Below.trans bE (Below.mono hb (Below.size bE)); clear hb
        obtain ⟨k0, k1, k2, k3, k4, k5, k6, k7⟩ := H1.z
        go_wp2_with (first | (go_at_call 156; refine (A0.out _).mono ?_; rintro e w' ⟨rfl, rfl⟩) | (go_at_call 83; refine (A2.out _).mono ?_; rintro e w' ⟨rfl, rfl⟩))
        go_ret
        exact ⟨by simp, bE⟩
      | true =>
        go_enter Try.func154, Try.ntmps154
        go_wp2_with (first | (go_at_call 156; refine (A0.out _).mono ?_; rintro e w' ⟨rfl, rfl⟩) | (go_at_call 83; refine (A2.out _).mono ?_; rintro e w' ⟨rfl, rfl⟩))
        generalize w.alloc (.cells #[.int .i64 k, .int .i64 d, .int .i64 fb, .int .i64 fa, .int .i64 tb, .int .i64 ta, .int .i64 c, .int .i64 r] 90) = W0 at *
        refine (A1.out _).mono ?_
        rintro e w0 ⟨rfl, hb⟩
        replace H1 := OpAt.below H1 hb; replace bE := Below.trans bE (Below.mono hb (Below.size bE)); clear hb
        obtain ⟨k0, k1, k2, k3, k4, k5, k6, k7⟩ := H1.z
        go_wp2_with (first | (go_at_call 156; refine (A0.out _).mono ?_; rintro e w' ⟨rfl, rfl⟩) | (go_at_call 83; refine (A2.out _).mono ?_; rintro e w' ⟨rfl, rfl⟩))
        go_ret
        exact ⟨by simp, bE⟩
set_option maxRecDepth 100000 in
set_option maxHeartbeats 8000000 in
theorem implBoth0 (k d fb fa tb ta c r : Int) (w : World) (x0 x1 x2 : Bool) (hx0 : x0 = (validB fb fa)) (hx1 : x1 = (validB tb ta)) (hx2 : x2 = (fb != tb)) :
    Calls Try.prog 155 #[.agg #[.int .i64 k, .int .i64 d, .int .i64 fb, .int .i64 fa, .int .i64 tb, .int .i64 ta, .int .i64 c, .int .i64 r]] w fun e w' => e = .returned (.bool (x0 && x1 && x2)) ∧ Below w.heap.size w w' := by
  have bE : Below w.heap.size w (w.alloc (.cells #[.int .i64 k, .int .i64 d, .int .i64 fb, .int .i64 fa, .int .i64 tb, .int .i64 ta, .int .i64 c, .int .i64 r] 90)) := (Below.refl _ _).alloc (Nat.le_refl _) _
  have H1 := opAt_new k d fb fa tb ta c r w
  have A0 := hid (show ∀ w1, Calls Try.prog 111 #[.agg #[.int .i64 fb, .int .i64 fa]] w1 fun e w2 => e = .returned (.bool x0) ∧ Below w1.heap.size w1 w2 from fun w1 => by rw [hx0]; exact implValid _ _ w1)
  have A1 := hid (show ∀ w1, Calls Try.prog 111 #[.agg #[.int .i64 tb, .int .i64 ta]] w1 fun e w2 => e = .returned (.bool x1) ∧ Below w1.heap.size w1 w2 from fun w1 => by rw [hx1]; exact implValid _ _ w1)
  have B2 : (fb != tb) = x2 := hx2.symm
  have B2b : (!(fb == tb)) = x2 := hx2.symm
  have B2a : (fb == tb) = !x2 := by rw [hx2]; simp [bne]
  have D2 : decide (fb = tb) = !x2 := by rw [hx2]; simp [bne]; rfl
  clear hx0 hx1 hx2
  cases x0 with
  | false =>
    go_enter Try.func155, Try.ntmps155
    go_wp2_with (fail)
    generalize w.alloc (.cells #[.int .i64 k, .int .i64 d, .int .i64 fb, .int .i64 fa, .int .i64 tb, .int .i64 ta, .int .i64 c, .int .i64 r] 90) = W0 at *
    refine (A0.out _).mono ?_
    rintro e w0 ⟨rfl, hb⟩
    replace H1 := OpAt.below H1 hb; replace bE := Below.trans bE (Below.mono hb (Below.size bE)); clear hb
    obtain ⟨k0, k1, k2, k3, k4, k5, k6, k7⟩ := H1.z
    go_wp2_with (fail)
    go_ret
    exact ⟨by simp, bE⟩
  | true =>
    cases x1 with
    | false =>
      go_enter Try.func155, Try.ntmps155
      go_wp2_with (fail)
      generalize w.alloc (.cells #[.int .i64 k, .int .i64 d, .int .i64 fb, .int .i64 fa, .int .i64 tb, .int .i64 ta, .int .i64 c, .int .i64 r] 90) = W0 at *
      refine (A0.out _).mono ?_
      rintro e w0 ⟨rfl, hb⟩
      replace H1 := OpAt.below H1 hb; replace bE := Below.trans bE (Below.mono hb (Below.size bE)); clear hb
      obtain ⟨k0, k1, k2, k3, k4, k5, k6, k7⟩ := H1.z
      go_wp2_with (fail)
      clear k0 k1 k2 k3 k4 k5 k6 k7
      refine (A1.out _).mono ?_
      rintro e w1 ⟨rfl, hb⟩
      replace H1 := OpAt.below H1 hb; replace bE := Below.trans bE (Below.mono hb (Below.size bE)); clear hb
      obtain ⟨k0, k1, k2, k3, k4, k5, k6, k7⟩ := H1.z
      go_wp2_with (fail)
      go_ret
      exact ⟨by simp, bE⟩
    | true =>
      cases x2 with
      | false =>
        go_enter Try.func155, Try.ntmps155
        go_wp2_with (fail)
        generalize w.alloc (.cells #[.int .i64 k, .int .i64 d, .int .i64 fb, .int .i64 fa, .int .i64 tb, .int .i64 ta, .int .i64 c, .int .i64 r] 90) = W0 at *
        refine (A0.out _).mono ?_
        rintro e w0 ⟨rfl, hb⟩
        replace H1 := OpAt.below H1 hb; replace bE := Below.trans bE (Below.mono hb (Below.size bE)); clear hb
        obtain ⟨k0, k1, k2, k3, k4, k5, k6, k7⟩ := H1.z
        go_wp2_with (fail)
        clear k0 k1 k2 k3 k4 k5 k6 k7
        refine (A1.out _).mono ?_
        rintro e w1 ⟨rfl, hb⟩
        replace H1 := OpAt.below H1 hb; replace bE := Below.trans bE (Below.mono hb (Below.size bE)); clear hb
        obtain ⟨k0, k1, k2, k3, k4, k5, k6, k7⟩ := H1.z
        go_wp2_with (fail)
        go_ret
        exact ⟨by simp, bE⟩
      | true =>
        go_enter Try.func155, Try.ntmps155
        go_wp2_with (fail)
        generalize w.alloc (.cells #[.int .i64 k, .int .i64 d, .int .i64 fb, .int .i64 fa, .int .i64 tb, .int .i64 ta, .int .i64 c, .int .i64 r] 90) = W0 at *
        refine (A0.out _).mono ?_
        rintro e w0 ⟨rfl, hb⟩
        replace H1 := OpAt.below H1 hb; replace bE := Below.trans bE (Below.mono hb (Below.size bE)); clear hb
        obtain ⟨k0, k1, k2, k3, k4, k5, k6, k7⟩ := H1.z
        go_wp2_with (fail)
        clear k0 k1 k2 k3 k4 k5 k6 k7
        refine (A1.out _).mono ?_
        rintro e w1 ⟨rfl, hb⟩
        replace H1 := OpAt.below H1 hb; replace bE := Below.trans bE (Below.mono hb (Below.size bE)); clear hb
        obtain ⟨k0, k1, k2, k3, k4, k5, k6, k7⟩ := H1.z
        go_wp2_with (fail)
        go_ret
        exact ⟨by simp, bE⟩
theorem implYarn (k d fb fa tb ta c r : Int) (w : World) : Calls Try.prog 154 #[.agg #[.int .i64 k, .int .i64 d, .int .i64 fb, .int .i64 fa, .int .i64 tb, .int .i64 ta, .int .i64 c, .int .i64 r]] w fun e w' => e = .returned (.bool (dirB d && validB fb fa && carB c)) ∧ Below w.heap.size w w' := implYarn0 k d fb fa tb ta c r w _ _ _ rfl rfl rfl
theorem implBoth (k d fb fa tb ta c r : Int) (w : World) : Calls Try.prog 155 #[.agg #[.int .i64 k, .int .i64 d, .int .i64 fb, .int .i64 fa, .int .i64 tb, .int .i64 ta, .int .i64 c, .int .i64 r]] w fun e w' => e = .returned (.bool (validB fb fa && validB tb ta && fb != tb)) ∧ Below w.heap.size w w' := implBoth0 k d fb fa tb ta c r w _ _ _ rfl rfl rfl
end Go.Proofs.Ytaconeliiicloaa.vo
