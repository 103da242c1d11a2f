/-
  The model's check of an operation of the kind 1.
-/
import Derived.Test.YtaconeliiicloaaVo
namespace Go.Proofs.Ytaconeliiicloaa.vo
open Go.RowKit Go.Sort Go.Proofs.Ytaconeliiicloaa.nd Go.Proofs.Ytaconeliiicloaa.sl
set_option linter.unusedVariables false
set_option linter.unusedSimpArgs false
set_option maxRecDepth 100000 in
set_option maxHeartbeats 2000000 in
theorem spec1 (d fb fa tb ta c r : Int) (p o : Nat) (w : World) (H : OpAt w p o 1 d fb fa tb ta c r) (x0 x1 x2 x3 x4 : Bool) (hx0 : x0 = (dirB d)) (hx1 : x1 = (validB fb fa)) (hx2 : x2 = (tb == 0 && ta == 0)) (hx3 : x3 = (carB c)) (hx4 : x4 = (r == 0)) :
    Calls Try.prog 105 #[.pointer (some ⟨p, o, none⟩)] w fun e w' => e = .returned (.bool (x0 && x1 && x2 && x3 && x4)) ∧ Below w.heap.size w w' := by
  have bE : Below w.heap.size w (w.alloc (.cells #[.int .i64 0, .int .i64 0] 87)) := (Below.refl _ _).alloc (Nat.le_refl _) _
  have H1 := H.below bE
  have h0 := H1.c0
  go_enter Try.func105, Try.ntmps105
  go_wp2_with fail
  have zlt : w.heap.size < (w.alloc (.cells #[.int .i64 0, .int .i64 0] 87)).heap.size := by simp
  have z0 : (w.alloc (.cells #[.int .i64 0, .int .i64 0] 87)).cell? ⟨w.heap.size, 0, none⟩ = some (.int .i64 0) := World.cell?_alloc_at _ _ _ _ rfl
  have z1 : (w.alloc (.cells #[.int .i64 0, .int .i64 0] 87)).cell? ⟨w.heap.size, 1, none⟩ = some (.int .i64 0) := World.cell?_alloc_at _ _ _ _ rfl
  have BE := hid bE
  clear bE h0
  generalize w.alloc (.cells #[.int .i64 0, .int .i64 0] 87) = W at *
  have g0 := fun n os => cellG H1.lt H1.c0 n os
  have g1 := fun n os => cellG H1.lt H1.c1 n os
  have g2 := fun n os => cellG H1.lt H1.c2 n os
  have g3 := fun n os => cellG H1.lt H1.c3 n os
  have g4 := fun n os => cellG H1.lt H1.c4 n os
  have g5 := fun n os => cellG H1.lt H1.c5 n os
  have g6 := fun n os => cellG H1.lt H1.c6 n os
  have g7 := fun n os => cellG H1.lt H1.c7 n os
  have y0 := fun n os => cellG zlt z0 n os
  have y1 := fun n os => cellG zlt z1 n os
  have A0 := hid (show ∀ w1, Calls Try.prog 132 #[.int .i64 d] w1 fun e w2 => e = .returned (.bool x0) ∧ ∃ q os, w2 = grow (w1.drewN q) os from fun w1 => by rw [hx0]; exact (specDir _ w1).toG)
  have A1 := hid (show ∀ w1, Calls Try.prog 133 #[.agg #[.int .i64 fb, .int .i64 fa]] w1 fun e w2 => e = .returned (.bool x1) ∧ ∃ q os, w2 = grow (w1.drewN q) os from fun w1 => by rw [hx1]; exact specNdG _ _ w1)
  have E2 : ∀ w1, (binOp .eql 87 (.agg #[.int .i64 tb, .int .i64 ta]) (.agg #[.int .i64 0, .int .i64 0])).run Try.prog w1 = .ok (.bool x2) w1 := fun w1 => by rw [eqNd, hx2]
  have A3 := hid (show ∀ w1, Calls Try.prog 134 #[.int .i64 c] w1 fun e w2 => e = .returned (.bool x3) ∧ ∃ q os, w2 = grow (w1.drewN q) os from fun w1 => by rw [hx3]; exact (specYarn _ w1).toG)
  have B4 : (r == 0) = x4 := hx4.symm
  have D4 : decide (r = 0) = x4 := by rw [hx4]; rfl
  clear H1 H z0 z1 zlt hx0 hx1 hx2 hx3 hx4
  have mixed : Try.prog.follows .mixedOrders = true := by kernel_rfl
  cases x0 with
  | false =>
    refine wp_region_quiet_grown mixed (by kernel_rfl) ?_
    repeat (go_big_quiet_step ((first | (go_at_call_of 132 (Value.int .i64 d); exact Calls.grown_of (A0.out _)) | (go_at_call_of 133 (Value.agg #[.int .i64 fb, .int .i64 fa]); exact Calls.grown_of (A1.out _)) | (go_at_call_of 134 (Value.int .i64 c); exact Calls.grown_of (A3.out _)))))
    refine wpQuiet_nil ?_
    intro _ hw'
    obtain ⟨⟨nq, osq⟩, hw''⟩ := hw'
    subst hw''
    go_wp2
    go_ret
    exact ⟨by simp, BE.out.trans ((below_grow _ _ _).mono BE.out.size)⟩
  | true =>
    cases x1 with
    | false =>
      refine wp_region_quiet_grown mixed (by kernel_rfl) ?_
      repeat (go_big_quiet_step ((first | (go_at_call_of 132 (Value.int .i64 d); exact Calls.grown_of (A0.out _)) | (go_at_call_of 133 (Value.agg #[.int .i64 fb, .int .i64 fa]); exact Calls.grown_of (A1.out _)) | (go_at_call_of 134 (Value.int .i64 c); exact Calls.grown_of (A3.out _)))))
      refine wpQuiet_nil ?_
      intro _ hw'
      obtain ⟨⟨nq, osq⟩, hw''⟩ := hw'
      subst hw''
      go_wp2
      go_ret
      exact ⟨by simp, BE.out.trans ((below_grow _ _ _).mono BE.out.size)⟩
    | true =>
      cases x2 with
      | false =>
        refine wp_region_quiet_grown mixed (by kernel_rfl) ?_
        repeat (go_big_quiet_step ((first | (go_at_call_of 132 (Value.int .i64 d); exact Calls.grown_of (A0.out _)) | (go_at_call_of 133 (Value.agg #[.int .i64 fb, .int .i64 fa]); exact Calls.grown_of (A1.out _)) | (go_at_call_of 134 (Value.int .i64 c); exact Calls.grown_of (A3.out _)))))
        refine wpQuiet_nil ?_
        intro _ hw'
        obtain ⟨⟨nq, osq⟩, hw''⟩ := hw'
        subst hw''
        go_wp2
        go_ret
        exact ⟨by simp, BE.out.trans ((below_grow _ _ _).mono BE.out.size)⟩
      | true =>
        cases x3 with
        | false =>
          refine wp_region_quiet_grown mixed (by kernel_rfl) ?_
          repeat (go_big_quiet_step ((first | (go_at_call_of 132 (Value.int .i64 d); exact Calls.grown_of (A0.out _)) | (go_at_call_of 133 (Value.agg #[.int .i64 fb, .int .i64 fa]); exact Calls.grown_of (A1.out _)) | (go_at_call_of 134 (Value.int .i64 c); exact Calls.grown_of (A3.out _)))))
          refine wpQuiet_nil ?_
          intro _ hw'
          obtain ⟨⟨nq, osq⟩, hw''⟩ := hw'
          subst hw''
          go_wp2
          go_ret
          exact ⟨by simp, BE.out.trans ((below_grow _ _ _).mono BE.out.size)⟩
        | true =>
          cases x4 with
          | false =>
            refine wp_region_quiet_grown mixed (by kernel_rfl) ?_
            repeat (go_big_quiet_step ((first | (go_at_call_of 132 (Value.int .i64 d); exact Calls.grown_of (A0.out _)) | (go_at_call_of 133 (Value.agg #[.int .i64 fb, .int .i64 fa]); exact Calls.grown_of (A1.out _)) | (go_at_call_of 134 (Value.int .i64 c); exact Calls.grown_of (A3.out _)))))
            refine wpQuiet_nil ?_
            intro _ hw'
            obtain ⟨⟨nq, osq⟩, hw''⟩ := hw'
            subst hw''
            go_wp2
            go_ret
            exact ⟨by simp, BE.out.trans ((below_grow _ _ _).mono BE.out.size)⟩
          | true =>
            refine wp_region_quiet_grown mixed (by kernel_rfl) ?_
            repeat (go_big_quiet_step ((first | (go_at_call_of 132 (Value.int .i64 d); exact Calls.grown_of (A0.out _)) | (go_at_call_of 133 (Value.agg #[.int .i64 fb, .int .i64 fa]); exact Calls.grown_of (A1.out _)) | (go_at_call_of 134 (Value.int .i64 c); exact Calls.grown_of (A3.out _)))))
            refine wpQuiet_nil ?_
            intro _ hw'
            obtain ⟨⟨nq, osq⟩, hw''⟩ := hw'
            subst hw''
            go_wp2
            go_ret
            exact ⟨by simp, BE.out.trans ((below_grow _ _ _).mono BE.out.size)⟩
end Go.Proofs.Ytaconeliiicloaa.vo
