/-
  The program's ValidOp at the kind 6.
-/
import Derived.Test.YtaconeliiicloaaVq
namespace Go.Proofs.Ytaconeliiicloaa.vo
open Go.RowKit Go.Sort Go.Proofs.Ytaconeliiicloaa.nd Go.Proofs.Ytaconeliiicloaa.sl
set_option linter.unusedVariables false
set_option linter.unusedSimpArgs false
set_option maxRecDepth 100000 in
set_option maxHeartbeats 8000000 in
theorem impl6 (d fb fa tb ta c r : Int) (w : World) (x0 x1 : Bool) (hx0 : x0 = (validB fb fa)) (hx1 : x1 = (d == 0 && tb == 0 && ta == 0 && c == 0 && r == 0)) :
    Calls Try.prog 136 #[.agg #[.int .i64 6, .int .i64 d, .int .i64 fb, .int .i64 fa, .int .i64 tb, .int .i64 ta, .int .i64 c, .int .i64 r]] w fun e w' => e = .returned (.bool (x0 && x1)) ∧ Below w.heap.size w w' := by
  have bE : Below w.heap.size w (w.alloc (.cells #[.int .i64 6, .int .i64 d, .int .i64 fb, .int .i64 fa, .int .i64 tb, .int .i64 ta, .int .i64 c, .int .i64 r] 90)) := (Below.refl _ _).alloc (Nat.le_refl _) _
  have H1 := opAt_new 6 d fb fa tb ta c r w
  have T1 : ∀ (v : Value) (W : World), (Instr.typeAssert (.iface 173 v) 166 168 true).run Try.prog W = .ok (.tuple #[.agg #[.int .i64 0, .int .i64 0, .int .i64 0, .int .i64 0, .int .i64 0, .int .i64 0, .int .i64 0, .int .i64 0], .bool false]) W := fun v W => by kernel_rfl
  have T2 : ∀ (v : Value) (W : World), (Instr.typeAssert (.iface 173 v) 166 169 true).run Try.prog W = .ok (.tuple #[.agg #[.int .i64 0, .int .i64 0, .int .i64 0, .int .i64 0, .int .i64 0, .int .i64 0, .int .i64 0, .int .i64 0], .bool false]) W := fun v W => by kernel_rfl
  have T3 : ∀ (v : Value) (W : World), (Instr.typeAssert (.iface 173 v) 166 170 true).run Try.prog W = .ok (.tuple #[.agg #[.int .i64 0, .int .i64 0, .int .i64 0, .int .i64 0, .int .i64 0, .int .i64 0, .int .i64 0, .int .i64 0], .bool false]) W := fun v W => by kernel_rfl
  have T4 : ∀ (v : Value) (W : World), (Instr.typeAssert (.iface 173 v) 166 171 true).run Try.prog W = .ok (.tuple #[.agg #[.int .i64 0, .int .i64 0, .int .i64 0, .int .i64 0, .int .i64 0, .int .i64 0, .int .i64 0, .int .i64 0], .bool false]) W := fun v W => by kernel_rfl
  have T5 : ∀ (v : Value) (W : World), (Instr.typeAssert (.iface 173 v) 166 172 true).run Try.prog W = .ok (.tuple #[.agg #[.int .i64 0, .int .i64 0, .int .i64 0, .int .i64 0, .int .i64 0, .int .i64 0, .int .i64 0, .int .i64 0], .bool false]) W := fun v W => by kernel_rfl
  have T6 : ∀ (v : Value) (W : World), (Instr.typeAssert (.iface 173 v) 166 173 true).run Try.prog W = .ok (.tuple #[v, .bool true]) W := fun v W => by kernel_rfl
  have A0 := hid (show ∀ w1, Calls Try.prog 111 #[.agg #[.int .i64 fb, .int .i64 fa]] w1 fun e w2 => e = .returned (.bool x0) ∧ Below w1.heap.size w1 w2 from fun w1 => by rw [hx0]; exact implValid _ _ w1)
  have E1 : ∀ w1, (binOp .eql 90 (.agg #[.int .i64 6, .int .i64 d, .int .i64 fb, .int .i64 fa, .int .i64 tb, .int .i64 ta, .int .i64 c, .int .i64 r]) (.agg #[.int .i64 6, .int .i64 0, .int .i64 fb, .int .i64 fa, .int .i64 0, .int .i64 0, .int .i64 0, .int .i64 0])).run Try.prog w1 = .ok (.bool x1) w1 := fun w1 => by rw [eqRun, hx1]; simp
  clear hx0 hx1
  cases x0 with
  | false =>
    go_enter Try.func136, Try.ntmps136
    go_wp2_with (fail)
    generalize w.alloc (.cells #[.int .i64 6, .int .i64 d, .int .i64 fb, .int .i64 fa, .int .i64 tb, .int .i64 ta, .int .i64 c, .int .i64 r] 90) = W0 at *
    refine (opOf6 _ _ _ _ _ _ _ _).mono ?_
    rintro e w0 ⟨rfl, hb⟩
    replace H1 := OpAt.below H1 hb; replace bE := Below.trans bE (Below.mono hb (Below.size bE)); clear hb
    obtain ⟨k0, k1, k2, k3, k4, k5, k6, k7⟩ := H1.z
    go_wp2_with (fail)
    clear k0 k1 k2 k3 k4 k5 k6 k7
    refine (A0.out _).mono ?_
    rintro e w1 ⟨rfl, hb⟩
    replace H1 := OpAt.below H1 hb; replace bE := Below.trans bE (Below.mono hb (Below.size bE)); clear hb
    obtain ⟨k0, k1, k2, k3, k4, k5, k6, k7⟩ := H1.z
    go_wp2_with (fail)
    go_ret
    exact ⟨by simp, bE⟩
  | true =>
    cases x1 with
    | false =>
      go_enter Try.func136, Try.ntmps136
      go_wp2_with (fail)
      generalize w.alloc (.cells #[.int .i64 6, .int .i64 d, .int .i64 fb, .int .i64 fa, .int .i64 tb, .int .i64 ta, .int .i64 c, .int .i64 r] 90) = W0 at *
      refine (opOf6 _ _ _ _ _ _ _ _).mono ?_
      rintro e w0 ⟨rfl, hb⟩
      replace H1 := OpAt.below H1 hb; replace bE := Below.trans bE (Below.mono hb (Below.size bE)); clear hb
      obtain ⟨k0, k1, k2, k3, k4, k5, k6, k7⟩ := H1.z
      go_wp2_with (fail)
      clear k0 k1 k2 k3 k4 k5 k6 k7
      refine (A0.out _).mono ?_
      rintro e w1 ⟨rfl, hb⟩
      replace H1 := OpAt.below H1 hb; replace bE := Below.trans bE (Below.mono hb (Below.size bE)); clear hb
      obtain ⟨k0, k1, k2, k3, k4, k5, k6, k7⟩ := H1.z
      go_wp2_with (fail)
      go_ret
      exact ⟨by simp, bE⟩
    | true =>
      go_enter Try.func136, Try.ntmps136
      go_wp2_with (fail)
      generalize w.alloc (.cells #[.int .i64 6, .int .i64 d, .int .i64 fb, .int .i64 fa, .int .i64 tb, .int .i64 ta, .int .i64 c, .int .i64 r] 90) = W0 at *
      refine (opOf6 _ _ _ _ _ _ _ _).mono ?_
      rintro e w0 ⟨rfl, hb⟩
      replace H1 := OpAt.below H1 hb; replace bE := Below.trans bE (Below.mono hb (Below.size bE)); clear hb
      obtain ⟨k0, k1, k2, k3, k4, k5, k6, k7⟩ := H1.z
      go_wp2_with (fail)
      clear k0 k1 k2 k3 k4 k5 k6 k7
      refine (A0.out _).mono ?_
      rintro e w1 ⟨rfl, hb⟩
      replace H1 := OpAt.below H1 hb; replace bE := Below.trans bE (Below.mono hb (Below.size bE)); clear hb
      obtain ⟨k0, k1, k2, k3, k4, k5, k6, k7⟩ := H1.z
      go_wp2_with (fail)
      go_ret
      exact ⟨by simp, bE⟩
end Go.Proofs.Ytaconeliiicloaa.vo
