/-
  The laws' helpers for slices of Op: sz, eq.
-/
import Derived.Test.YtedajefapddekaaQo1
import Derived.Lib.QuietBelow
namespace Go.Proofs.Ytedajefapddekaa.qo
open Go.RowKit Go.Sort Go.Proofs.Ytedajefapddekaa.sl
set_option linter.unusedVariables false
set_option linter.unusedSimpArgs false

theorem eqNdS (b t : Int) (w : World) : Calls Try.prog 95 #[.agg #[.int .i64 b, .int .i64 t], .agg #[.int .i64 b, .int .i64 t]] w fun e w' => e = .returned (.bool true) ∧ Below w.heap.size w w' := by
  have hb := ((Below.refl w.heap.size w).alloc (Nat.le_refl _) (.cells #[.int .i64 b, .int .i64 t] 77)).alloc (by simp) (.cells #[.int .i64 b, .int .i64 t] 77)
  go_enter Try.func95, Try.ntmps95
  go_wp2
  go_ret
  exact ⟨rfl, hb⟩

set_option maxRecDepth 100000 in
theorem eqO1 (x : V) (w : World) : Calls Try.prog 58 #[x.val, x.val] w fun e w' => e = .returned (.bool true) ∧ Below w.heap.size w w' := by
  obtain ⟨x0, x1, x2, x3, x4, x5, x6, x7⟩ := x
  simp only [V.val]
  have hb := ((Below.refl w.heap.size w).alloc (Nat.le_refl _) (.cells #[.int .i64 x0, .int .i64 x1, .int .i64 x2, .int .i64 x3, .int .i64 x4, .int .i64 x5, .int .i64 x6, .int .i64 x7] 79)).alloc (by simp) (.cells #[.int .i64 x0, .int .i64 x1, .int .i64 x2, .int .i64 x3, .int .i64 x4, .int .i64 x5, .int .i64 x6, .int .i64 x7] 79)
  have A := (at_new ⟨x0, x1, x2, x3, x4, x5, x6, x7⟩ 79 w).below ((Below.refl _ _).alloc (Nat.le_refl _) (.cells #[.int .i64 x0, .int .i64 x1, .int .i64 x2, .int .i64 x3, .int .i64 x4, .int .i64 x5, .int .i64 x6, .int .i64 x7] 79))
  have B := at_new ⟨x0, x1, x2, x3, x4, x5, x6, x7⟩ 79 (w.alloc (.cells #[.int .i64 x0, .int .i64 x1, .int .i64 x2, .int .i64 x3, .int .i64 x4, .int .i64 x5, .int .i64 x6, .int .i64 x7] 79))
  have hs : (w.alloc (.cells #[.int .i64 x0, .int .i64 x1, .int .i64 x2, .int .i64 x3, .int .i64 x4, .int .i64 x5, .int .i64 x6, .int .i64 x7] 79)).heap.size = w.heap.size + 1 := by simp
  simp only at A B
  rw [hs] at B
  go_enter Try.func58, Try.ntmps58
  go_wp2_with fail
  generalize (w.alloc (.cells #[.int .i64 x0, .int .i64 x1, .int .i64 x2, .int .i64 x3, .int .i64 x4, .int .i64 x5, .int .i64 x6, .int .i64 x7] 79)).alloc (.cells #[.int .i64 x0, .int .i64 x1, .int .i64 x2, .int .i64 x3, .int .i64 x4, .int .i64 x5, .int .i64 x6, .int .i64 x7] 79) = W0 at *
  refine (eqNdS _ _ _).mono ?_
  rintro e w1 ⟨rfl, b1⟩
  replace A := A.below b1
  replace B := B.below b1
  replace hb := hb.trans (b1.mono hb.size)
  clear b1
  obtain ⟨_, k0, k1, k2, k3, k4, k5, k6, k7⟩ := A
  obtain ⟨_, j0, j1, j2, j3, j4, j5, j6, j7⟩ := B
  have A : At w1 w.heap.size 0 ⟨x0, x1, x2, x3, x4, x5, x6, x7⟩ := ⟨by assumption, k0, k1, k2, k3, k4, k5, k6, k7⟩
  have B : At w1 (w.heap.size + 1) 0 ⟨x0, x1, x2, x3, x4, x5, x6, x7⟩ := ⟨by assumption, j0, j1, j2, j3, j4, j5, j6, j7⟩
  simp only [Nat.zero_add] at k1 k2 k3 k4 k5 k6 k7 j1 j2 j3 j4 j5 j6 j7
  go_wp2_with fail
  clear k0 k1 k2 k3 k4 k5 k6 k7 j0 j1 j2 j3 j4 j5 j6 j7
  refine (eqNdS _ _ _).mono ?_
  rintro e w2 ⟨rfl, b1⟩
  replace A := A.below b1
  replace B := B.below b1
  have HB := hid (hb.trans (b1.mono hb.size))
  clear b1 hb
  obtain ⟨_, k0, k1, k2, k3, k4, k5, k6, k7⟩ := A
  obtain ⟨_, j0, j1, j2, j3, j4, j5, j6, j7⟩ := B
  simp only [Nat.zero_add] at k1 k2 k3 k4 k5 k6 k7 j1 j2 j3 j4 j5 j6 j7
  go_wp2
  go_ret
  exact ⟨rfl, HB.out⟩

set_option maxRecDepth 100000 in
set_option maxHeartbeats 2000000 in
theorem eqOS (xs : List V) (f g : Value) (B C : Nat) (w : World) (ha : Ops w B f xs) (hb : Ops w C g xs) (hq : Small xs) :
    Calls Try.prog 17 #[f, g] w fun e w' => e = .returned (.bool true) ∧ Below w.heap.size w w' := by
  have hn := hq.len
  clear hq
  by_cases h0 : xs.length = 0
  · obtain ⟨ao, cap, rfl⟩ := ops_val ha
    obtain ⟨ao', cap', rfl⟩ := ops_val hb
    rw [h0]
    clear ha hb
    go_enter Try.func17, Try.ntmps17
    go_wp2
    refine wp_loop_rounds 1 ?_
    rw [rounds_succ]
    go_wp2
    go_ret
    exact ⟨rfl, Below.refl _ _⟩
  rcases ha with ⟨h, _⟩ | ⟨hp, b, off, cap, rfl, hbb, hc⟩
  · exact absurd (by rw [h]; rfl) h0
  rcases hb with ⟨h, _⟩ | ⟨hp', b', off', cap', rfl, hbb', hc'⟩
  · exact absurd (by rw [h]; rfl) h0
  have HC := hid hc
  have HC' := hid hc'
  clear hc hc' h0 hp'
  obtain ⟨n, hnn⟩ : ∃ n, n = xs.length := ⟨_, rfl⟩
  rw [← hnn] at hp hn HC HC' ⊢
  clear hnn
  have mixed : Try.prog.follows .mixedOrders = true := by kernel_rfl
  go_enter Try.func17, Try.ntmps17
  go_wp2
  go_loopw [5] (fun i wr => ∃ k : Nat, k ≤ n ∧ i = .int .i64 k ∧ Below w.heap.size w wr) (fun i _ => n - (intOf i).toNat)
  case atStart => exact ⟨0, Nat.zero_le _, rfl, Below.refl _ _⟩
  case round =>
    obtain ⟨k, hk, rfl, hbel⟩ := hrel
    have HB := hid hbel
    clear hbel
    by_cases hlt : k < n
    · have HA := (HC.out k hlt).below HB.out
      have HA' := (HC'.out k hlt).below HB.out
      generalize xs.getD k oz = x at HA HA'
      have HE := hid (fun W => eqO1 x W)
      obtain ⟨x0, x1, x2, x3, x4, x5, x6, x7⟩ := x
      simp only [V.val] at HE
      have c0 := fun d os => cell_regrown HA.c0 d os
      have c1 := fun d os => cell_regrown HA.c1 d os
      have c2 := fun d os => cell_regrown HA.c2 d os
      have c3 := fun d os => cell_regrown HA.c3 d os
      have c4 := fun d os => cell_regrown HA.c4 d os
      have c5 := fun d os => cell_regrown HA.c5 d os
      have c6 := fun d os => cell_regrown HA.c6 d os
      have c7 := fun d os => cell_regrown HA.c7 d os
      have e0 := fun d os => cell_regrown HA'.c0 d os
      have e1 := fun d os => cell_regrown HA'.c1 d os
      have e2 := fun d os => cell_regrown HA'.c2 d os
      have e3 := fun d os => cell_regrown HA'.c3 d os
      have e4 := fun d os => cell_regrown HA'.c4 d os
      have e5 := fun d os => cell_regrown HA'.c5 d os
      have e6 := fun d os => cell_regrown HA'.c6 d os
      have e7 := fun d os => cell_regrown HA'.c7 d os
      clear HA HA'
      go_wp2_with fail
      refine wp_region_quiet_below mixed (by kernel_rfl) ?_
      repeat (go_big_quiet_step ((go_at_call 58; exact Calls.regrown_of (HE.out _))))
      refine wpQuiet_nil ?_
      intro _ hw'
      obtain ⟨⟨nq, osq⟩, hw''⟩ := hw'
      subst hw''
      clear c0 e0 c1 e1 c2 e2 c3 e3 c4 e4 c5 e5 c6 e6 c7 e7
      have HB2 := hid (HB.out.trans ((below_regrown wr nq osq).mono HB.out.size))
      generalize grow (redrawn wr nq) osq = W2 at *
      go_wp2
      go_roundw
      case rel => exact ⟨k + 1, by omega, by go_num, HB2.out⟩
      case measure => simp [intOf]; omega
    · obtain rfl : k = n := by omega
      go_wp2
      go_ret
      exact ⟨rfl, HB.out⟩
end Go.Proofs.Ytedajefapddekaa.qo
