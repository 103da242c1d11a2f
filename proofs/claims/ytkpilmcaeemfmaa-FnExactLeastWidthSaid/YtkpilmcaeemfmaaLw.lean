/-
  LeastWidth of both sides.
-/
import Derived.Test.YtkpilmcaeemfmaaOto
import Derived.Laws.Cover1
namespace Go.Proofs.Ytkpilmcaeemfmaa.os
open Go.RowKit Go.Sort Go.Proofs.Ytkpilmcaeemfmaa.sl Go.Proofs.Ytkpilmcaeemfmaa.vo Go.Proofs.Ytkpilmcaeemfmaa.nd
set_option linter.unusedVariables false
set_option linter.unusedSimpArgs false

theorem needle_range {b t : Int} (h : validB b t = true) : 0 ≤ t ∧ t ≤ 23 := by
  simp [validB] at h; omega
/-- Needles that are used are needles; others are zero. -/
theorem val_range {x : OpV} (h : valB x = true) : (0 ≤ x.fa ∧ x.fa ≤ 23) ∧ (0 ≤ x.ta ∧ x.ta ≤ 23) := by
  obtain ⟨k, d, fb, fa, tb, ta, c, r⟩ := x
  simp only [valB] at h ⊢
  unfold opB at h
  have key : (validB fb fa = true ∨ fa = 0) ∧ (validB tb ta = true ∨ ta = 0) := by
    repeat' (split at h)
    all_goals simp_all
  refine ⟨?_, ?_⟩
  · rcases key.1 with h1 | h1
    · exact needle_range h1
    · omega
  · rcases key.2 with h1 | h1
    · exact needle_range h1
    · omega

/-- The least width for the first operations. -/
def lw (xs : List OpV) : Nat → Int
  | 0 => 1
  | k + 1 => max (lw xs k) (max (xs.getD k oz).fa (xs.getD k oz).ta + 1)
theorem lw_range {xs : List OpV} (h : xs.all (okB 24) = true) : ∀ k, k ≤ xs.length → 1 ≤ lw xs k ∧ lw xs k ≤ 24
  | 0, _ => ⟨by simp [lw], by simp [lw]⟩
  | k + 1, hk => by
    obtain ⟨h1, h2⟩ := lw_range h k (by omega)
    have h3 := all_at h k (by omega)
    simp only [okB, Bool.and_eq_true] at h3
    obtain ⟨h4, h5⟩ := val_range h3.1
    simp only [lw]
    omega
def lwB (xs : List OpV) : Int := if opsB 24 xs then lw xs xs.length else 0
theorem ops_all {wd : Int} {xs : List OpV} (h : opsB wd xs = true) : xs.all (okB wd) = true ∧ xs.length ≤ 1500 := by
  simp only [opsB, Bool.and_eq_true, decide_eq_true_eq] at h
  exact ⟨h.2, h.1.2⟩

theorem maxI (a b : Int) (w : World) : Calls Try.prog 141 #[.int .i64 a, .int .i64 b] w fun e w' => e = .returned (.int .i64 (max a b)) ∧ w = w' := by
  by_cases h : b < a
  · have HQ : Hid (max a b = a) := hid (by omega)
    go_enter Try.func141, Try.ntmps141
    go_wp2
    go_ret
    exact ⟨by rw [HQ.out]; rfl, rfl⟩
  · have HQ : Hid (max a b = b) := hid (by omega)
    go_enter Try.func141, Try.ntmps141
    go_wp2
    go_ret
    exact ⟨by rw [HQ.out]; rfl, rfl⟩

set_option maxRecDepth 100000 in
set_option maxHeartbeats 600000 in
theorem specLW (xs : List OpV) (v : Value) (B : Nat) (w : World) (ha : Ops w B v xs) (hB : B ≤ w.heap.size) (hq : Small xs) :
    Calls Try.prog 64 #[v] w fun e w' => e = .returned (.int .i64 (lwB xs)) ∧ Below w.heap.size w w' := by
  have HS := hid (specOps 24 xs v B w ha hB hq)
  have hn := hq.len
  clear hq
  have mixed : Try.prog.follows .mixedOrders = true := by kernel_rfl
  obtain ⟨y, hy⟩ : ∃ y, y = opsB 24 xs := ⟨_, rfl⟩
  rw [← hy] at HS
  have HR : Hid (lwB xs = if y then lw xs xs.length else 0) := hid (by rw [hy]; rfl)
  cases y with
  | false =>
    have HR2 : Hid (lwB xs = 0) := hid (by rw [HR.out]; simp)
    obtain ⟨ao, cap, rfl⟩ := ops_val ha
    clear ha hy HR
    generalize xs.length = n at *
    go_enter Try.func64, Try.ntmps64
    go_wp2_with fail
    refine HS.out.mono ?_
    rintro e w1 ⟨rfl, b1⟩
    have HB := hid b1
    clear b1
    go_wp2
    go_ret
    exact ⟨by rw [HR2.out]; first | done | rfl, HB.out⟩
  | true =>
    have HR2 : Hid (lwB xs = lw xs xs.length) := hid (by rw [HR.out]; simp)
    have HLR := hid (lw_range (ops_all hy.symm).1)
    have HV := hid (fun k (hk : k < xs.length) => val_range (x := xs.getD k oz) (by have := all_at (ops_all hy.symm).1 k hk; simp only [okB, Bool.and_eq_true] at this; exact this.1))
    clear hy HR
    rcases ha with ⟨rfl, ao, cap, rfl⟩ | ⟨hp, b, off, cap, rfl, hb, hc⟩
    · go_enter Try.func64, Try.ntmps64
      go_wp2_with fail
      refine HS.out.mono ?_
      rintro e w1 ⟨rfl, b1⟩
      have HB := hid b1
      clear b1
      go_wp2
      refine wp_loop_rounds 1 ?_
      rw [rounds_succ]
      go_wp2
      go_ret
      exact ⟨by rw [HR2.out]; first | done | rfl, HB.out⟩
    · have HC := hid hc
      clear hc
      obtain ⟨n, hnn⟩ : ∃ n, n = xs.length := ⟨_, rfl⟩
      rw [← hnn] at hp hn HC HR2 HLR HV HS ⊢
      clear hnn
      go_enter Try.func64, Try.ntmps64
      go_wp2_with fail
      refine HS.out.mono ?_
      rintro e w1 ⟨rfl, b1⟩
      have HB := hid b1
      clear b1
      go_wp2
      go_loopw [3, 4] (fun o i wr => ∃ k : Nat, k ≤ n ∧ i = .int .i64 k ∧ o = .int .i64 (lw xs k) ∧ Below w.heap.size w wr) (fun _ i _ => n - (intOf i).toNat)
      case atStart => exact ⟨0, Nat.zero_le _, rfl, rfl, HB.out⟩
      case round =>
        obtain ⟨k, hk, rfl, rfl, hbel⟩ := hrel
        have HBel := hid hbel
        clear hbel
        by_cases hlt : k < n
        · have HA := (HC.out k hlt).below HBel.out
          obtain ⟨hv1, hv2⟩ := HV.out k hlt
          have hlr := HLR.out k hk
          have HN : Hid (lw xs (k + 1) = max (lw xs k) (max (xs.getD k oz).fa (xs.getD k oz).ta + 1)) := hid rfl
          generalize xs.getD k oz = x at *
          generalize lw xs k = o at *
          obtain ⟨x0, x1, x2, fa, x4, ta, x6, x7⟩ := x
          simp only at hv1 hv2 HN
          obtain ⟨m, hm⟩ : ∃ m, m = max fa ta := ⟨_, rfl⟩
          have hm1 : 0 ≤ m ∧ m ≤ 23 := by omega
          have HM1 := hid (fun w1 => show Calls Try.prog 141 #[.int .i64 fa, .int .i64 ta] w1 fun e w2 => e = .returned (.int .i64 m) ∧ Below w1.heap.size w1 w2 from by rw [hm]; exact (maxI fa ta w1).mono (fun _ _ ⟨a, b⟩ => ⟨a, by rw [← b]; exact Below.refl _ _⟩))
          have HM2 := hid (fun w1 => show Calls Try.prog 141 #[.int .i64 o, .int .i64 (m + 1)] w1 fun e w2 => e = .returned (.int .i64 (max o (m + 1))) ∧ Below w1.heap.size w1 w2 from (maxI o (m + 1) w1).mono (fun _ _ ⟨a, b⟩ => ⟨a, by rw [← b]; exact Below.refl _ _⟩))
          have hwr : IntKind.i64.wrap (m + 1) = m + 1 := by rw [IntKind.wrap_i64]; omega
          rw [← hm] at HN
          clear hm hv1 hv2
          have c3 := fun d os => cell_regrown HA.c3 d os
          have c5 := fun d os => cell_regrown HA.c5 d os
          simp only at c3 c5
          clear HA
          go_wp2_with fail
          refine wp_region_quiet_below mixed (by kernel_rfl) ?_
          repeat (go_big_quiet_step ((first | (go_at_call_of 141 (Value.int .i64 fa); exact Calls.regrown_of (HM1.out _)) | (go_at_call 141; exact Calls.regrown_of (HM2.out _)))))
          refine wpQuiet_nil ?_
          intro _ hw'
          obtain ⟨⟨nq, osq⟩, hw''⟩ := hw'
          subst hw''
          clear c3 c5
          have HB2 := hid (HBel.out.trans ((below_regrown wr nq osq).mono HBel.out.size))
          generalize grow (redrawn wr nq) osq = W2 at *
          go_wp2
          go_roundw
          case rel => exact ⟨k + 1, by omega, by go_num, by rw [HN.out], HB2.out⟩
          case measure => simp [intOf]; omega
        · obtain rfl : k = n := by omega
          go_wp2
          go_ret
          exact ⟨by rw [HR2.out]; first | done | rfl, HBel.out⟩

set_option maxRecDepth 100000 in
set_option maxHeartbeats 600000 in
theorem implLW (xs : List OpV) (v : Value) (B : Nat) (w : World) (ha : Ops w B v xs) (hB : B ≤ w.heap.size) (hq : Small xs) :
    Calls Try.prog 65 #[v] w fun e w' => e = .returned (.int .i64 (lwB xs)) ∧ Below w.heap.size w w' := by
  have HS := hid (areFor 24 xs v B w ha hB hq)
  have hn := hq.len
  clear hq
  obtain ⟨y, hy⟩ : ∃ y, y = opsB 24 xs := ⟨_, rfl⟩
  rw [← hy] at HS
  have HR : Hid (lwB xs = if y then lw xs xs.length else 0) := hid (by rw [hy]; rfl)
  cases y with
  | false =>
    have HR2 : Hid (lwB xs = 0) := hid (by rw [HR.out]; simp)
    obtain ⟨ao, cap, rfl⟩ := ops_val ha
    clear ha hy HR
    generalize xs.length = n at *
    go_enter Try.func65, Try.ntmps65
    go_wp2_with fail
    refine HS.out.mono ?_
    rintro e w1 ⟨rfl, b1⟩
    have HB := hid b1
    clear b1
    go_wp2
    go_ret
    exact ⟨by rw [HR2.out]; first | done | rfl, HB.out⟩
  | true =>
    have HR2 : Hid (lwB xs = lw xs xs.length) := hid (by rw [HR.out]; simp)
    have HLR := hid (lw_range (ops_all hy.symm).1)
    have HV := hid (fun k (hk : k < xs.length) => val_range (x := xs.getD k oz) (by have := all_at (ops_all hy.symm).1 k hk; simp only [okB, Bool.and_eq_true] at this; exact this.1))
    clear hy HR
    rcases ha with ⟨rfl, ao, cap, rfl⟩ | ⟨hp, b, off, cap, rfl, hb, hc⟩
    · go_enter Try.func65, Try.ntmps65
      go_wp2_with fail
      refine HS.out.mono ?_
      rintro e w1 ⟨rfl, b1⟩
      have HB := hid b1
      clear b1
      go_wp2
      refine wp_loop_rounds 1 ?_
      rw [rounds_succ]
      go_wp2
      go_ret
      exact ⟨by rw [HR2.out]; first | done | rfl, HB.out⟩
    · have HC := hid hc
      clear hc
      obtain ⟨n, hnn⟩ : ∃ n, n = xs.length := ⟨_, rfl⟩
      rw [← hnn] at hp hn HC HR2 HLR HV HS ⊢
      clear hnn
      go_enter Try.func65, Try.ntmps65
      go_wp2_with fail
      refine HS.out.mono ?_
      rintro e w1 ⟨rfl, b1⟩
      have HB := hid b1
      clear b1
      go_wp2
      go_loopw [3, 11] (fun o i wr => ∃ k : Nat, k ≤ n ∧ i = .int .i64 k ∧ o = .int .i64 (lw xs k) ∧ Below w.heap.size w wr) (fun _ i _ => n - (intOf i).toNat)
      case atStart => exact ⟨0, Nat.zero_le _, rfl, rfl, HB.out⟩
      case round =>
        obtain ⟨k, hk, rfl, rfl, hbel⟩ := hrel
        have HBel := hid hbel
        clear hbel
        by_cases hlt : k < n
        · have HA := (HC.out k hlt).below HBel.out
          obtain ⟨hv1, hv2⟩ := HV.out k hlt
          have hlr := HLR.out k hk
          have HN : Hid (lw xs (k + 1) = max (lw xs k) (max (xs.getD k oz).fa (xs.getD k oz).ta + 1)) := hid rfl
          generalize xs.getD k oz = x at *
          generalize lw xs k = o at *
          obtain ⟨x0, x1, x2, fa, x4, ta, x6, x7⟩ := x
          simp only at hv1 hv2 HN
          have c0 := HA.c0
          have c1 := HA.c1
          have c2 := HA.c2
          have c3 := HA.c3
          have c4 := HA.c4
          have c5 := HA.c5
          have c6 := HA.c6
          have c7 := HA.c7
          simp only at c0 c1 c2 c3 c4 c5 c6 c7
          have HB2 := hid (HBel.out.alloc (by have := HBel.out.size; omega) (.cells #[.int .i64 x0, .int .i64 x1, .int .i64 x2, .int .i64 fa, .int .i64 x4, .int .i64 ta, .int .i64 x6, .int .i64 x7] 70))
          clear HA
          obtain ⟨m, hm⟩ : ∃ m, m = max o (max fa ta + 1) := ⟨_, rfl⟩
          have HX : ∀ W, (Builtin.max_ #[2, 2, 2] 2 #[.int .i64 o, .int .i64 (fa + 1), .int .i64 (ta + 1)]).run Try.prog W = .ok (.int .i64 m) W := by
            intro W
            rw [run_max_int3]
            congr 2
            rw [hm]
            repeat' split
            all_goals omega
          rw [← hm] at HN
          clear hm
          go_wp2
          go_roundw
          case rel => exact ⟨k + 1, by omega, by go_num, by rw [HN.out], HB2.out⟩
          case measure => simp [intOf]; omega
        · obtain rfl : k = n := by omega
          go_wp2
          go_ret
          exact ⟨by rw [HR2.out]; first | done | rfl, HBel.out⟩
end Go.Proofs.Ytkpilmcaeemfmaa.os
