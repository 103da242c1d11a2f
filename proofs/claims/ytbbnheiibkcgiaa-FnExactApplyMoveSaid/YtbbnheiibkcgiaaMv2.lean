/-
  The laws' helpers for slices of Move: sz, eq.
-/
import Derived.Test.YtbbnheiibkcgiaaMv1
import Derived.Lib.QuietBelow
namespace Go.Proofs.Ytbbnheiibkcgiaa.mv
open Go.RowKit Go.Sort Go.Proofs.Ytbbnheiibkcgiaa.sl
set_option linter.unusedVariables false
set_option linter.unusedSimpArgs false

theorem szO (xs : List V) (f : Value) (B : Nat) (left : Int) (w : World) (ha : Ops w B f xs) (hn : xs.length ≤ 9223372036854775807) (h0 : 0 ≤ left) (h1 : left ≤ 1048576) :
    Calls Try.prog 30 #[f, .int .i64 left] w fun e w' => e = .returned (.int .i64 (br.szL left xs.length)) ∧ w = w' := by
  obtain ⟨ao, cap, rfl⟩ := ops_val ha
  clear ha
  generalize xs.length = n at *
  by_cases h : left - (n : Int) < 0
  · have HF : Hid (br.szL left n = -1) := hid (by rw [br.szL, if_pos h])
    go_enter Try.func30, Try.ntmps30
    go_wp2
    go_ret
    exact ⟨by rw [HF.out]; rfl, rfl⟩
  · have HF : Hid (br.szL left n = left - (n : Int)) := hid (by rw [br.szL, if_neg h])
    go_enter Try.func30, Try.ntmps30
    go_wp2
    go_ret
    exact ⟨by rw [HF.out]; rfl, rfl⟩

set_option maxRecDepth 100000 in
theorem eqO1 (x : V) (w : World) : Calls Try.prog 63 #[x.val, x.val] w fun e w' => e = .returned (.bool true) ∧ Below w.heap.size w w' := by
  obtain ⟨x0, x1⟩ := x
  simp only [V.val]
  have hb := ((Below.refl w.heap.size w).alloc (Nat.le_refl _) (.cells #[.int .i64 x0, .int .i64 x1] 33)).alloc (by simp) (.cells #[.int .i64 x0, .int .i64 x1] 33)
  go_enter Try.func63, Try.ntmps63
  go_wp2
  go_ret
  exact ⟨rfl, hb⟩

set_option maxRecDepth 100000 in
set_option maxHeartbeats 2000000 in
theorem eqOS (xs : List V) (f g : Value) (B C : Nat) (w : World) (ha : Ops w B f xs) (hb : Ops w C g xs) (hq : Small xs) :
    Calls Try.prog 34 #[f, g] w fun e w' => e = .returned (.bool true) ∧ Below w.heap.size w w' := by
  have hn := hq.len
  clear hq
  by_cases h0 : xs.length = 0
  · obtain ⟨ao, cap, rfl⟩ := ops_val ha
    obtain ⟨ao', cap', rfl⟩ := ops_val hb
    rw [h0]
    clear ha hb
    go_enter Try.func34, Try.ntmps34
    go_wp2
    refine wp_loop_rounds 1 ?_
    rw [rounds_succ]
    go_wp2
    go_ret
    exact ⟨rfl, Below.refl _ _⟩
  rcases ha with ⟨h, _⟩ | ⟨hp, b, off, cap, rfl, hbb, hc⟩
  · exact absurd (by rw [h]; rfl) h0
  rcases hb with ⟨h, _⟩ | ⟨hp', b', off', cap', rfl, hbb', hc'⟩
  · exact absurd (by rw [h]; rfl) h0
  have HC := hid hc
  have HC' := hid hc'
  clear hc hc' h0 hp'
  obtain ⟨n, hnn⟩ : ∃ n, n = xs.length := ⟨_, rfl⟩
  rw [← hnn] at hp hn HC HC' ⊢
  clear hnn
  have mixed : Try.prog.follows .mixedOrders = true := by kernel_rfl
  go_enter Try.func34, Try.ntmps34
  go_wp2
  go_loopw [5] (fun i wr => ∃ k : Nat, k ≤ n ∧ i = .int .i64 k ∧ Below w.heap.size w wr) (fun i _ => n - (intOf i).toNat)
  case atStart => exact ⟨0, Nat.zero_le _, rfl, Below.refl _ _⟩
  case round =>
    obtain ⟨k, hk, rfl, hbel⟩ := hrel
    have HB := hid hbel
    clear hbel
    by_cases hlt : k < n
    · have HA := (HC.out k hlt).below HB.out
      have HA' := (HC'.out k hlt).below HB.out
      generalize xs.getD k oz = x at HA HA'
      have HE := hid (fun W => eqO1 x W)
      obtain ⟨x0, x1⟩ := x
      simp only [V.val] at HE
      have c0 := fun d os => cell_regrown HA.c0 d os
      have c1 := fun d os => cell_regrown HA.c1 d os
      have e0 := fun d os => cell_regrown HA'.c0 d os
      have e1 := fun d os => cell_regrown HA'.c1 d os
      clear HA HA'
      go_wp2_with fail
      refine wp_region_quiet_below mixed (by kernel_rfl) ?_
      repeat (go_big_quiet_step ((go_at_call 63; exact Calls.regrown_of (HE.out _))))
      refine wpQuiet_nil ?_
      intro _ hw'
      obtain ⟨⟨nq, osq⟩, hw''⟩ := hw'
      subst hw''
      clear c0 e0 c1 e1
      have HB2 := hid (HB.out.trans ((below_regrown wr nq osq).mono HB.out.size))
      generalize grow (redrawn wr nq) osq = W2 at *
      go_wp2
      go_roundw
      case rel => exact ⟨k + 1, by omega, by go_num, HB2.out⟩
      case measure => simp [intOf]; omega
    · obtain rfl : k = n := by omega
      go_wp2
      go_ret
      exact ⟨rfl, HB.out⟩
end Go.Proofs.Ytbbnheiibkcgiaa.mv
