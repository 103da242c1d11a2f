/-
  The walk of the law of LoopsOn.
-/
import Derived.Test.YtfechjhngcmdpaaVmk
import Derived.Test.YtfechjhngcmdpaaMk
import Derived.Deep.RegionHeld3
namespace Go.Proofs.Ytfechjhngcmdpaa.wloopsOn
open Go.RowKit
set_option linter.unusedVariables false

set_option maxRecDepth 100000 in
set_option maxHeartbeats 20000000 in
theorem law (a0 p0 : Int) (f0_0 f0_1 f0_2 f0_3 f0_4 : Value) (xs0 : mc.Mch) (a1 c1 : Int) (w : World) (hi0 : mc.MArg w f0_0 f0_1 f0_2 f0_3 f0_4 xs0) (ha0 : -9223372036854775808 ≤ a0 ∧ a0 ≤ 9223372036854775807) (hp0 : -9223372036854775808 ≤ p0 ∧ p0 ≤ 9223372036854775807) (ha1 : -9223372036854775808 ≤ a1 ∧ a1 ≤ 9223372036854775807) (hc1 : -9223372036854775808 ≤ c1 ∧ c1 ≤ 9223372036854775807) :
    Calls Try.prog 4 #[.agg #[.int .i64 a0, .int .i64 p0, f0_0, f0_1, f0_2, f0_3, f0_4], .agg #[.int .i64 a1, .int .i64 c1]] w fun e w' => e = .returned (.bool true) ∧ Below w.heap.size w w' := by
  have HI0 := sl.hid hi0.rd
  have HZ0 := sl.hid (fun W B h => mc.szM a0 p0 xs0 f0_0 f0_1 f0_2 f0_3 f0_4 B (1048576) W h hi0.len hi0.short (by omega) (by omega))
  rcases mc.szV_pos (m := xs0) (left := 1048576) (by omega) with hzc0 | hzc0
  · rw [hzc0] at HZ0
    clear hzc0 hi0 ha0 hp0 ha1 hc1
    go_enter Try.func4, Try.ntmps4
    go_wp2_with fail
    have bE : Below w.heap.size w ((w.alloc (.cells #[.int .i64 a0, .int .i64 p0, f0_0, f0_1, f0_2, f0_3, f0_4] 27)).alloc (.cells #[.int .i64 a1, .int .i64 c1] 29)) := (((Below.refl w.heap.size w).alloc (by simp) _).alloc (by simp) _)
    have hzW0 : w.heap.size + 2 ≤ ((w.alloc (.cells #[.int .i64 a0, .int .i64 p0, f0_0, f0_1, f0_2, f0_3, f0_4] 27)).alloc (.cells #[.int .i64 a1, .int .i64 c1] 29)).heap.size := by simp
    have kp0_0W0 : ((w.alloc (.cells #[.int .i64 a0, .int .i64 p0, f0_0, f0_1, f0_2, f0_3, f0_4] 27)).alloc (.cells #[.int .i64 a1, .int .i64 c1] 29)).cell? ⟨w.heap.size, 0, none⟩ = some (.int .i64 a0) := (World.cell?_alloc_past _ _ _ (by first | (simp; done) | (simp; omega))).trans (World.cell?_alloc_at _ _ _ _ (by simp))
    have kp0_1W0 : ((w.alloc (.cells #[.int .i64 a0, .int .i64 p0, f0_0, f0_1, f0_2, f0_3, f0_4] 27)).alloc (.cells #[.int .i64 a1, .int .i64 c1] 29)).cell? ⟨w.heap.size, 1, none⟩ = some (.int .i64 p0) := (World.cell?_alloc_past _ _ _ (by first | (simp; done) | (simp; omega))).trans (World.cell?_alloc_at _ _ _ _ (by simp))
    have kp0_2W0 : ((w.alloc (.cells #[.int .i64 a0, .int .i64 p0, f0_0, f0_1, f0_2, f0_3, f0_4] 27)).alloc (.cells #[.int .i64 a1, .int .i64 c1] 29)).cell? ⟨w.heap.size, 2, none⟩ = some (f0_0) := (World.cell?_alloc_past _ _ _ (by first | (simp; done) | (simp; omega))).trans (World.cell?_alloc_at _ _ _ _ (by simp))
    have kp0_3W0 : ((w.alloc (.cells #[.int .i64 a0, .int .i64 p0, f0_0, f0_1, f0_2, f0_3, f0_4] 27)).alloc (.cells #[.int .i64 a1, .int .i64 c1] 29)).cell? ⟨w.heap.size, 3, none⟩ = some (f0_1) := (World.cell?_alloc_past _ _ _ (by first | (simp; done) | (simp; omega))).trans (World.cell?_alloc_at _ _ _ _ (by simp))
    have kp0_4W0 : ((w.alloc (.cells #[.int .i64 a0, .int .i64 p0, f0_0, f0_1, f0_2, f0_3, f0_4] 27)).alloc (.cells #[.int .i64 a1, .int .i64 c1] 29)).cell? ⟨w.heap.size, 4, none⟩ = some (f0_2) := (World.cell?_alloc_past _ _ _ (by first | (simp; done) | (simp; omega))).trans (World.cell?_alloc_at _ _ _ _ (by simp))
    have kp0_5W0 : ((w.alloc (.cells #[.int .i64 a0, .int .i64 p0, f0_0, f0_1, f0_2, f0_3, f0_4] 27)).alloc (.cells #[.int .i64 a1, .int .i64 c1] 29)).cell? ⟨w.heap.size, 5, none⟩ = some (f0_3) := (World.cell?_alloc_past _ _ _ (by first | (simp; done) | (simp; omega))).trans (World.cell?_alloc_at _ _ _ _ (by simp))
    have kp0_6W0 : ((w.alloc (.cells #[.int .i64 a0, .int .i64 p0, f0_0, f0_1, f0_2, f0_3, f0_4] 27)).alloc (.cells #[.int .i64 a1, .int .i64 c1] 29)).cell? ⟨w.heap.size, 6, none⟩ = some (f0_4) := (World.cell?_alloc_past _ _ _ (by first | (simp; done) | (simp; omega))).trans (World.cell?_alloc_at _ _ _ _ (by simp))
    have kp1_0W0 : ((w.alloc (.cells #[.int .i64 a0, .int .i64 p0, f0_0, f0_1, f0_2, f0_3, f0_4] 27)).alloc (.cells #[.int .i64 a1, .int .i64 c1] 29)).cell? ⟨w.heap.size + 1, 0, none⟩ = some (.int .i64 a1) := World.cell?_alloc_at _ _ _ _ (by simp)
    have kp1_1W0 : ((w.alloc (.cells #[.int .i64 a0, .int .i64 p0, f0_0, f0_1, f0_2, f0_3, f0_4] 27)).alloc (.cells #[.int .i64 a1, .int .i64 c1] 29)).cell? ⟨w.heap.size + 1, 1, none⟩ = some (.int .i64 c1) := World.cell?_alloc_at _ _ _ _ (by simp)
    have A0W0 := sl.hid (HI0.out.chg (sl.Chg.ofBelow (lo := 0) bE) (.inr (Nat.zero_le _)))
    have CW0 := sl.hid bE
    clear bE HI0
    generalize ((w.alloc (.cells #[.int .i64 a0, .int .i64 p0, f0_0, f0_1, f0_2, f0_3, f0_4] 27)).alloc (.cells #[.int .i64 a1, .int .i64 c1] 29)) = W0 at *
    go_wp2_with fail
    refine (HZ0.out W0 _ A0W0.out).mono ?_
    rintro e W1 ⟨rfl, b1⟩
    have hzW1 : W0.heap.size ≤ W1.heap.size := b1.size
    have kp0_0W1 := (b1.cell (p := ⟨w.heap.size, 0, none⟩) (by show w.heap.size < W0.heap.size; omega)).trans kp0_0W0
    have kp0_1W1 := (b1.cell (p := ⟨w.heap.size, 1, none⟩) (by show w.heap.size < W0.heap.size; omega)).trans kp0_1W0
    have kp0_2W1 := (b1.cell (p := ⟨w.heap.size, 2, none⟩) (by show w.heap.size < W0.heap.size; omega)).trans kp0_2W0
    have kp0_3W1 := (b1.cell (p := ⟨w.heap.size, 3, none⟩) (by show w.heap.size < W0.heap.size; omega)).trans kp0_3W0
    have kp0_4W1 := (b1.cell (p := ⟨w.heap.size, 4, none⟩) (by show w.heap.size < W0.heap.size; omega)).trans kp0_4W0
    have kp0_5W1 := (b1.cell (p := ⟨w.heap.size, 5, none⟩) (by show w.heap.size < W0.heap.size; omega)).trans kp0_5W0
    have kp0_6W1 := (b1.cell (p := ⟨w.heap.size, 6, none⟩) (by show w.heap.size < W0.heap.size; omega)).trans kp0_6W0
    have kp1_0W1 := (b1.cell (p := ⟨w.heap.size + 1, 0, none⟩) (by show w.heap.size + 1 < W0.heap.size; omega)).trans kp1_0W0
    have kp1_1W1 := (b1.cell (p := ⟨w.heap.size + 1, 1, none⟩) (by show w.heap.size + 1 < W0.heap.size; omega)).trans kp1_1W0
    have A0W1 := sl.hid (A0W0.out.chg (sl.Chg.ofBelow (lo := 0) b1) (.inr (Nat.zero_le _)))
    have CW1 := sl.hid (CW0.out.trans (b1.mono (by show w.heap.size ≤ W0.heap.size; omega)))
    clear b1 kp0_0W0 kp0_1W0 kp0_2W0 kp0_3W0 kp0_4W0 kp0_5W0 kp0_6W0 kp1_0W0 kp1_1W0 A0W0 CW0
    go_wp2
    go_ret
    exact ⟨rfl, CW1.out⟩
  · have HQ0 := sl.hid (mc.small_of (by omega) (by omega) hzc0)
    have HT0 := sl.hid (mc.tot_of (by omega) (by omega) hzc0)
    have hzl0 := (mc.szV_bound (m := xs0) (left := 1048576) (by omega) hzc0).1
    generalize mc.szV 1048576 xs0 = z0 at *
    have SP : Hid (∀ (g0_0 : Value) (g0_1 : Value) (g0_2 : Value) (g0_3 : Value) (g0_4 : Value) (W : World) (B0 : Nat), mc.MInC W B0 g0_0 g0_1 g0_2 g0_3 g0_4 xs0 → B0 ≤ W.heap.size → Calls Try.prog 18 #[.agg #[.int .i64 a0, .int .i64 p0, g0_0, g0_1, g0_2, g0_3, g0_4], .agg #[.int .i64 a1, .int .i64 c1]] W fun e w' => ∃ v', e = .returned (v') ∧ sl.Own w' W.heap.size w'.heap.size v' (mc.onL a0 p0 xs0 a1 c1) ∧ Below W.heap.size W w') := sl.hid (fun g0_0 g0_1 g0_2 g0_3 g0_4 W B0 j0 l0 => mc.specLo a0 p0 xs0 a1 c1 g0_0 g0_1 g0_2 g0_3 g0_4 B0 W j0 l0 HQ0.out )
    have IP : Hid (∀ (g0_0 : Value) (g0_1 : Value) (g0_2 : Value) (g0_3 : Value) (g0_4 : Value) (W : World) (B0 : Nat), mc.MInC W B0 g0_0 g0_1 g0_2 g0_3 g0_4 xs0 → B0 ≤ W.heap.size → Calls Try.prog 19 #[.agg #[.int .i64 a0, .int .i64 p0, g0_0, g0_1, g0_2, g0_3, g0_4], .agg #[.int .i64 a1, .int .i64 c1]] W fun e w' => ∃ v', e = .returned (v') ∧ sl.Own w' W.heap.size w'.heap.size v' (mc.onL a0 p0 xs0 a1 c1) ∧ Below W.heap.size W w') := sl.hid (fun g0_0 g0_1 g0_2 g0_3 g0_4 W B0 j0 l0 => mc.implLo a0 p0 xs0 a1 c1 g0_0 g0_1 g0_2 g0_3 g0_4 B0 W j0 l0 HQ0.out )
    have hr0 : (mc.onL a0 p0 xs0 a1 c1).length ≤ 20000 := mc.onL_len a0 p0 xs0 a1 c1
    have hr : (mc.onL a0 p0 xs0 a1 c1).length ≤ 1099511627776 := by omega
    clear hr0
    generalize mc.onL a0 p0 xs0 a1 c1 = zr at *
    clear hi0 ha0 hp0 ha1 hc1
    go_enter Try.func4, Try.ntmps4
    go_wp2_with fail
    have bE : Below w.heap.size w ((w.alloc (.cells #[.int .i64 a0, .int .i64 p0, f0_0, f0_1, f0_2, f0_3, f0_4] 27)).alloc (.cells #[.int .i64 a1, .int .i64 c1] 29)) := (((Below.refl w.heap.size w).alloc (by simp) _).alloc (by simp) _)
    have hzW0 : w.heap.size + 2 ≤ ((w.alloc (.cells #[.int .i64 a0, .int .i64 p0, f0_0, f0_1, f0_2, f0_3, f0_4] 27)).alloc (.cells #[.int .i64 a1, .int .i64 c1] 29)).heap.size := by simp
    have kp0_0W0 : ((w.alloc (.cells #[.int .i64 a0, .int .i64 p0, f0_0, f0_1, f0_2, f0_3, f0_4] 27)).alloc (.cells #[.int .i64 a1, .int .i64 c1] 29)).cell? ⟨w.heap.size, 0, none⟩ = some (.int .i64 a0) := (World.cell?_alloc_past _ _ _ (by first | (simp; done) | (simp; omega))).trans (World.cell?_alloc_at _ _ _ _ (by simp))
    have kp0_1W0 : ((w.alloc (.cells #[.int .i64 a0, .int .i64 p0, f0_0, f0_1, f0_2, f0_3, f0_4] 27)).alloc (.cells #[.int .i64 a1, .int .i64 c1] 29)).cell? ⟨w.heap.size, 1, none⟩ = some (.int .i64 p0) := (World.cell?_alloc_past _ _ _ (by first | (simp; done) | (simp; omega))).trans (World.cell?_alloc_at _ _ _ _ (by simp))
    have kp0_2W0 : ((w.alloc (.cells #[.int .i64 a0, .int .i64 p0, f0_0, f0_1, f0_2, f0_3, f0_4] 27)).alloc (.cells #[.int .i64 a1, .int .i64 c1] 29)).cell? ⟨w.heap.size, 2, none⟩ = some (f0_0) := (World.cell?_alloc_past _ _ _ (by first | (simp; done) | (simp; omega))).trans (World.cell?_alloc_at _ _ _ _ (by simp))
    have kp0_3W0 : ((w.alloc (.cells #[.int .i64 a0, .int .i64 p0, f0_0, f0_1, f0_2, f0_3, f0_4] 27)).alloc (.cells #[.int .i64 a1, .int .i64 c1] 29)).cell? ⟨w.heap.size, 3, none⟩ = some (f0_1) := (World.cell?_alloc_past _ _ _ (by first | (simp; done) | (simp; omega))).trans (World.cell?_alloc_at _ _ _ _ (by simp))
    have kp0_4W0 : ((w.alloc (.cells #[.int .i64 a0, .int .i64 p0, f0_0, f0_1, f0_2, f0_3, f0_4] 27)).alloc (.cells #[.int .i64 a1, .int .i64 c1] 29)).cell? ⟨w.heap.size, 4, none⟩ = some (f0_2) := (World.cell?_alloc_past _ _ _ (by first | (simp; done) | (simp; omega))).trans (World.cell?_alloc_at _ _ _ _ (by simp))
    have kp0_5W0 : ((w.alloc (.cells #[.int .i64 a0, .int .i64 p0, f0_0, f0_1, f0_2, f0_3, f0_4] 27)).alloc (.cells #[.int .i64 a1, .int .i64 c1] 29)).cell? ⟨w.heap.size, 5, none⟩ = some (f0_3) := (World.cell?_alloc_past _ _ _ (by first | (simp; done) | (simp; omega))).trans (World.cell?_alloc_at _ _ _ _ (by simp))
    have kp0_6W0 : ((w.alloc (.cells #[.int .i64 a0, .int .i64 p0, f0_0, f0_1, f0_2, f0_3, f0_4] 27)).alloc (.cells #[.int .i64 a1, .int .i64 c1] 29)).cell? ⟨w.heap.size, 6, none⟩ = some (f0_4) := (World.cell?_alloc_past _ _ _ (by first | (simp; done) | (simp; omega))).trans (World.cell?_alloc_at _ _ _ _ (by simp))
    have kp1_0W0 : ((w.alloc (.cells #[.int .i64 a0, .int .i64 p0, f0_0, f0_1, f0_2, f0_3, f0_4] 27)).alloc (.cells #[.int .i64 a1, .int .i64 c1] 29)).cell? ⟨w.heap.size + 1, 0, none⟩ = some (.int .i64 a1) := World.cell?_alloc_at _ _ _ _ (by simp)
    have kp1_1W0 : ((w.alloc (.cells #[.int .i64 a0, .int .i64 p0, f0_0, f0_1, f0_2, f0_3, f0_4] 27)).alloc (.cells #[.int .i64 a1, .int .i64 c1] 29)).cell? ⟨w.heap.size + 1, 1, none⟩ = some (.int .i64 c1) := World.cell?_alloc_at _ _ _ _ (by simp)
    have A0W0 := sl.hid (HI0.out.chg (sl.Chg.ofBelow (lo := 0) bE) (.inr (Nat.zero_le _)))
    have CW0 := sl.hid bE
    clear bE HI0
    generalize ((w.alloc (.cells #[.int .i64 a0, .int .i64 p0, f0_0, f0_1, f0_2, f0_3, f0_4] 27)).alloc (.cells #[.int .i64 a1, .int .i64 c1] 29)) = W0 at *
    go_wp2_with fail
    refine (HZ0.out W0 _ A0W0.out).mono ?_
    rintro e W2 ⟨rfl, b2⟩
    have hzW2 : W0.heap.size ≤ W2.heap.size := b2.size
    have kp0_0W2 := (b2.cell (p := ⟨w.heap.size, 0, none⟩) (by show w.heap.size < W0.heap.size; omega)).trans kp0_0W0
    have kp0_1W2 := (b2.cell (p := ⟨w.heap.size, 1, none⟩) (by show w.heap.size < W0.heap.size; omega)).trans kp0_1W0
    have kp0_2W2 := (b2.cell (p := ⟨w.heap.size, 2, none⟩) (by show w.heap.size < W0.heap.size; omega)).trans kp0_2W0
    have kp0_3W2 := (b2.cell (p := ⟨w.heap.size, 3, none⟩) (by show w.heap.size < W0.heap.size; omega)).trans kp0_3W0
    have kp0_4W2 := (b2.cell (p := ⟨w.heap.size, 4, none⟩) (by show w.heap.size < W0.heap.size; omega)).trans kp0_4W0
    have kp0_5W2 := (b2.cell (p := ⟨w.heap.size, 5, none⟩) (by show w.heap.size < W0.heap.size; omega)).trans kp0_5W0
    have kp0_6W2 := (b2.cell (p := ⟨w.heap.size, 6, none⟩) (by show w.heap.size < W0.heap.size; omega)).trans kp0_6W0
    have kp1_0W2 := (b2.cell (p := ⟨w.heap.size + 1, 0, none⟩) (by show w.heap.size + 1 < W0.heap.size; omega)).trans kp1_0W0
    have kp1_1W2 := (b2.cell (p := ⟨w.heap.size + 1, 1, none⟩) (by show w.heap.size + 1 < W0.heap.size; omega)).trans kp1_1W0
    have A0W2 := sl.hid (A0W0.out.chg (sl.Chg.ofBelow (lo := 0) b2) (.inr (Nat.zero_le _)))
    have CW2 := sl.hid (CW0.out.trans (b2.mono (by show w.heap.size ≤ W0.heap.size; omega)))
    clear b2 kp0_0W0 kp0_1W0 kp0_2W0 kp0_3W0 kp0_4W0 kp0_5W0 kp0_6W0 kp1_0W0 kp1_1W0 A0W0 CW0
    go_wp2_with fail
    have bD := (Below.refl W2.heap.size W2).drew
    have A0dW2 := sl.hid (A0W2.out.chg (sl.Chg.ofBelow (lo := 0) bD) (.inr (Nat.zero_le _)))
    have CdW2 := sl.hid (CW2.out.drew)
    clear bD A0W2 CW2
    go_region_held3 (fun w' => w'.cell? ⟨w.heap.size, 0, none⟩ = some (.int .i64 a0) ∧ w'.cell? ⟨w.heap.size, 1, none⟩ = some (.int .i64 p0) ∧ w'.cell? ⟨w.heap.size, 2, none⟩ = some (f0_0) ∧ w'.cell? ⟨w.heap.size, 3, none⟩ = some (f0_1) ∧ w'.cell? ⟨w.heap.size, 4, none⟩ = some (f0_2) ∧ w'.cell? ⟨w.heap.size, 5, none⟩ = some (f0_3) ∧ w'.cell? ⟨w.heap.size, 6, none⟩ = some (f0_4) ∧ w'.cell? ⟨w.heap.size + 1, 0, none⟩ = some (.int .i64 a1) ∧ w'.cell? ⟨w.heap.size + 1, 1, none⟩ = some (.int .i64 c1)) (go_keep)
      (first
        | (go_at_call_of 13 (Value.agg #[.int .i64 a0, .int .i64 p0, f0_0, f0_1, f0_2, f0_3, f0_4])
           have hchk := HIc1
           refine (mc.toM a0 p0 xs0 f0_0 f0_1 f0_2 f0_3 f0_4 _ _ A0W3.out (by show w.heap.size ≤ W3.heap.size; omega) HQ0.out).mono ?_
           rintro e W4 ⟨fc0_0, fc0_1, fc0_2, fc0_3, fc0_4, rfl, oc0, bB⟩
           have HJ0 := sl.hid oc0.c
           have hzW4 : W3.heap.size ≤ W4.heap.size := bB.size
           have kp0_0W4 := (bB.cell (p := ⟨w.heap.size, 0, none⟩) (by show w.heap.size < W3.heap.size; omega)).trans kp0_0W3
           have kp0_1W4 := (bB.cell (p := ⟨w.heap.size, 1, none⟩) (by show w.heap.size < W3.heap.size; omega)).trans kp0_1W3
           have kp0_2W4 := (bB.cell (p := ⟨w.heap.size, 2, none⟩) (by show w.heap.size < W3.heap.size; omega)).trans kp0_2W3
           have kp0_3W4 := (bB.cell (p := ⟨w.heap.size, 3, none⟩) (by show w.heap.size < W3.heap.size; omega)).trans kp0_3W3
           have kp0_4W4 := (bB.cell (p := ⟨w.heap.size, 4, none⟩) (by show w.heap.size < W3.heap.size; omega)).trans kp0_4W3
           have kp0_5W4 := (bB.cell (p := ⟨w.heap.size, 5, none⟩) (by show w.heap.size < W3.heap.size; omega)).trans kp0_5W3
           have kp0_6W4 := (bB.cell (p := ⟨w.heap.size, 6, none⟩) (by show w.heap.size < W3.heap.size; omega)).trans kp0_6W3
           have kp1_0W4 := (bB.cell (p := ⟨w.heap.size + 1, 0, none⟩) (by show w.heap.size + 1 < W3.heap.size; omega)).trans kp1_0W3
           have kp1_1W4 := (bB.cell (p := ⟨w.heap.size + 1, 1, none⟩) (by show w.heap.size + 1 < W3.heap.size; omega)).trans kp1_1W3
           have A0W4 := sl.hid (A0W3.out.chg (sl.Chg.ofBelow (lo := 0) bB) (.inr (Nat.zero_le _)))
           have CW4 := sl.hid (CW3.out.trans (bB.mono (by show w.heap.size ≤ W3.heap.size; omega)))
           clear oc0 HIc1 hchk bB kp0_0W3 kp0_1W3 kp0_2W3 kp0_3W3 kp0_4W3 kp0_5W3 kp0_6W3 kp1_0W3 kp1_1W3 A0W3 CW3)
        | (go_at_call_of 14 (Value.agg #[.int .i64 a1, .int .i64 c1])
           have hchk := HIc0
           refine (l5.toD a1 c1 _).mono ?_
           rintro e W4 ⟨rfl, bB⟩
           have HJ0 := sl.hid ((HIc0.out.chg (sl.Chg.ofBelow (lo := 0) bB) (.inr (Nat.zero_le _))).mono bB.size)
           have hzW4 : W3.heap.size ≤ W4.heap.size := bB.size
           have kp0_0W4 := (bB.cell (p := ⟨w.heap.size, 0, none⟩) (by show w.heap.size < W3.heap.size; omega)).trans kp0_0W3
           have kp0_1W4 := (bB.cell (p := ⟨w.heap.size, 1, none⟩) (by show w.heap.size < W3.heap.size; omega)).trans kp0_1W3
           have kp0_2W4 := (bB.cell (p := ⟨w.heap.size, 2, none⟩) (by show w.heap.size < W3.heap.size; omega)).trans kp0_2W3
           have kp0_3W4 := (bB.cell (p := ⟨w.heap.size, 3, none⟩) (by show w.heap.size < W3.heap.size; omega)).trans kp0_3W3
           have kp0_4W4 := (bB.cell (p := ⟨w.heap.size, 4, none⟩) (by show w.heap.size < W3.heap.size; omega)).trans kp0_4W3
           have kp0_5W4 := (bB.cell (p := ⟨w.heap.size, 5, none⟩) (by show w.heap.size < W3.heap.size; omega)).trans kp0_5W3
           have kp0_6W4 := (bB.cell (p := ⟨w.heap.size, 6, none⟩) (by show w.heap.size < W3.heap.size; omega)).trans kp0_6W3
           have kp1_0W4 := (bB.cell (p := ⟨w.heap.size + 1, 0, none⟩) (by show w.heap.size + 1 < W3.heap.size; omega)).trans kp1_0W3
           have kp1_1W4 := (bB.cell (p := ⟨w.heap.size + 1, 1, none⟩) (by show w.heap.size + 1 < W3.heap.size; omega)).trans kp1_1W3
           have A0W4 := sl.hid (A0W3.out.chg (sl.Chg.ofBelow (lo := 0) bB) (.inr (Nat.zero_le _)))
           have CW4 := sl.hid (CW3.out.trans (bB.mono (by show w.heap.size ≤ W3.heap.size; omega)))
           clear  HIc0 hchk bB kp0_0W3 kp0_1W3 kp0_2W3 kp0_3W3 kp0_4W3 kp0_5W3 kp0_6W3 kp1_0W3 kp1_1W3 A0W3 CW3)
        | (go_at_call_of 13 (Value.agg #[.int .i64 a0, .int .i64 p0, f0_0, f0_1, f0_2, f0_3, f0_4])
           refine (mc.toM a0 p0 xs0 f0_0 f0_1 f0_2 f0_3 f0_4 _ _ A0dW2.out (by show w.heap.size ≤ W2.heap.size; omega) HQ0.out).mono ?_
           rintro e W3 ⟨fc0_0, fc0_1, fc0_2, fc0_3, fc0_4, rfl, oc0, bA⟩
           have HIc0 := sl.hid oc0.c
           have hzW3 : W2.heap.size ≤ W3.heap.size := bA.size
           have kp0_0W3 := (bA.cell (p := ⟨w.heap.size, 0, none⟩) (by show w.heap.size < W2.heap.size; omega)).trans kp0_0W2
           have kp0_1W3 := (bA.cell (p := ⟨w.heap.size, 1, none⟩) (by show w.heap.size < W2.heap.size; omega)).trans kp0_1W2
           have kp0_2W3 := (bA.cell (p := ⟨w.heap.size, 2, none⟩) (by show w.heap.size < W2.heap.size; omega)).trans kp0_2W2
           have kp0_3W3 := (bA.cell (p := ⟨w.heap.size, 3, none⟩) (by show w.heap.size < W2.heap.size; omega)).trans kp0_3W2
           have kp0_4W3 := (bA.cell (p := ⟨w.heap.size, 4, none⟩) (by show w.heap.size < W2.heap.size; omega)).trans kp0_4W2
           have kp0_5W3 := (bA.cell (p := ⟨w.heap.size, 5, none⟩) (by show w.heap.size < W2.heap.size; omega)).trans kp0_5W2
           have kp0_6W3 := (bA.cell (p := ⟨w.heap.size, 6, none⟩) (by show w.heap.size < W2.heap.size; omega)).trans kp0_6W2
           have kp1_0W3 := (bA.cell (p := ⟨w.heap.size + 1, 0, none⟩) (by show w.heap.size + 1 < W2.heap.size; omega)).trans kp1_0W2
           have kp1_1W3 := (bA.cell (p := ⟨w.heap.size + 1, 1, none⟩) (by show w.heap.size + 1 < W2.heap.size; omega)).trans kp1_1W2
           have A0W3 := sl.hid (A0dW2.out.chg (sl.Chg.ofBelow (lo := 0) bA) (.inr (Nat.zero_le _)))
           have CW3 := sl.hid (CdW2.out.trans (bA.mono (by show w.heap.size ≤ W2.heap.size; omega)))
           clear oc0 bA kp0_0W2 kp0_1W2 kp0_2W2 kp0_3W2 kp0_4W2 kp0_5W2 kp0_6W2 kp1_0W2 kp1_1W2 A0dW2 CdW2)
        | (go_at_call_of 14 (Value.agg #[.int .i64 a1, .int .i64 c1])
           refine (l5.toD a1 c1 _).mono ?_
           rintro e W3 ⟨rfl, bA⟩
           have HIc1 := sl.hid True.intro
           have hzW3 : W2.heap.size ≤ W3.heap.size := bA.size
           have kp0_0W3 := (bA.cell (p := ⟨w.heap.size, 0, none⟩) (by show w.heap.size < W2.heap.size; omega)).trans kp0_0W2
           have kp0_1W3 := (bA.cell (p := ⟨w.heap.size, 1, none⟩) (by show w.heap.size < W2.heap.size; omega)).trans kp0_1W2
           have kp0_2W3 := (bA.cell (p := ⟨w.heap.size, 2, none⟩) (by show w.heap.size < W2.heap.size; omega)).trans kp0_2W2
           have kp0_3W3 := (bA.cell (p := ⟨w.heap.size, 3, none⟩) (by show w.heap.size < W2.heap.size; omega)).trans kp0_3W2
           have kp0_4W3 := (bA.cell (p := ⟨w.heap.size, 4, none⟩) (by show w.heap.size < W2.heap.size; omega)).trans kp0_4W2
           have kp0_5W3 := (bA.cell (p := ⟨w.heap.size, 5, none⟩) (by show w.heap.size < W2.heap.size; omega)).trans kp0_5W2
           have kp0_6W3 := (bA.cell (p := ⟨w.heap.size, 6, none⟩) (by show w.heap.size < W2.heap.size; omega)).trans kp0_6W2
           have kp1_0W3 := (bA.cell (p := ⟨w.heap.size + 1, 0, none⟩) (by show w.heap.size + 1 < W2.heap.size; omega)).trans kp1_0W2
           have kp1_1W3 := (bA.cell (p := ⟨w.heap.size + 1, 1, none⟩) (by show w.heap.size + 1 < W2.heap.size; omega)).trans kp1_1W2
           have A0W3 := sl.hid (A0dW2.out.chg (sl.Chg.ofBelow (lo := 0) bA) (.inr (Nat.zero_le _)))
           have CW3 := sl.hid (CdW2.out.trans (bA.mono (by show w.heap.size ≤ W2.heap.size; omega)))
           clear  bA kp0_0W2 kp0_1W2 kp0_2W2 kp0_3W2 kp0_4W2 kp0_5W2 kp0_6W2 kp1_0W2 kp1_1W2 A0dW2 CdW2)
        | (go_at_call 18
           refine (SP.out _ _ _ _ _ W4 _ HJ0.out (by omega)).mono ?_
           rintro e W5 ⟨vr, rfl, oC, bC⟩
           have hzW5 : W4.heap.size ≤ W5.heap.size := bC.size
           have kp0_0W5 := (bC.cell (p := ⟨w.heap.size, 0, none⟩) (by show w.heap.size < W4.heap.size; omega)).trans kp0_0W4
           have kp0_1W5 := (bC.cell (p := ⟨w.heap.size, 1, none⟩) (by show w.heap.size < W4.heap.size; omega)).trans kp0_1W4
           have kp0_2W5 := (bC.cell (p := ⟨w.heap.size, 2, none⟩) (by show w.heap.size < W4.heap.size; omega)).trans kp0_2W4
           have kp0_3W5 := (bC.cell (p := ⟨w.heap.size, 3, none⟩) (by show w.heap.size < W4.heap.size; omega)).trans kp0_3W4
           have kp0_4W5 := (bC.cell (p := ⟨w.heap.size, 4, none⟩) (by show w.heap.size < W4.heap.size; omega)).trans kp0_4W4
           have kp0_5W5 := (bC.cell (p := ⟨w.heap.size, 5, none⟩) (by show w.heap.size < W4.heap.size; omega)).trans kp0_5W4
           have kp0_6W5 := (bC.cell (p := ⟨w.heap.size, 6, none⟩) (by show w.heap.size < W4.heap.size; omega)).trans kp0_6W4
           have kp1_0W5 := (bC.cell (p := ⟨w.heap.size + 1, 0, none⟩) (by show w.heap.size + 1 < W4.heap.size; omega)).trans kp1_0W4
           have kp1_1W5 := (bC.cell (p := ⟨w.heap.size + 1, 1, none⟩) (by show w.heap.size + 1 < W4.heap.size; omega)).trans kp1_1W4
           have A0W5 := sl.hid (A0W4.out.chg (sl.Chg.ofBelow (lo := 0) bC) (.inr (Nat.zero_le _)))
           have CW5 := sl.hid (CW4.out.trans (bC.mono (by show w.heap.size ≤ W4.heap.size; omega)))
           have Ovr := sl.hid oC
           clear oC
           clear HJ0 bC kp0_0W4 kp0_1W4 kp0_2W4 kp0_3W4 kp0_4W4 kp0_5W4 kp0_6W4 kp1_0W4 kp1_1W4 A0W4 CW4))
    all_goals
      go_wp2_with fail
      refine (mc.toM a0 p0 xs0 f0_0 f0_1 f0_2 f0_3 f0_4 _ W5 A0W5.out (by omega) HQ0.out).mono ?_
      rintro e W6 ⟨f0_0_6, f0_1_6, f0_2_6, f0_3_6, f0_4_6, rfl, o6, b6⟩
      obtain ⟨ao6_0, ln6_0, cp6_0, rfl⟩ := mc.val0 o6
      obtain ⟨ao6_1, ln6_1, cp6_1, rfl⟩ := mc.val1 o6
      obtain ⟨ao6_2, ln6_2, cp6_2, rfl⟩ := mc.val2 o6
      obtain ⟨ao6_3, ln6_3, cp6_3, rfl⟩ := mc.val3 o6
      obtain ⟨ao6_4, ln6_4, cp6_4, rfl⟩ := mc.val4 o6
      have On6 := sl.hid o6
      clear o6
      have hzW6 : W5.heap.size ≤ W6.heap.size := b6.size
      have kp0_0W6 := (b6.cell (p := ⟨w.heap.size, 0, none⟩) (by show w.heap.size < W5.heap.size; omega)).trans kp0_0W5
      have kp0_1W6 := (b6.cell (p := ⟨w.heap.size, 1, none⟩) (by show w.heap.size < W5.heap.size; omega)).trans kp0_1W5
      have kp0_2W6 := (b6.cell (p := ⟨w.heap.size, 2, none⟩) (by show w.heap.size < W5.heap.size; omega)).trans kp0_2W5
      have kp0_3W6 := (b6.cell (p := ⟨w.heap.size, 3, none⟩) (by show w.heap.size < W5.heap.size; omega)).trans kp0_3W5
      have kp0_4W6 := (b6.cell (p := ⟨w.heap.size, 4, none⟩) (by show w.heap.size < W5.heap.size; omega)).trans kp0_4W5
      have kp0_5W6 := (b6.cell (p := ⟨w.heap.size, 5, none⟩) (by show w.heap.size < W5.heap.size; omega)).trans kp0_5W5
      have kp0_6W6 := (b6.cell (p := ⟨w.heap.size, 6, none⟩) (by show w.heap.size < W5.heap.size; omega)).trans kp0_6W5
      have kp1_0W6 := (b6.cell (p := ⟨w.heap.size + 1, 0, none⟩) (by show w.heap.size + 1 < W5.heap.size; omega)).trans kp1_0W5
      have kp1_1W6 := (b6.cell (p := ⟨w.heap.size + 1, 1, none⟩) (by show w.heap.size + 1 < W5.heap.size; omega)).trans kp1_1W5
      have A0W6 := sl.hid (A0W5.out.chg (sl.Chg.ofBelow (lo := 0) b6) (.inr (Nat.zero_le _)))
      have OrW6 := sl.hid (Ovr.out.chg (sl.Chg.ofBelow (lo := 0) b6) (.inr (.inr (Nat.zero_le _))))
      have CW6 := sl.hid (CW5.out.trans (b6.mono (by show w.heap.size ≤ W5.heap.size; omega)))
      clear b6 kp0_0W5 kp0_1W5 kp0_2W5 kp0_3W5 kp0_4W5 kp0_5W5 kp0_6W5 kp1_0W5 kp1_1W5 A0W5 Ovr CW5
      have bE : Below W6.heap.size W6 (W6.alloc (.cells #[.int .i64 a0, .int .i64 p0, .slice ao6_0 ln6_0 cp6_0, .slice ao6_1 ln6_1 cp6_1, .slice ao6_2 ln6_2 cp6_2, .slice ao6_3 ln6_3 cp6_3, .slice ao6_4 ln6_4 cp6_4] 37)) := (Below.refl _ _).alloc (Nat.le_refl _) _
      have kx0_0W7 : (W6.alloc (.cells #[.int .i64 a0, .int .i64 p0, .slice ao6_0 ln6_0 cp6_0, .slice ao6_1 ln6_1 cp6_1, .slice ao6_2 ln6_2 cp6_2, .slice ao6_3 ln6_3 cp6_3, .slice ao6_4 ln6_4 cp6_4] 37)).cell? ⟨W6.heap.size, 0, none⟩ = some (.int .i64 a0) := World.cell?_alloc_at _ _ _ _ rfl
      have kx0_1W7 : (W6.alloc (.cells #[.int .i64 a0, .int .i64 p0, .slice ao6_0 ln6_0 cp6_0, .slice ao6_1 ln6_1 cp6_1, .slice ao6_2 ln6_2 cp6_2, .slice ao6_3 ln6_3 cp6_3, .slice ao6_4 ln6_4 cp6_4] 37)).cell? ⟨W6.heap.size, 1, none⟩ = some (.int .i64 p0) := World.cell?_alloc_at _ _ _ _ rfl
      have kx0_2W7 : (W6.alloc (.cells #[.int .i64 a0, .int .i64 p0, .slice ao6_0 ln6_0 cp6_0, .slice ao6_1 ln6_1 cp6_1, .slice ao6_2 ln6_2 cp6_2, .slice ao6_3 ln6_3 cp6_3, .slice ao6_4 ln6_4 cp6_4] 37)).cell? ⟨W6.heap.size, 2, none⟩ = some (.slice ao6_0 ln6_0 cp6_0) := World.cell?_alloc_at _ _ _ _ rfl
      have kx0_3W7 : (W6.alloc (.cells #[.int .i64 a0, .int .i64 p0, .slice ao6_0 ln6_0 cp6_0, .slice ao6_1 ln6_1 cp6_1, .slice ao6_2 ln6_2 cp6_2, .slice ao6_3 ln6_3 cp6_3, .slice ao6_4 ln6_4 cp6_4] 37)).cell? ⟨W6.heap.size, 3, none⟩ = some (.slice ao6_1 ln6_1 cp6_1) := World.cell?_alloc_at _ _ _ _ rfl
      have kx0_4W7 : (W6.alloc (.cells #[.int .i64 a0, .int .i64 p0, .slice ao6_0 ln6_0 cp6_0, .slice ao6_1 ln6_1 cp6_1, .slice ao6_2 ln6_2 cp6_2, .slice ao6_3 ln6_3 cp6_3, .slice ao6_4 ln6_4 cp6_4] 37)).cell? ⟨W6.heap.size, 4, none⟩ = some (.slice ao6_2 ln6_2 cp6_2) := World.cell?_alloc_at _ _ _ _ rfl
      have kx0_5W7 : (W6.alloc (.cells #[.int .i64 a0, .int .i64 p0, .slice ao6_0 ln6_0 cp6_0, .slice ao6_1 ln6_1 cp6_1, .slice ao6_2 ln6_2 cp6_2, .slice ao6_3 ln6_3 cp6_3, .slice ao6_4 ln6_4 cp6_4] 37)).cell? ⟨W6.heap.size, 5, none⟩ = some (.slice ao6_3 ln6_3 cp6_3) := World.cell?_alloc_at _ _ _ _ rfl
      have kx0_6W7 : (W6.alloc (.cells #[.int .i64 a0, .int .i64 p0, .slice ao6_0 ln6_0 cp6_0, .slice ao6_1 ln6_1 cp6_1, .slice ao6_2 ln6_2 cp6_2, .slice ao6_3 ln6_3 cp6_3, .slice ao6_4 ln6_4 cp6_4] 37)).cell? ⟨W6.heap.size, 6, none⟩ = some (.slice ao6_4 ln6_4 cp6_4) := World.cell?_alloc_at _ _ _ _ rfl
      have hsW7 : W6.heap.size < (W6.alloc (.cells #[.int .i64 a0, .int .i64 p0, .slice ao6_0 ln6_0 cp6_0, .slice ao6_1 ln6_1 cp6_1, .slice ao6_2 ln6_2 cp6_2, .slice ao6_3 ln6_3 cp6_3, .slice ao6_4 ln6_4 cp6_4] 37)).heap.size := by simp
      have hzW7 : W6.heap.size ≤ (W6.alloc (.cells #[.int .i64 a0, .int .i64 p0, .slice ao6_0 ln6_0 cp6_0, .slice ao6_1 ln6_1 cp6_1, .slice ao6_2 ln6_2 cp6_2, .slice ao6_3 ln6_3 cp6_3, .slice ao6_4 ln6_4 cp6_4] 37)).heap.size := bE.size
      have kp0_0W7 := (bE.cell (p := ⟨w.heap.size, 0, none⟩) (by show w.heap.size < W6.heap.size; omega)).trans kp0_0W6
      have kp0_1W7 := (bE.cell (p := ⟨w.heap.size, 1, none⟩) (by show w.heap.size < W6.heap.size; omega)).trans kp0_1W6
      have kp0_2W7 := (bE.cell (p := ⟨w.heap.size, 2, none⟩) (by show w.heap.size < W6.heap.size; omega)).trans kp0_2W6
      have kp0_3W7 := (bE.cell (p := ⟨w.heap.size, 3, none⟩) (by show w.heap.size < W6.heap.size; omega)).trans kp0_3W6
      have kp0_4W7 := (bE.cell (p := ⟨w.heap.size, 4, none⟩) (by show w.heap.size < W6.heap.size; omega)).trans kp0_4W6
      have kp0_5W7 := (bE.cell (p := ⟨w.heap.size, 5, none⟩) (by show w.heap.size < W6.heap.size; omega)).trans kp0_5W6
      have kp0_6W7 := (bE.cell (p := ⟨w.heap.size, 6, none⟩) (by show w.heap.size < W6.heap.size; omega)).trans kp0_6W6
      have kp1_0W7 := (bE.cell (p := ⟨w.heap.size + 1, 0, none⟩) (by show w.heap.size + 1 < W6.heap.size; omega)).trans kp1_0W6
      have kp1_1W7 := (bE.cell (p := ⟨w.heap.size + 1, 1, none⟩) (by show w.heap.size + 1 < W6.heap.size; omega)).trans kp1_1W6
      have A0W7 := sl.hid (A0W6.out.chg (sl.Chg.ofBelow (lo := 0) bE) (.inr (Nat.zero_le _)))
      have OrW7 := sl.hid (OrW6.out.chg (sl.Chg.ofBelow (lo := 0) bE) (.inr (.inr (Nat.zero_le _))))
      have Ox0W7 := sl.hid (On6.out.chg (sl.Chg.ofBelow (lo := 0) bE) (.inr (.inr (Nat.zero_le _))))
      have CW7 := sl.hid (CW6.out.trans (bE.mono (by show w.heap.size ≤ W6.heap.size; omega)))
      clear bE kp0_0W6 kp0_1W6 kp0_2W6 kp0_3W6 kp0_4W6 kp0_5W6 kp0_6W6 kp1_0W6 kp1_1W6 A0W6 OrW6 On6 CW6
      go_wp2_with fail
      generalize (W6.alloc (.cells #[.int .i64 a0, .int .i64 p0, .slice ao6_0 ln6_0 cp6_0, .slice ao6_1 ln6_1 cp6_1, .slice ao6_2 ln6_2 cp6_2, .slice ao6_3 ln6_3 cp6_3, .slice ao6_4 ln6_4 cp6_4] 37)) = W7 at *
      have bD := (Below.refl W7.heap.size W7).drew
      have A0dW7 := sl.hid (A0W7.out.chg (sl.Chg.ofBelow (lo := 0) bD) (.inr (Nat.zero_le _)))
      have OrdW7 := sl.hid (OrW7.out.chg (sl.Chg.ofBelow (lo := 0) bD) (.inr (.inr (Nat.zero_le _))))
      have Ox0dW7 := sl.hid (Ox0W7.out.chg (sl.Chg.ofBelow (lo := 0) bD) (.inr (.inr (Nat.zero_le _))))
      have CdW7 := sl.hid (CW7.out.drew)
      clear bD A0W7 OrW7 Ox0W7 CW7
      go_region_held3 (fun w' => w'.cell? ⟨w.heap.size + 1, 0, none⟩ = some (.int .i64 a1) ∧ w'.cell? ⟨w.heap.size + 1, 1, none⟩ = some (.int .i64 c1) ∧ w'.cell? ⟨W6.heap.size, 0, none⟩ = some (.int .i64 a0) ∧ w'.cell? ⟨W6.heap.size, 1, none⟩ = some (.int .i64 p0) ∧ w'.cell? ⟨W6.heap.size, 2, none⟩ = some (.slice ao6_0 ln6_0 cp6_0) ∧ w'.cell? ⟨W6.heap.size, 3, none⟩ = some (.slice ao6_1 ln6_1 cp6_1) ∧ w'.cell? ⟨W6.heap.size, 4, none⟩ = some (.slice ao6_2 ln6_2 cp6_2) ∧ w'.cell? ⟨W6.heap.size, 5, none⟩ = some (.slice ao6_3 ln6_3 cp6_3) ∧ w'.cell? ⟨W6.heap.size, 6, none⟩ = some (.slice ao6_4 ln6_4 cp6_4)) (go_keep)
        (first
          | (go_at_call 14
             refine (l5.toD a1 c1 _).mono ?_
             rintro e W9 ⟨rfl, bB⟩
             have hzW9 : W7.heap.size ≤ W9.heap.size := bB.size
             have kp0_0W9 := (bB.cell (p := ⟨w.heap.size, 0, none⟩) (by show w.heap.size < W7.heap.size; omega)).trans kp0_0W7
             have kp0_1W9 := (bB.cell (p := ⟨w.heap.size, 1, none⟩) (by show w.heap.size < W7.heap.size; omega)).trans kp0_1W7
             have kp0_2W9 := (bB.cell (p := ⟨w.heap.size, 2, none⟩) (by show w.heap.size < W7.heap.size; omega)).trans kp0_2W7
             have kp0_3W9 := (bB.cell (p := ⟨w.heap.size, 3, none⟩) (by show w.heap.size < W7.heap.size; omega)).trans kp0_3W7
             have kp0_4W9 := (bB.cell (p := ⟨w.heap.size, 4, none⟩) (by show w.heap.size < W7.heap.size; omega)).trans kp0_4W7
             have kp0_5W9 := (bB.cell (p := ⟨w.heap.size, 5, none⟩) (by show w.heap.size < W7.heap.size; omega)).trans kp0_5W7
             have kp0_6W9 := (bB.cell (p := ⟨w.heap.size, 6, none⟩) (by show w.heap.size < W7.heap.size; omega)).trans kp0_6W7
             have kp1_0W9 := (bB.cell (p := ⟨w.heap.size + 1, 0, none⟩) (by show w.heap.size + 1 < W7.heap.size; omega)).trans kp1_0W7
             have kp1_1W9 := (bB.cell (p := ⟨w.heap.size + 1, 1, none⟩) (by show w.heap.size + 1 < W7.heap.size; omega)).trans kp1_1W7
             have kx0_0W9 := (bB.cell (p := ⟨W6.heap.size, 0, none⟩) (by show W6.heap.size < W7.heap.size; omega)).trans kx0_0W7
             have kx0_1W9 := (bB.cell (p := ⟨W6.heap.size, 1, none⟩) (by show W6.heap.size < W7.heap.size; omega)).trans kx0_1W7
             have kx0_2W9 := (bB.cell (p := ⟨W6.heap.size, 2, none⟩) (by show W6.heap.size < W7.heap.size; omega)).trans kx0_2W7
             have kx0_3W9 := (bB.cell (p := ⟨W6.heap.size, 3, none⟩) (by show W6.heap.size < W7.heap.size; omega)).trans kx0_3W7
             have kx0_4W9 := (bB.cell (p := ⟨W6.heap.size, 4, none⟩) (by show W6.heap.size < W7.heap.size; omega)).trans kx0_4W7
             have kx0_5W9 := (bB.cell (p := ⟨W6.heap.size, 5, none⟩) (by show W6.heap.size < W7.heap.size; omega)).trans kx0_5W7
             have kx0_6W9 := (bB.cell (p := ⟨W6.heap.size, 6, none⟩) (by show W6.heap.size < W7.heap.size; omega)).trans kx0_6W7
             have A0W9 := sl.hid (A0dW7.out.chg (sl.Chg.ofBelow (lo := 0) bB) (.inr (Nat.zero_le _)))
             have OrW9 := sl.hid (OrdW7.out.chg (sl.Chg.ofBelow (lo := 0) bB) (.inr (.inr (Nat.zero_le _))))
             have Ox0W9 := sl.hid (Ox0dW7.out.chg (sl.Chg.ofBelow (lo := 0) bB) (.inr (.inr (Nat.zero_le _))))
             have CW9 := sl.hid (CdW7.out.trans (bB.mono (by show w.heap.size ≤ W7.heap.size; omega)))
             clear  bB kp0_0W7 kp0_1W7 kp0_2W7 kp0_3W7 kp0_4W7 kp0_5W7 kp0_6W7 kp1_0W7 kp1_1W7 kx0_0W7 kx0_1W7 kx0_2W7 kx0_3W7 kx0_4W7 kx0_5W7 kx0_6W7 A0dW7 OrdW7 Ox0dW7 CdW7)
          | (go_at_call 19
             refine (IP.out _ _ _ _ _ W9 _ Ox0W9.out.c (by omega)).mono ?_
             rintro e W10 ⟨vg, rfl, oC, bC⟩
             have hzW10 : W9.heap.size ≤ W10.heap.size := bC.size
             have kp0_0W10 := (bC.cell (p := ⟨w.heap.size, 0, none⟩) (by show w.heap.size < W9.heap.size; omega)).trans kp0_0W9
             have kp0_1W10 := (bC.cell (p := ⟨w.heap.size, 1, none⟩) (by show w.heap.size < W9.heap.size; omega)).trans kp0_1W9
             have kp0_2W10 := (bC.cell (p := ⟨w.heap.size, 2, none⟩) (by show w.heap.size < W9.heap.size; omega)).trans kp0_2W9
             have kp0_3W10 := (bC.cell (p := ⟨w.heap.size, 3, none⟩) (by show w.heap.size < W9.heap.size; omega)).trans kp0_3W9
             have kp0_4W10 := (bC.cell (p := ⟨w.heap.size, 4, none⟩) (by show w.heap.size < W9.heap.size; omega)).trans kp0_4W9
             have kp0_5W10 := (bC.cell (p := ⟨w.heap.size, 5, none⟩) (by show w.heap.size < W9.heap.size; omega)).trans kp0_5W9
             have kp0_6W10 := (bC.cell (p := ⟨w.heap.size, 6, none⟩) (by show w.heap.size < W9.heap.size; omega)).trans kp0_6W9
             have kp1_0W10 := (bC.cell (p := ⟨w.heap.size + 1, 0, none⟩) (by show w.heap.size + 1 < W9.heap.size; omega)).trans kp1_0W9
             have kp1_1W10 := (bC.cell (p := ⟨w.heap.size + 1, 1, none⟩) (by show w.heap.size + 1 < W9.heap.size; omega)).trans kp1_1W9
             have kx0_0W10 := (bC.cell (p := ⟨W6.heap.size, 0, none⟩) (by show W6.heap.size < W9.heap.size; omega)).trans kx0_0W9
             have kx0_1W10 := (bC.cell (p := ⟨W6.heap.size, 1, none⟩) (by show W6.heap.size < W9.heap.size; omega)).trans kx0_1W9
             have kx0_2W10 := (bC.cell (p := ⟨W6.heap.size, 2, none⟩) (by show W6.heap.size < W9.heap.size; omega)).trans kx0_2W9
             have kx0_3W10 := (bC.cell (p := ⟨W6.heap.size, 3, none⟩) (by show W6.heap.size < W9.heap.size; omega)).trans kx0_3W9
             have kx0_4W10 := (bC.cell (p := ⟨W6.heap.size, 4, none⟩) (by show W6.heap.size < W9.heap.size; omega)).trans kx0_4W9
             have kx0_5W10 := (bC.cell (p := ⟨W6.heap.size, 5, none⟩) (by show W6.heap.size < W9.heap.size; omega)).trans kx0_5W9
             have kx0_6W10 := (bC.cell (p := ⟨W6.heap.size, 6, none⟩) (by show W6.heap.size < W9.heap.size; omega)).trans kx0_6W9
             have A0W10 := sl.hid (A0W9.out.chg (sl.Chg.ofBelow (lo := 0) bC) (.inr (Nat.zero_le _)))
             have OrW10 := sl.hid (OrW9.out.chg (sl.Chg.ofBelow (lo := 0) bC) (.inr (.inr (Nat.zero_le _))))
             have Ox0W10 := sl.hid (Ox0W9.out.chg (sl.Chg.ofBelow (lo := 0) bC) (.inr (.inr (Nat.zero_le _))))
             have CW10 := sl.hid (CW9.out.trans (bC.mono (by show w.heap.size ≤ W9.heap.size; omega)))
             have Ovg := sl.hid oC
             clear oC
             clear  bC kp0_0W9 kp0_1W9 kp0_2W9 kp0_3W9 kp0_4W9 kp0_5W9 kp0_6W9 kp1_0W9 kp1_1W9 kx0_0W9 kx0_1W9 kx0_2W9 kx0_3W9 kx0_4W9 kx0_5W9 kx0_6W9 A0W9 OrW9 Ox0W9 CW9))
      go_wp2_with fail
      refine (sl.eqS zr _ _ _ _ W10 Ovg.out.ints OrW10.out.ints hr).mono ?_
      rintro e W11 ⟨rfl, b11⟩
      have hzW11 : W10.heap.size ≤ W11.heap.size := b11.size
      have kp0_0W11 := (b11.cell (p := ⟨w.heap.size, 0, none⟩) (by show w.heap.size < W10.heap.size; omega)).trans kp0_0W10
      have kp0_1W11 := (b11.cell (p := ⟨w.heap.size, 1, none⟩) (by show w.heap.size < W10.heap.size; omega)).trans kp0_1W10
      have kp0_2W11 := (b11.cell (p := ⟨w.heap.size, 2, none⟩) (by show w.heap.size < W10.heap.size; omega)).trans kp0_2W10
      have kp0_3W11 := (b11.cell (p := ⟨w.heap.size, 3, none⟩) (by show w.heap.size < W10.heap.size; omega)).trans kp0_3W10
      have kp0_4W11 := (b11.cell (p := ⟨w.heap.size, 4, none⟩) (by show w.heap.size < W10.heap.size; omega)).trans kp0_4W10
      have kp0_5W11 := (b11.cell (p := ⟨w.heap.size, 5, none⟩) (by show w.heap.size < W10.heap.size; omega)).trans kp0_5W10
      have kp0_6W11 := (b11.cell (p := ⟨w.heap.size, 6, none⟩) (by show w.heap.size < W10.heap.size; omega)).trans kp0_6W10
      have kp1_0W11 := (b11.cell (p := ⟨w.heap.size + 1, 0, none⟩) (by show w.heap.size + 1 < W10.heap.size; omega)).trans kp1_0W10
      have kp1_1W11 := (b11.cell (p := ⟨w.heap.size + 1, 1, none⟩) (by show w.heap.size + 1 < W10.heap.size; omega)).trans kp1_1W10
      have kx0_0W11 := (b11.cell (p := ⟨W6.heap.size, 0, none⟩) (by show W6.heap.size < W10.heap.size; omega)).trans kx0_0W10
      have kx0_1W11 := (b11.cell (p := ⟨W6.heap.size, 1, none⟩) (by show W6.heap.size < W10.heap.size; omega)).trans kx0_1W10
      have kx0_2W11 := (b11.cell (p := ⟨W6.heap.size, 2, none⟩) (by show W6.heap.size < W10.heap.size; omega)).trans kx0_2W10
      have kx0_3W11 := (b11.cell (p := ⟨W6.heap.size, 3, none⟩) (by show W6.heap.size < W10.heap.size; omega)).trans kx0_3W10
      have kx0_4W11 := (b11.cell (p := ⟨W6.heap.size, 4, none⟩) (by show W6.heap.size < W10.heap.size; omega)).trans kx0_4W10
      have kx0_5W11 := (b11.cell (p := ⟨W6.heap.size, 5, none⟩) (by show W6.heap.size < W10.heap.size; omega)).trans kx0_5W10
      have kx0_6W11 := (b11.cell (p := ⟨W6.heap.size, 6, none⟩) (by show W6.heap.size < W10.heap.size; omega)).trans kx0_6W10
      have A0W11 := sl.hid (A0W10.out.chg (sl.Chg.ofBelow (lo := 0) b11) (.inr (Nat.zero_le _)))
      have OrW11 := sl.hid (OrW10.out.chg (sl.Chg.ofBelow (lo := 0) b11) (.inr (.inr (Nat.zero_le _))))
      have Ox0W11 := sl.hid (Ox0W10.out.chg (sl.Chg.ofBelow (lo := 0) b11) (.inr (.inr (Nat.zero_le _))))
      have OgW11 := sl.hid (Ovg.out.chg (sl.Chg.ofBelow (lo := 0) b11) (.inr (.inr (Nat.zero_le _))))
      have CW11 := sl.hid (CW10.out.trans (b11.mono (by show w.heap.size ≤ W10.heap.size; omega)))
      clear b11 kp0_0W10 kp0_1W10 kp0_2W10 kp0_3W10 kp0_4W10 kp0_5W10 kp0_6W10 kp1_0W10 kp1_1W10 kx0_0W10 kx0_1W10 kx0_2W10 kx0_3W10 kx0_4W10 kx0_5W10 kx0_6W10 A0W10 OrW10 Ox0W10 Ovg CW10
      go_wp2_with fail
      have bD := (Below.refl W11.heap.size W11).drew
      have A0dW11 := sl.hid (A0W11.out.chg (sl.Chg.ofBelow (lo := 0) bD) (.inr (Nat.zero_le _)))
      have OrdW11 := sl.hid (OrW11.out.chg (sl.Chg.ofBelow (lo := 0) bD) (.inr (.inr (Nat.zero_le _))))
      have Ox0dW11 := sl.hid (Ox0W11.out.chg (sl.Chg.ofBelow (lo := 0) bD) (.inr (.inr (Nat.zero_le _))))
      have OgdW11 := sl.hid (OgW11.out.chg (sl.Chg.ofBelow (lo := 0) bD) (.inr (.inr (Nat.zero_le _))))
      have CdW11 := sl.hid (CW11.out.drew)
      clear bD A0W11 OrW11 Ox0W11 OgW11 CW11
      go_region_held3 (fun w' => w'.cell? ⟨w.heap.size, 0, none⟩ = some (.int .i64 a0) ∧ w'.cell? ⟨w.heap.size, 1, none⟩ = some (.int .i64 p0) ∧ w'.cell? ⟨w.heap.size, 2, none⟩ = some (f0_0) ∧ w'.cell? ⟨w.heap.size, 3, none⟩ = some (f0_1) ∧ w'.cell? ⟨w.heap.size, 4, none⟩ = some (f0_2) ∧ w'.cell? ⟨w.heap.size, 5, none⟩ = some (f0_3) ∧ w'.cell? ⟨w.heap.size, 6, none⟩ = some (f0_4) ∧ w'.cell? ⟨W6.heap.size, 0, none⟩ = some (.int .i64 a0) ∧ w'.cell? ⟨W6.heap.size, 1, none⟩ = some (.int .i64 p0) ∧ w'.cell? ⟨W6.heap.size, 2, none⟩ = some (.slice ao6_0 ln6_0 cp6_0) ∧ w'.cell? ⟨W6.heap.size, 3, none⟩ = some (.slice ao6_1 ln6_1 cp6_1) ∧ w'.cell? ⟨W6.heap.size, 4, none⟩ = some (.slice ao6_2 ln6_2 cp6_2) ∧ w'.cell? ⟨W6.heap.size, 5, none⟩ = some (.slice ao6_3 ln6_3 cp6_3) ∧ w'.cell? ⟨W6.heap.size, 6, none⟩ = some (.slice ao6_4 ln6_4 cp6_4)) (go_keep)
        (first
          | (go_at_call 13
             refine (mc.toM a0 p0 xs0 f0_0 f0_1 f0_2 f0_3 f0_4 _ _ A0dW11.out (by show w.heap.size ≤ W11.heap.size; omega) HQ0.out).mono ?_
             rintro e W13 ⟨fc0_0, fc0_1, fc0_2, fc0_3, fc0_4, rfl, oc0, bB⟩
             have HJ0 := sl.hid oc0.rd
             have hzW13 : W11.heap.size ≤ W13.heap.size := bB.size
             have kp0_0W13 := (bB.cell (p := ⟨w.heap.size, 0, none⟩) (by show w.heap.size < W11.heap.size; omega)).trans kp0_0W11
             have kp0_1W13 := (bB.cell (p := ⟨w.heap.size, 1, none⟩) (by show w.heap.size < W11.heap.size; omega)).trans kp0_1W11
             have kp0_2W13 := (bB.cell (p := ⟨w.heap.size, 2, none⟩) (by show w.heap.size < W11.heap.size; omega)).trans kp0_2W11
             have kp0_3W13 := (bB.cell (p := ⟨w.heap.size, 3, none⟩) (by show w.heap.size < W11.heap.size; omega)).trans kp0_3W11
             have kp0_4W13 := (bB.cell (p := ⟨w.heap.size, 4, none⟩) (by show w.heap.size < W11.heap.size; omega)).trans kp0_4W11
             have kp0_5W13 := (bB.cell (p := ⟨w.heap.size, 5, none⟩) (by show w.heap.size < W11.heap.size; omega)).trans kp0_5W11
             have kp0_6W13 := (bB.cell (p := ⟨w.heap.size, 6, none⟩) (by show w.heap.size < W11.heap.size; omega)).trans kp0_6W11
             have kp1_0W13 := (bB.cell (p := ⟨w.heap.size + 1, 0, none⟩) (by show w.heap.size + 1 < W11.heap.size; omega)).trans kp1_0W11
             have kp1_1W13 := (bB.cell (p := ⟨w.heap.size + 1, 1, none⟩) (by show w.heap.size + 1 < W11.heap.size; omega)).trans kp1_1W11
             have kx0_0W13 := (bB.cell (p := ⟨W6.heap.size, 0, none⟩) (by show W6.heap.size < W11.heap.size; omega)).trans kx0_0W11
             have kx0_1W13 := (bB.cell (p := ⟨W6.heap.size, 1, none⟩) (by show W6.heap.size < W11.heap.size; omega)).trans kx0_1W11
             have kx0_2W13 := (bB.cell (p := ⟨W6.heap.size, 2, none⟩) (by show W6.heap.size < W11.heap.size; omega)).trans kx0_2W11
             have kx0_3W13 := (bB.cell (p := ⟨W6.heap.size, 3, none⟩) (by show W6.heap.size < W11.heap.size; omega)).trans kx0_3W11
             have kx0_4W13 := (bB.cell (p := ⟨W6.heap.size, 4, none⟩) (by show W6.heap.size < W11.heap.size; omega)).trans kx0_4W11
             have kx0_5W13 := (bB.cell (p := ⟨W6.heap.size, 5, none⟩) (by show W6.heap.size < W11.heap.size; omega)).trans kx0_5W11
             have kx0_6W13 := (bB.cell (p := ⟨W6.heap.size, 6, none⟩) (by show W6.heap.size < W11.heap.size; omega)).trans kx0_6W11
             have A0W13 := sl.hid (A0dW11.out.chg (sl.Chg.ofBelow (lo := 0) bB) (.inr (Nat.zero_le _)))
             have OrW13 := sl.hid (OrdW11.out.chg (sl.Chg.ofBelow (lo := 0) bB) (.inr (.inr (Nat.zero_le _))))
             have Ox0W13 := sl.hid (Ox0dW11.out.chg (sl.Chg.ofBelow (lo := 0) bB) (.inr (.inr (Nat.zero_le _))))
             have OgW13 := sl.hid (OgdW11.out.chg (sl.Chg.ofBelow (lo := 0) bB) (.inr (.inr (Nat.zero_le _))))
             have CW13 := sl.hid (CdW11.out.trans (bB.mono (by show w.heap.size ≤ W11.heap.size; omega)))
             clear oc0 bB kp0_0W11 kp0_1W11 kp0_2W11 kp0_3W11 kp0_4W11 kp0_5W11 kp0_6W11 kp1_0W11 kp1_1W11 kx0_0W11 kx0_1W11 kx0_2W11 kx0_3W11 kx0_4W11 kx0_5W11 kx0_6W11 A0dW11 OrdW11 Ox0dW11 OgdW11 CdW11)
          | (go_at_call 17
             refine (mc.eqMS a0 p0 xs0 _ _ _ _ _ _ _ _ _ _ _ _ W13 Ox0W13.out.rd HJ0.out HQ0.out).mono ?_
             rintro e W14 ⟨rfl, bC⟩
             have hzW14 : W13.heap.size ≤ W14.heap.size := bC.size
             have kp0_0W14 := (bC.cell (p := ⟨w.heap.size, 0, none⟩) (by show w.heap.size < W13.heap.size; omega)).trans kp0_0W13
             have kp0_1W14 := (bC.cell (p := ⟨w.heap.size, 1, none⟩) (by show w.heap.size < W13.heap.size; omega)).trans kp0_1W13
             have kp0_2W14 := (bC.cell (p := ⟨w.heap.size, 2, none⟩) (by show w.heap.size < W13.heap.size; omega)).trans kp0_2W13
             have kp0_3W14 := (bC.cell (p := ⟨w.heap.size, 3, none⟩) (by show w.heap.size < W13.heap.size; omega)).trans kp0_3W13
             have kp0_4W14 := (bC.cell (p := ⟨w.heap.size, 4, none⟩) (by show w.heap.size < W13.heap.size; omega)).trans kp0_4W13
             have kp0_5W14 := (bC.cell (p := ⟨w.heap.size, 5, none⟩) (by show w.heap.size < W13.heap.size; omega)).trans kp0_5W13
             have kp0_6W14 := (bC.cell (p := ⟨w.heap.size, 6, none⟩) (by show w.heap.size < W13.heap.size; omega)).trans kp0_6W13
             have kp1_0W14 := (bC.cell (p := ⟨w.heap.size + 1, 0, none⟩) (by show w.heap.size + 1 < W13.heap.size; omega)).trans kp1_0W13
             have kp1_1W14 := (bC.cell (p := ⟨w.heap.size + 1, 1, none⟩) (by show w.heap.size + 1 < W13.heap.size; omega)).trans kp1_1W13
             have kx0_0W14 := (bC.cell (p := ⟨W6.heap.size, 0, none⟩) (by show W6.heap.size < W13.heap.size; omega)).trans kx0_0W13
             have kx0_1W14 := (bC.cell (p := ⟨W6.heap.size, 1, none⟩) (by show W6.heap.size < W13.heap.size; omega)).trans kx0_1W13
             have kx0_2W14 := (bC.cell (p := ⟨W6.heap.size, 2, none⟩) (by show W6.heap.size < W13.heap.size; omega)).trans kx0_2W13
             have kx0_3W14 := (bC.cell (p := ⟨W6.heap.size, 3, none⟩) (by show W6.heap.size < W13.heap.size; omega)).trans kx0_3W13
             have kx0_4W14 := (bC.cell (p := ⟨W6.heap.size, 4, none⟩) (by show W6.heap.size < W13.heap.size; omega)).trans kx0_4W13
             have kx0_5W14 := (bC.cell (p := ⟨W6.heap.size, 5, none⟩) (by show W6.heap.size < W13.heap.size; omega)).trans kx0_5W13
             have kx0_6W14 := (bC.cell (p := ⟨W6.heap.size, 6, none⟩) (by show W6.heap.size < W13.heap.size; omega)).trans kx0_6W13
             have A0W14 := sl.hid (A0W13.out.chg (sl.Chg.ofBelow (lo := 0) bC) (.inr (Nat.zero_le _)))
             have OrW14 := sl.hid (OrW13.out.chg (sl.Chg.ofBelow (lo := 0) bC) (.inr (.inr (Nat.zero_le _))))
             have Ox0W14 := sl.hid (Ox0W13.out.chg (sl.Chg.ofBelow (lo := 0) bC) (.inr (.inr (Nat.zero_le _))))
             have OgW14 := sl.hid (OgW13.out.chg (sl.Chg.ofBelow (lo := 0) bC) (.inr (.inr (Nat.zero_le _))))
             have CW14 := sl.hid (CW13.out.trans (bC.mono (by show w.heap.size ≤ W13.heap.size; omega)))
             clear HJ0 bC kp0_0W13 kp0_1W13 kp0_2W13 kp0_3W13 kp0_4W13 kp0_5W13 kp0_6W13 kp1_0W13 kp1_1W13 kx0_0W13 kx0_1W13 kx0_2W13 kx0_3W13 kx0_4W13 kx0_5W13 kx0_6W13 A0W13 OrW13 Ox0W13 OgW13 CW13))
      go_wp2_with fail
      refine (mc.markM a0 p0 xs0 _ _ _ _ _ _ _ 1 W14 Ox0W14.out HQ0.out HT0.out (by omega) (by omega)).mono ?_
      rintro e W15 ⟨km15, rfl, hkm15, c15⟩
      have hkd15 : decide (km15 < 0) = false := by simp; omega
      clear Ox0W14
      have hzW15 : W14.heap.size ≤ W15.heap.size := c15.size
      have kp0_0W15 := (World.cell?_of_block (w := W14) (w' := W15) (a := ⟨w.heap.size, 0, none⟩) (c15.block (w.heap.size) (by omega) (by omega))).trans kp0_0W14
      have kp0_1W15 := (World.cell?_of_block (w := W14) (w' := W15) (a := ⟨w.heap.size, 1, none⟩) (c15.block (w.heap.size) (by omega) (by omega))).trans kp0_1W14
      have kp0_2W15 := (World.cell?_of_block (w := W14) (w' := W15) (a := ⟨w.heap.size, 2, none⟩) (c15.block (w.heap.size) (by omega) (by omega))).trans kp0_2W14
      have kp0_3W15 := (World.cell?_of_block (w := W14) (w' := W15) (a := ⟨w.heap.size, 3, none⟩) (c15.block (w.heap.size) (by omega) (by omega))).trans kp0_3W14
      have kp0_4W15 := (World.cell?_of_block (w := W14) (w' := W15) (a := ⟨w.heap.size, 4, none⟩) (c15.block (w.heap.size) (by omega) (by omega))).trans kp0_4W14
      have kp0_5W15 := (World.cell?_of_block (w := W14) (w' := W15) (a := ⟨w.heap.size, 5, none⟩) (c15.block (w.heap.size) (by omega) (by omega))).trans kp0_5W14
      have kp0_6W15 := (World.cell?_of_block (w := W14) (w' := W15) (a := ⟨w.heap.size, 6, none⟩) (c15.block (w.heap.size) (by omega) (by omega))).trans kp0_6W14
      have kp1_0W15 := (World.cell?_of_block (w := W14) (w' := W15) (a := ⟨w.heap.size + 1, 0, none⟩) (c15.block (w.heap.size + 1) (by omega) (by omega))).trans kp1_0W14
      have kp1_1W15 := (World.cell?_of_block (w := W14) (w' := W15) (a := ⟨w.heap.size + 1, 1, none⟩) (c15.block (w.heap.size + 1) (by omega) (by omega))).trans kp1_1W14
      have A0W15 := sl.hid (A0W14.out.chg c15 (by omega))
      have OrW15 := sl.hid (OrW14.out.chg c15 (by omega))
      have OgW15 := sl.hid (OgW14.out.chg c15 (by omega))
      have CW15 := sl.hid (CW14.out.trans (c15.below (by omega) (by omega)))
      clear c15 kp0_0W14 kp0_1W14 kp0_2W14 kp0_3W14 kp0_4W14 kp0_5W14 kp0_6W14 kp1_0W14 kp1_1W14 A0W14 OrW14 OgW14 CW14
      go_wp2_with fail
      refine (sl.eqS zr _ _ _ _ W15 OgW15.out.ints OrW15.out.ints hr).mono ?_
      rintro e W16 ⟨rfl, b16⟩
      have hzW16 : W15.heap.size ≤ W16.heap.size := b16.size
      have kp0_0W16 := (b16.cell (p := ⟨w.heap.size, 0, none⟩) (by show w.heap.size < W15.heap.size; omega)).trans kp0_0W15
      have kp0_1W16 := (b16.cell (p := ⟨w.heap.size, 1, none⟩) (by show w.heap.size < W15.heap.size; omega)).trans kp0_1W15
      have kp0_2W16 := (b16.cell (p := ⟨w.heap.size, 2, none⟩) (by show w.heap.size < W15.heap.size; omega)).trans kp0_2W15
      have kp0_3W16 := (b16.cell (p := ⟨w.heap.size, 3, none⟩) (by show w.heap.size < W15.heap.size; omega)).trans kp0_3W15
      have kp0_4W16 := (b16.cell (p := ⟨w.heap.size, 4, none⟩) (by show w.heap.size < W15.heap.size; omega)).trans kp0_4W15
      have kp0_5W16 := (b16.cell (p := ⟨w.heap.size, 5, none⟩) (by show w.heap.size < W15.heap.size; omega)).trans kp0_5W15
      have kp0_6W16 := (b16.cell (p := ⟨w.heap.size, 6, none⟩) (by show w.heap.size < W15.heap.size; omega)).trans kp0_6W15
      have kp1_0W16 := (b16.cell (p := ⟨w.heap.size + 1, 0, none⟩) (by show w.heap.size + 1 < W15.heap.size; omega)).trans kp1_0W15
      have kp1_1W16 := (b16.cell (p := ⟨w.heap.size + 1, 1, none⟩) (by show w.heap.size + 1 < W15.heap.size; omega)).trans kp1_1W15
      have A0W16 := sl.hid (A0W15.out.chg (sl.Chg.ofBelow (lo := 0) b16) (.inr (Nat.zero_le _)))
      have OrW16 := sl.hid (OrW15.out.chg (sl.Chg.ofBelow (lo := 0) b16) (.inr (.inr (Nat.zero_le _))))
      have OgW16 := sl.hid (OgW15.out.chg (sl.Chg.ofBelow (lo := 0) b16) (.inr (.inr (Nat.zero_le _))))
      have CW16 := sl.hid (CW15.out.trans (b16.mono (by show w.heap.size ≤ W15.heap.size; omega)))
      clear b16 kp0_0W15 kp0_1W15 kp0_2W15 kp0_3W15 kp0_4W15 kp0_5W15 kp0_6W15 kp1_0W15 kp1_1W15 A0W15 OrW15 OgW15 CW15
      go_wp2_with fail
      refine (sl.markI zr _ _ _ 1 W16 OgW16.out hr (by omega) (by omega)).mono ?_
      rintro e W17 ⟨rfl, o17, c17⟩
      have hzW17 : W16.heap.size ≤ W17.heap.size := c17.size
      have kp0_0W17 := (World.cell?_of_block (w := W16) (w' := W17) (a := ⟨w.heap.size, 0, none⟩) (c17.block (w.heap.size) (by omega) (by omega))).trans kp0_0W16
      have kp0_1W17 := (World.cell?_of_block (w := W16) (w' := W17) (a := ⟨w.heap.size, 1, none⟩) (c17.block (w.heap.size) (by omega) (by omega))).trans kp0_1W16
      have kp0_2W17 := (World.cell?_of_block (w := W16) (w' := W17) (a := ⟨w.heap.size, 2, none⟩) (c17.block (w.heap.size) (by omega) (by omega))).trans kp0_2W16
      have kp0_3W17 := (World.cell?_of_block (w := W16) (w' := W17) (a := ⟨w.heap.size, 3, none⟩) (c17.block (w.heap.size) (by omega) (by omega))).trans kp0_3W16
      have kp0_4W17 := (World.cell?_of_block (w := W16) (w' := W17) (a := ⟨w.heap.size, 4, none⟩) (c17.block (w.heap.size) (by omega) (by omega))).trans kp0_4W16
      have kp0_5W17 := (World.cell?_of_block (w := W16) (w' := W17) (a := ⟨w.heap.size, 5, none⟩) (c17.block (w.heap.size) (by omega) (by omega))).trans kp0_5W16
      have kp0_6W17 := (World.cell?_of_block (w := W16) (w' := W17) (a := ⟨w.heap.size, 6, none⟩) (c17.block (w.heap.size) (by omega) (by omega))).trans kp0_6W16
      have kp1_0W17 := (World.cell?_of_block (w := W16) (w' := W17) (a := ⟨w.heap.size + 1, 0, none⟩) (c17.block (w.heap.size + 1) (by omega) (by omega))).trans kp1_0W16
      have kp1_1W17 := (World.cell?_of_block (w := W16) (w' := W17) (a := ⟨w.heap.size + 1, 1, none⟩) (c17.block (w.heap.size + 1) (by omega) (by omega))).trans kp1_1W16
      have A0W17 := sl.hid (A0W16.out.chg c17 (by omega))
      have OrW17 := sl.hid (OrW16.out.chg c17 (by omega))
      have CW17 := sl.hid (CW16.out.trans (c17.below (by omega) (by omega)))
      clear c17 kp0_0W16 kp0_1W16 kp0_2W16 kp0_3W16 kp0_4W16 kp0_5W16 kp0_6W16 kp1_0W16 kp1_1W16 A0W16 OrW16 CW16
      have On17 := sl.hid o17
      clear o17 OgW16
      go_wp2_with fail
      refine (sl.heldI zr.length _ _ 1 W17 On17.out.ints hr (by omega) (by omega)).mono ?_
      rintro e W18 ⟨rfl, rfl⟩
      go_wp2_with fail
      have bD := (Below.refl W17.heap.size W17).drew
      have A0dW17 := sl.hid (A0W17.out.chg (sl.Chg.ofBelow (lo := 0) bD) (.inr (Nat.zero_le _)))
      have OrdW17 := sl.hid (OrW17.out.chg (sl.Chg.ofBelow (lo := 0) bD) (.inr (.inr (Nat.zero_le _))))
      have OgdW17 := sl.hid (On17.out.chg (sl.Chg.ofBelow (lo := 0) bD) (.inr (.inr (Nat.zero_le _))))
      have CdW17 := sl.hid (CW17.out.drew)
      clear bD A0W17 OrW17 On17 CW17
      go_region_held3 (fun w' => w'.cell? ⟨w.heap.size, 0, none⟩ = some (.int .i64 a0) ∧ w'.cell? ⟨w.heap.size, 1, none⟩ = some (.int .i64 p0) ∧ w'.cell? ⟨w.heap.size, 2, none⟩ = some (f0_0) ∧ w'.cell? ⟨w.heap.size, 3, none⟩ = some (f0_1) ∧ w'.cell? ⟨w.heap.size, 4, none⟩ = some (f0_2) ∧ w'.cell? ⟨w.heap.size, 5, none⟩ = some (f0_3) ∧ w'.cell? ⟨w.heap.size, 6, none⟩ = some (f0_4) ∧ w'.cell? ⟨w.heap.size + 1, 0, none⟩ = some (.int .i64 a1) ∧ w'.cell? ⟨w.heap.size + 1, 1, none⟩ = some (.int .i64 c1)) (go_keep)
        (first
          | (go_at_call_of 13 (Value.agg #[.int .i64 a0, .int .i64 p0, f0_0, f0_1, f0_2, f0_3, f0_4])
             have hchk := HIc1
             refine (mc.toM a0 p0 xs0 f0_0 f0_1 f0_2 f0_3 f0_4 _ _ A0W19.out (by show w.heap.size ≤ W19.heap.size; omega) HQ0.out).mono ?_
             rintro e W20 ⟨fc0_0, fc0_1, fc0_2, fc0_3, fc0_4, rfl, oc0, bB⟩
             have HJ0 := sl.hid oc0.c
             have hzW20 : W19.heap.size ≤ W20.heap.size := bB.size
             have kp0_0W20 := (bB.cell (p := ⟨w.heap.size, 0, none⟩) (by show w.heap.size < W19.heap.size; omega)).trans kp0_0W19
             have kp0_1W20 := (bB.cell (p := ⟨w.heap.size, 1, none⟩) (by show w.heap.size < W19.heap.size; omega)).trans kp0_1W19
             have kp0_2W20 := (bB.cell (p := ⟨w.heap.size, 2, none⟩) (by show w.heap.size < W19.heap.size; omega)).trans kp0_2W19
             have kp0_3W20 := (bB.cell (p := ⟨w.heap.size, 3, none⟩) (by show w.heap.size < W19.heap.size; omega)).trans kp0_3W19
             have kp0_4W20 := (bB.cell (p := ⟨w.heap.size, 4, none⟩) (by show w.heap.size < W19.heap.size; omega)).trans kp0_4W19
             have kp0_5W20 := (bB.cell (p := ⟨w.heap.size, 5, none⟩) (by show w.heap.size < W19.heap.size; omega)).trans kp0_5W19
             have kp0_6W20 := (bB.cell (p := ⟨w.heap.size, 6, none⟩) (by show w.heap.size < W19.heap.size; omega)).trans kp0_6W19
             have kp1_0W20 := (bB.cell (p := ⟨w.heap.size + 1, 0, none⟩) (by show w.heap.size + 1 < W19.heap.size; omega)).trans kp1_0W19
             have kp1_1W20 := (bB.cell (p := ⟨w.heap.size + 1, 1, none⟩) (by show w.heap.size + 1 < W19.heap.size; omega)).trans kp1_1W19
             have A0W20 := sl.hid (A0W19.out.chg (sl.Chg.ofBelow (lo := 0) bB) (.inr (Nat.zero_le _)))
             have OrW20 := sl.hid (OrW19.out.chg (sl.Chg.ofBelow (lo := 0) bB) (.inr (.inr (Nat.zero_le _))))
             have OgW20 := sl.hid (OgW19.out.chg (sl.Chg.ofBelow (lo := 0) bB) (.inr (.inr (Nat.zero_le _))))
             have CW20 := sl.hid (CW19.out.trans (bB.mono (by show w.heap.size ≤ W19.heap.size; omega)))
             clear oc0 HIc1 hchk bB kp0_0W19 kp0_1W19 kp0_2W19 kp0_3W19 kp0_4W19 kp0_5W19 kp0_6W19 kp1_0W19 kp1_1W19 A0W19 OrW19 OgW19 CW19)
          | (go_at_call_of 14 (Value.agg #[.int .i64 a1, .int .i64 c1])
             have hchk := HIc0
             refine (l5.toD a1 c1 _).mono ?_
             rintro e W20 ⟨rfl, bB⟩
             have HJ0 := sl.hid ((HIc0.out.chg (sl.Chg.ofBelow (lo := 0) bB) (.inr (Nat.zero_le _))).mono bB.size)
             have hzW20 : W19.heap.size ≤ W20.heap.size := bB.size
             have kp0_0W20 := (bB.cell (p := ⟨w.heap.size, 0, none⟩) (by show w.heap.size < W19.heap.size; omega)).trans kp0_0W19
             have kp0_1W20 := (bB.cell (p := ⟨w.heap.size, 1, none⟩) (by show w.heap.size < W19.heap.size; omega)).trans kp0_1W19
             have kp0_2W20 := (bB.cell (p := ⟨w.heap.size, 2, none⟩) (by show w.heap.size < W19.heap.size; omega)).trans kp0_2W19
             have kp0_3W20 := (bB.cell (p := ⟨w.heap.size, 3, none⟩) (by show w.heap.size < W19.heap.size; omega)).trans kp0_3W19
             have kp0_4W20 := (bB.cell (p := ⟨w.heap.size, 4, none⟩) (by show w.heap.size < W19.heap.size; omega)).trans kp0_4W19
             have kp0_5W20 := (bB.cell (p := ⟨w.heap.size, 5, none⟩) (by show w.heap.size < W19.heap.size; omega)).trans kp0_5W19
             have kp0_6W20 := (bB.cell (p := ⟨w.heap.size, 6, none⟩) (by show w.heap.size < W19.heap.size; omega)).trans kp0_6W19
             have kp1_0W20 := (bB.cell (p := ⟨w.heap.size + 1, 0, none⟩) (by show w.heap.size + 1 < W19.heap.size; omega)).trans kp1_0W19
             have kp1_1W20 := (bB.cell (p := ⟨w.heap.size + 1, 1, none⟩) (by show w.heap.size + 1 < W19.heap.size; omega)).trans kp1_1W19
             have A0W20 := sl.hid (A0W19.out.chg (sl.Chg.ofBelow (lo := 0) bB) (.inr (Nat.zero_le _)))
             have OrW20 := sl.hid (OrW19.out.chg (sl.Chg.ofBelow (lo := 0) bB) (.inr (.inr (Nat.zero_le _))))
             have OgW20 := sl.hid (OgW19.out.chg (sl.Chg.ofBelow (lo := 0) bB) (.inr (.inr (Nat.zero_le _))))
             have CW20 := sl.hid (CW19.out.trans (bB.mono (by show w.heap.size ≤ W19.heap.size; omega)))
             clear  HIc0 hchk bB kp0_0W19 kp0_1W19 kp0_2W19 kp0_3W19 kp0_4W19 kp0_5W19 kp0_6W19 kp1_0W19 kp1_1W19 A0W19 OrW19 OgW19 CW19)
          | (go_at_call_of 13 (Value.agg #[.int .i64 a0, .int .i64 p0, f0_0, f0_1, f0_2, f0_3, f0_4])
             refine (mc.toM a0 p0 xs0 f0_0 f0_1 f0_2 f0_3 f0_4 _ _ A0dW17.out (by show w.heap.size ≤ W17.heap.size; omega) HQ0.out).mono ?_
             rintro e W19 ⟨fc0_0, fc0_1, fc0_2, fc0_3, fc0_4, rfl, oc0, bA⟩
             have HIc0 := sl.hid oc0.c
             have hzW19 : W17.heap.size ≤ W19.heap.size := bA.size
             have kp0_0W19 := (bA.cell (p := ⟨w.heap.size, 0, none⟩) (by show w.heap.size < W17.heap.size; omega)).trans kp0_0W17
             have kp0_1W19 := (bA.cell (p := ⟨w.heap.size, 1, none⟩) (by show w.heap.size < W17.heap.size; omega)).trans kp0_1W17
             have kp0_2W19 := (bA.cell (p := ⟨w.heap.size, 2, none⟩) (by show w.heap.size < W17.heap.size; omega)).trans kp0_2W17
             have kp0_3W19 := (bA.cell (p := ⟨w.heap.size, 3, none⟩) (by show w.heap.size < W17.heap.size; omega)).trans kp0_3W17
             have kp0_4W19 := (bA.cell (p := ⟨w.heap.size, 4, none⟩) (by show w.heap.size < W17.heap.size; omega)).trans kp0_4W17
             have kp0_5W19 := (bA.cell (p := ⟨w.heap.size, 5, none⟩) (by show w.heap.size < W17.heap.size; omega)).trans kp0_5W17
             have kp0_6W19 := (bA.cell (p := ⟨w.heap.size, 6, none⟩) (by show w.heap.size < W17.heap.size; omega)).trans kp0_6W17
             have kp1_0W19 := (bA.cell (p := ⟨w.heap.size + 1, 0, none⟩) (by show w.heap.size + 1 < W17.heap.size; omega)).trans kp1_0W17
             have kp1_1W19 := (bA.cell (p := ⟨w.heap.size + 1, 1, none⟩) (by show w.heap.size + 1 < W17.heap.size; omega)).trans kp1_1W17
             have A0W19 := sl.hid (A0dW17.out.chg (sl.Chg.ofBelow (lo := 0) bA) (.inr (Nat.zero_le _)))
             have OrW19 := sl.hid (OrdW17.out.chg (sl.Chg.ofBelow (lo := 0) bA) (.inr (.inr (Nat.zero_le _))))
             have OgW19 := sl.hid (OgdW17.out.chg (sl.Chg.ofBelow (lo := 0) bA) (.inr (.inr (Nat.zero_le _))))
             have CW19 := sl.hid (CdW17.out.trans (bA.mono (by show w.heap.size ≤ W17.heap.size; omega)))
             clear oc0 bA kp0_0W17 kp0_1W17 kp0_2W17 kp0_3W17 kp0_4W17 kp0_5W17 kp0_6W17 kp1_0W17 kp1_1W17 A0dW17 OrdW17 OgdW17 CdW17)
          | (go_at_call_of 14 (Value.agg #[.int .i64 a1, .int .i64 c1])
             refine (l5.toD a1 c1 _).mono ?_
             rintro e W19 ⟨rfl, bA⟩
             have HIc1 := sl.hid True.intro
             have hzW19 : W17.heap.size ≤ W19.heap.size := bA.size
             have kp0_0W19 := (bA.cell (p := ⟨w.heap.size, 0, none⟩) (by show w.heap.size < W17.heap.size; omega)).trans kp0_0W17
             have kp0_1W19 := (bA.cell (p := ⟨w.heap.size, 1, none⟩) (by show w.heap.size < W17.heap.size; omega)).trans kp0_1W17
             have kp0_2W19 := (bA.cell (p := ⟨w.heap.size, 2, none⟩) (by show w.heap.size < W17.heap.size; omega)).trans kp0_2W17
             have kp0_3W19 := (bA.cell (p := ⟨w.heap.size, 3, none⟩) (by show w.heap.size < W17.heap.size; omega)).trans kp0_3W17
             have kp0_4W19 := (bA.cell (p := ⟨w.heap.size, 4, none⟩) (by show w.heap.size < W17.heap.size; omega)).trans kp0_4W17
             have kp0_5W19 := (bA.cell (p := ⟨w.heap.size, 5, none⟩) (by show w.heap.size < W17.heap.size; omega)).trans kp0_5W17
             have kp0_6W19 := (bA.cell (p := ⟨w.heap.size, 6, none⟩) (by show w.heap.size < W17.heap.size; omega)).trans kp0_6W17
             have kp1_0W19 := (bA.cell (p := ⟨w.heap.size + 1, 0, none⟩) (by show w.heap.size + 1 < W17.heap.size; omega)).trans kp1_0W17
             have kp1_1W19 := (bA.cell (p := ⟨w.heap.size + 1, 1, none⟩) (by show w.heap.size + 1 < W17.heap.size; omega)).trans kp1_1W17
             have A0W19 := sl.hid (A0dW17.out.chg (sl.Chg.ofBelow (lo := 0) bA) (.inr (Nat.zero_le _)))
             have OrW19 := sl.hid (OrdW17.out.chg (sl.Chg.ofBelow (lo := 0) bA) (.inr (.inr (Nat.zero_le _))))
             have OgW19 := sl.hid (OgdW17.out.chg (sl.Chg.ofBelow (lo := 0) bA) (.inr (.inr (Nat.zero_le _))))
             have CW19 := sl.hid (CdW17.out.trans (bA.mono (by show w.heap.size ≤ W17.heap.size; omega)))
             clear  bA kp0_0W17 kp0_1W17 kp0_2W17 kp0_3W17 kp0_4W17 kp0_5W17 kp0_6W17 kp1_0W17 kp1_1W17 A0dW17 OrdW17 OgdW17 CdW17)
          | (go_at_call 19
             refine (IP.out _ _ _ _ _ W20 _ HJ0.out (by omega)).mono ?_
             rintro e W21 ⟨vh, rfl, oC, bC⟩
             have hzW21 : W20.heap.size ≤ W21.heap.size := bC.size
             have kp0_0W21 := (bC.cell (p := ⟨w.heap.size, 0, none⟩) (by show w.heap.size < W20.heap.size; omega)).trans kp0_0W20
             have kp0_1W21 := (bC.cell (p := ⟨w.heap.size, 1, none⟩) (by show w.heap.size < W20.heap.size; omega)).trans kp0_1W20
             have kp0_2W21 := (bC.cell (p := ⟨w.heap.size, 2, none⟩) (by show w.heap.size < W20.heap.size; omega)).trans kp0_2W20
             have kp0_3W21 := (bC.cell (p := ⟨w.heap.size, 3, none⟩) (by show w.heap.size < W20.heap.size; omega)).trans kp0_3W20
             have kp0_4W21 := (bC.cell (p := ⟨w.heap.size, 4, none⟩) (by show w.heap.size < W20.heap.size; omega)).trans kp0_4W20
             have kp0_5W21 := (bC.cell (p := ⟨w.heap.size, 5, none⟩) (by show w.heap.size < W20.heap.size; omega)).trans kp0_5W20
             have kp0_6W21 := (bC.cell (p := ⟨w.heap.size, 6, none⟩) (by show w.heap.size < W20.heap.size; omega)).trans kp0_6W20
             have kp1_0W21 := (bC.cell (p := ⟨w.heap.size + 1, 0, none⟩) (by show w.heap.size + 1 < W20.heap.size; omega)).trans kp1_0W20
             have kp1_1W21 := (bC.cell (p := ⟨w.heap.size + 1, 1, none⟩) (by show w.heap.size + 1 < W20.heap.size; omega)).trans kp1_1W20
             have A0W21 := sl.hid (A0W20.out.chg (sl.Chg.ofBelow (lo := 0) bC) (.inr (Nat.zero_le _)))
             have OrW21 := sl.hid (OrW20.out.chg (sl.Chg.ofBelow (lo := 0) bC) (.inr (.inr (Nat.zero_le _))))
             have OgW21 := sl.hid (OgW20.out.chg (sl.Chg.ofBelow (lo := 0) bC) (.inr (.inr (Nat.zero_le _))))
             have CW21 := sl.hid (CW20.out.trans (bC.mono (by show w.heap.size ≤ W20.heap.size; omega)))
             have Ovh := sl.hid oC
             clear oC
             clear HJ0 bC kp0_0W20 kp0_1W20 kp0_2W20 kp0_3W20 kp0_4W20 kp0_5W20 kp0_6W20 kp1_0W20 kp1_1W20 A0W20 OrW20 OgW20 CW20))
      all_goals
        go_wp2_with fail
        refine (sl.eqS zr _ _ _ _ W21 Ovh.out.ints OrW21.out.ints hr).mono ?_
        rintro e W22 ⟨rfl, b22⟩
        have hzW22 : W21.heap.size ≤ W22.heap.size := b22.size
        have kp0_0W22 := (b22.cell (p := ⟨w.heap.size, 0, none⟩) (by show w.heap.size < W21.heap.size; omega)).trans kp0_0W21
        have kp0_1W22 := (b22.cell (p := ⟨w.heap.size, 1, none⟩) (by show w.heap.size < W21.heap.size; omega)).trans kp0_1W21
        have kp0_2W22 := (b22.cell (p := ⟨w.heap.size, 2, none⟩) (by show w.heap.size < W21.heap.size; omega)).trans kp0_2W21
        have kp0_3W22 := (b22.cell (p := ⟨w.heap.size, 3, none⟩) (by show w.heap.size < W21.heap.size; omega)).trans kp0_3W21
        have kp0_4W22 := (b22.cell (p := ⟨w.heap.size, 4, none⟩) (by show w.heap.size < W21.heap.size; omega)).trans kp0_4W21
        have kp0_5W22 := (b22.cell (p := ⟨w.heap.size, 5, none⟩) (by show w.heap.size < W21.heap.size; omega)).trans kp0_5W21
        have kp0_6W22 := (b22.cell (p := ⟨w.heap.size, 6, none⟩) (by show w.heap.size < W21.heap.size; omega)).trans kp0_6W21
        have kp1_0W22 := (b22.cell (p := ⟨w.heap.size + 1, 0, none⟩) (by show w.heap.size + 1 < W21.heap.size; omega)).trans kp1_0W21
        have kp1_1W22 := (b22.cell (p := ⟨w.heap.size + 1, 1, none⟩) (by show w.heap.size + 1 < W21.heap.size; omega)).trans kp1_1W21
        have A0W22 := sl.hid (A0W21.out.chg (sl.Chg.ofBelow (lo := 0) b22) (.inr (Nat.zero_le _)))
        have OrW22 := sl.hid (OrW21.out.chg (sl.Chg.ofBelow (lo := 0) b22) (.inr (.inr (Nat.zero_le _))))
        have OgW22 := sl.hid (OgW21.out.chg (sl.Chg.ofBelow (lo := 0) b22) (.inr (.inr (Nat.zero_le _))))
        have OhW22 := sl.hid (Ovh.out.chg (sl.Chg.ofBelow (lo := 0) b22) (.inr (.inr (Nat.zero_le _))))
        have CW22 := sl.hid (CW21.out.trans (b22.mono (by show w.heap.size ≤ W21.heap.size; omega)))
        clear b22 kp0_0W21 kp0_1W21 kp0_2W21 kp0_3W21 kp0_4W21 kp0_5W21 kp0_6W21 kp1_0W21 kp1_1W21 A0W21 OrW21 OgW21 Ovh CW21
        go_wp2_with fail
        refine (sl.heldI zr.length _ _ 1 W22 OgW22.out.ints hr (by omega) (by omega)).mono ?_
        rintro e W23 ⟨rfl, rfl⟩
        go_wp2
        go_ret
        exact ⟨rfl, CW22.out⟩
end Go.Proofs.Ytfechjhngcmdpaa.wloopsOn
