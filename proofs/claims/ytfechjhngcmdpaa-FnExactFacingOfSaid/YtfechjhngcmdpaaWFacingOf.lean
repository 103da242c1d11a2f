/-
  The walk of the law of FacingOf.
-/
import Derived.Test.YtfechjhngcmdpaaWfg
import Derived.Deep.RegionHeld3
namespace Go.Proofs.Ytfechjhngcmdpaa.wfacingOf
open Go.RowKit
set_option linter.unusedVariables false

set_option maxRecDepth 100000 in
set_option maxHeartbeats 20000000 in
theorem law (a0 p0 : Int) (f0_0 f0_1 f0_2 f0_3 f0_4 : Value) (xs0 : mc.Mch) (a1 c1 : Int) (w : World) (hi0 : mc.MArg w f0_0 f0_1 f0_2 f0_3 f0_4 xs0) (ha0 : -9223372036854775808 ≤ a0 ∧ a0 ≤ 9223372036854775807) (hp0 : -9223372036854775808 ≤ p0 ∧ p0 ≤ 9223372036854775807) (ha1 : -9223372036854775808 ≤ a1 ∧ a1 ≤ 9223372036854775807) (hc1 : -9223372036854775808 ≤ c1 ∧ c1 ≤ 9223372036854775807) :
    Calls Try.prog 3 #[.agg #[.int .i64 a0, .int .i64 p0, f0_0, f0_1, f0_2, f0_3, f0_4], .agg #[.int .i64 a1, .int .i64 c1]] w fun e w' => e = .returned (.bool true) ∧ Below w.heap.size w w' := by
  have HI0 := sl.hid hi0.rd
  have HZ0 := sl.hid (fun W B h => mc.szM a0 p0 xs0 f0_0 f0_1 f0_2 f0_3 f0_4 B (1048576) W h hi0.len hi0.short (by omega) (by omega))
  rcases mc.szV_pos (m := xs0) (left := 1048576) (by omega) with hzc0 | hzc0
  · rw [hzc0] at HZ0
    clear hzc0 hi0 ha0 hp0 ha1 hc1
    go_enter Try.func3, Try.ntmps3
    go_wp2_with fail
    have bE : Below w.heap.size w ((w.alloc (.cells #[.int .i64 a0, .int .i64 p0, f0_0, f0_1, f0_2, f0_3, f0_4] 27)).alloc (.cells #[.int .i64 a1, .int .i64 c1] 29)) := (((Below.refl w.heap.size w).alloc (by simp) _).alloc (by simp) _)
    have hzW0 : w.heap.size + 2 ≤ ((w.alloc (.cells #[.int .i64 a0, .int .i64 p0, f0_0, f0_1, f0_2, f0_3, f0_4] 27)).alloc (.cells #[.int .i64 a1, .int .i64 c1] 29)).heap.size := by simp
    have kp0_0W0 : ((w.alloc (.cells #[.int .i64 a0, .int .i64 p0, f0_0, f0_1, f0_2, f0_3, f0_4] 27)).alloc (.cells #[.int .i64 a1, .int .i64 c1] 29)).cell? ⟨w.heap.size, 0, none⟩ = some (.int .i64 a0) := (World.cell?_alloc_past _ _ _ (by first | (simp; done) | (simp; omega))).trans (World.cell?_alloc_at _ _ _ _ (by simp))
    have kp0_1W0 : ((w.alloc (.cells #[.int .i64 a0, .int .i64 p0, f0_0, f0_1, f0_2, f0_3, f0_4] 27)).alloc (.cells #[.int .i64 a1, .int .i64 c1] 29)).cell? ⟨w.heap.size, 1, none⟩ = some (.int .i64 p0) := (World.cell?_alloc_past _ _ _ (by first | (simp; done) | (simp; omega))).trans (World.cell?_alloc_at _ _ _ _ (by simp))
    have kp0_2W0 : ((w.alloc (.cells #[.int .i64 a0, .int .i64 p0, f0_0, f0_1, f0_2, f0_3, f0_4] 27)).alloc (.cells #[.int .i64 a1, .int .i64 c1] 29)).cell? ⟨w.heap.size, 2, none⟩ = some (f0_0) := (World.cell?_alloc_past _ _ _ (by first | (simp; done) | (simp; omega))).trans (World.cell?_alloc_at _ _ _ _ (by simp))
    have kp0_3W0 : ((w.alloc (.cells #[.int .i64 a0, .int .i64 p0, f0_0, f0_1, f0_2, f0_3, f0_4] 27)).alloc (.cells #[.int .i64 a1, .int .i64 c1] 29)).cell? ⟨w.heap.size, 3, none⟩ = some (f0_1) := (World.cell?_alloc_past _ _ _ (by first | (simp; done) | (simp; omega))).trans (World.cell?_alloc_at _ _ _ _ (by simp))
    have kp0_4W0 : ((w.alloc (.cells #[.int .i64 a0, .int .i64 p0, f0_0, f0_1, f0_2, f0_3, f0_4] 27)).alloc (.cells #[.int .i64 a1, .int .i64 c1] 29)).cell? ⟨w.heap.size, 4, none⟩ = some (f0_2) := (World.cell?_alloc_past _ _ _ (by first | (simp; done) | (simp; omega))).trans (World.cell?_alloc_at _ _ _ _ (by simp))
    have kp0_5W0 : ((w.alloc (.cells #[.int .i64 a0, .int .i64 p0, f0_0, f0_1, f0_2, f0_3, f0_4] 27)).alloc (.cells #[.int .i64 a1, .int .i64 c1] 29)).cell? ⟨w.heap.size, 5, none⟩ = some (f0_3) := (World.cell?_alloc_past _ _ _ (by first | (simp; done) | (simp; omega))).trans (World.cell?_alloc_at _ _ _ _ (by simp))
    have kp0_6W0 : ((w.alloc (.cells #[.int .i64 a0, .int .i64 p0, f0_0, f0_1, f0_2, f0_3, f0_4] 27)).alloc (.cells #[.int .i64 a1, .int .i64 c1] 29)).cell? ⟨w.heap.size, 6, none⟩ = some (f0_4) := (World.cell?_alloc_past _ _ _ (by first | (simp; done) | (simp; omega))).trans (World.cell?_alloc_at _ _ _ _ (by simp))
    have kp1_0W0 : ((w.alloc (.cells #[.int .i64 a0, .int .i64 p0, f0_0, f0_1, f0_2, f0_3, f0_4] 27)).alloc (.cells #[.int .i64 a1, .int .i64 c1] 29)).cell? ⟨w.heap.size + 1, 0, none⟩ = some (.int .i64 a1) := World.cell?_alloc_at _ _ _ _ (by simp)
    have kp1_1W0 : ((w.alloc (.cells #[.int .i64 a0, .int .i64 p0, f0_0, f0_1, f0_2, f0_3, f0_4] 27)).alloc (.cells #[.int .i64 a1, .int .i64 c1] 29)).cell? ⟨w.heap.size + 1, 1, none⟩ = some (.int .i64 c1) := World.cell?_alloc_at _ _ _ _ (by simp)
    have A0W0 := sl.hid (HI0.out.chg (sl.Chg.ofBelow (lo := 0) bE) (.inr (Nat.zero_le _)))
    have CW0 := sl.hid bE
    clear bE HI0
    generalize ((w.alloc (.cells #[.int .i64 a0, .int .i64 p0, f0_0, f0_1, f0_2, f0_3, f0_4] 27)).alloc (.cells #[.int .i64 a1, .int .i64 c1] 29)) = W0 at *
    go_wp2_with fail
    refine (HZ0.out W0 _ A0W0.out).mono ?_
    rintro e W1 ⟨rfl, b1⟩
    have hzW1 : W0.heap.size ≤ W1.heap.size := b1.size
    have kp0_0W1 := (b1.cell (p := ⟨w.heap.size, 0, none⟩) (by show w.heap.size < W0.heap.size; omega)).trans kp0_0W0
    have kp0_1W1 := (b1.cell (p := ⟨w.heap.size, 1, none⟩) (by show w.heap.size < W0.heap.size; omega)).trans kp0_1W0
    have kp0_2W1 := (b1.cell (p := ⟨w.heap.size, 2, none⟩) (by show w.heap.size < W0.heap.size; omega)).trans kp0_2W0
    have kp0_3W1 := (b1.cell (p := ⟨w.heap.size, 3, none⟩) (by show w.heap.size < W0.heap.size; omega)).trans kp0_3W0
    have kp0_4W1 := (b1.cell (p := ⟨w.heap.size, 4, none⟩) (by show w.heap.size < W0.heap.size; omega)).trans kp0_4W0
    have kp0_5W1 := (b1.cell (p := ⟨w.heap.size, 5, none⟩) (by show w.heap.size < W0.heap.size; omega)).trans kp0_5W0
    have kp0_6W1 := (b1.cell (p := ⟨w.heap.size, 6, none⟩) (by show w.heap.size < W0.heap.size; omega)).trans kp0_6W0
    have kp1_0W1 := (b1.cell (p := ⟨w.heap.size + 1, 0, none⟩) (by show w.heap.size + 1 < W0.heap.size; omega)).trans kp1_0W0
    have kp1_1W1 := (b1.cell (p := ⟨w.heap.size + 1, 1, none⟩) (by show w.heap.size + 1 < W0.heap.size; omega)).trans kp1_1W0
    have A0W1 := sl.hid (A0W0.out.chg (sl.Chg.ofBelow (lo := 0) b1) (.inr (Nat.zero_le _)))
    have CW1 := sl.hid (CW0.out.trans (b1.mono (by show w.heap.size ≤ W0.heap.size; omega)))
    clear b1 kp0_0W0 kp0_1W0 kp0_2W0 kp0_3W0 kp0_4W0 kp0_5W0 kp0_6W0 kp1_0W0 kp1_1W0 A0W0 CW0
    go_wp2
    go_ret
    exact ⟨rfl, CW1.out⟩
  · have HQ0 := sl.hid (mc.small_of (by omega) (by omega) hzc0)
    have hzl0 := (mc.szV_bound (m := xs0) (left := 1048576) (by omega) hzc0).1
    generalize mc.szV 1048576 xs0 = z0 at *
    have SP : Hid (∀ (g0_0 : Value) (g0_1 : Value) (g0_2 : Value) (g0_3 : Value) (g0_4 : Value) (W : World) (B0 : Nat), mc.MInC W B0 g0_0 g0_1 g0_2 g0_3 g0_4 xs0 → B0 ≤ W.heap.size → Calls Try.prog 12 #[.agg #[.int .i64 a0, .int .i64 p0, g0_0, g0_1, g0_2, g0_3, g0_4], .agg #[.int .i64 a1, .int .i64 c1]] W fun e w' => e = .returned (.tuple #[.agg #[.int .i64 (mc.facB a0 p0 xs0 a1 c1), .int .i64 (mc.facA a0 p0 xs0 a1 c1)], .bool (mc.facG a0 p0 xs0 a1 c1)]) ∧ Below W.heap.size W w') := sl.hid (fun g0_0 g0_1 g0_2 g0_3 g0_4 W B0 j0 l0 => mc.specFac a0 p0 xs0 a1 c1 g0_0 g0_1 g0_2 g0_3 g0_4 B0 W j0 l0 HQ0.out )
    have IP : Hid (∀ (g0_0 : Value) (g0_1 : Value) (g0_2 : Value) (g0_3 : Value) (g0_4 : Value) (W : World) (B0 : Nat), mc.MInC W B0 g0_0 g0_1 g0_2 g0_3 g0_4 xs0 → B0 ≤ W.heap.size → Calls Try.prog 15 #[.agg #[.int .i64 a0, .int .i64 p0, g0_0, g0_1, g0_2, g0_3, g0_4], .agg #[.int .i64 a1, .int .i64 c1]] W fun e w' => e = .returned (.tuple #[.agg #[.int .i64 (mc.facB a0 p0 xs0 a1 c1), .int .i64 (mc.facA a0 p0 xs0 a1 c1)], .bool (mc.facG a0 p0 xs0 a1 c1)]) ∧ Below W.heap.size W w') := sl.hid (fun g0_0 g0_1 g0_2 g0_3 g0_4 W B0 j0 l0 => mc.implFac a0 p0 xs0 a1 c1 g0_0 g0_1 g0_2 g0_3 g0_4 B0 W j0 l0 HQ0.out )
    generalize mc.facB a0 p0 xs0 a1 c1 = q0x at *
    generalize mc.facA a0 p0 xs0 a1 c1 = q0y at *
    generalize mc.facG a0 p0 xs0 a1 c1 = q1 at *
    clear hi0 ha0 hp0 ha1 hc1
    go_enter Try.func3, Try.ntmps3
    go_wp2_with fail
    have bE : Below w.heap.size w ((w.alloc (.cells #[.int .i64 a0, .int .i64 p0, f0_0, f0_1, f0_2, f0_3, f0_4] 27)).alloc (.cells #[.int .i64 a1, .int .i64 c1] 29)) := (((Below.refl w.heap.size w).alloc (by simp) _).alloc (by simp) _)
    have hzW0 : w.heap.size + 2 ≤ ((w.alloc (.cells #[.int .i64 a0, .int .i64 p0, f0_0, f0_1, f0_2, f0_3, f0_4] 27)).alloc (.cells #[.int .i64 a1, .int .i64 c1] 29)).heap.size := by simp
    have kp0_0W0 : ((w.alloc (.cells #[.int .i64 a0, .int .i64 p0, f0_0, f0_1, f0_2, f0_3, f0_4] 27)).alloc (.cells #[.int .i64 a1, .int .i64 c1] 29)).cell? ⟨w.heap.size, 0, none⟩ = some (.int .i64 a0) := (World.cell?_alloc_past _ _ _ (by first | (simp; done) | (simp; omega))).trans (World.cell?_alloc_at _ _ _ _ (by simp))
    have kp0_1W0 : ((w.alloc (.cells #[.int .i64 a0, .int .i64 p0, f0_0, f0_1, f0_2, f0_3, f0_4] 27)).alloc (.cells #[.int .i64 a1, .int .i64 c1] 29)).cell? ⟨w.heap.size, 1, none⟩ = some (.int .i64 p0) := (World.cell?_alloc_past _ _ _ (by first | (simp; done) | (simp; omega))).trans (World.cell?_alloc_at _ _ _ _ (by simp))
    have kp0_2W0 : ((w.alloc (.cells #[.int .i64 a0, .int .i64 p0, f0_0, f0_1, f0_2, f0_3, f0_4] 27)).alloc (.cells #[.int .i64 a1, .int .i64 c1] 29)).cell? ⟨w.heap.size, 2, none⟩ = some (f0_0) := (World.cell?_alloc_past _ _ _ (by first | (simp; done) | (simp; omega))).trans (World.cell?_alloc_at _ _ _ _ (by simp))
    have kp0_3W0 : ((w.alloc (.cells #[.int .i64 a0, .int .i64 p0, f0_0, f0_1, f0_2, f0_3, f0_4] 27)).alloc (.cells #[.int .i64 a1, .int .i64 c1] 29)).cell? ⟨w.heap.size, 3, none⟩ = some (f0_1) := (World.cell?_alloc_past _ _ _ (by first | (simp; done) | (simp; omega))).trans (World.cell?_alloc_at _ _ _ _ (by simp))
    have kp0_4W0 : ((w.alloc (.cells #[.int .i64 a0, .int .i64 p0, f0_0, f0_1, f0_2, f0_3, f0_4] 27)).alloc (.cells #[.int .i64 a1, .int .i64 c1] 29)).cell? ⟨w.heap.size, 4, none⟩ = some (f0_2) := (World.cell?_alloc_past _ _ _ (by first | (simp; done) | (simp; omega))).trans (World.cell?_alloc_at _ _ _ _ (by simp))
    have kp0_5W0 : ((w.alloc (.cells #[.int .i64 a0, .int .i64 p0, f0_0, f0_1, f0_2, f0_3, f0_4] 27)).alloc (.cells #[.int .i64 a1, .int .i64 c1] 29)).cell? ⟨w.heap.size, 5, none⟩ = some (f0_3) := (World.cell?_alloc_past _ _ _ (by first | (simp; done) | (simp; omega))).trans (World.cell?_alloc_at _ _ _ _ (by simp))
    have kp0_6W0 : ((w.alloc (.cells #[.int .i64 a0, .int .i64 p0, f0_0, f0_1, f0_2, f0_3, f0_4] 27)).alloc (.cells #[.int .i64 a1, .int .i64 c1] 29)).cell? ⟨w.heap.size, 6, none⟩ = some (f0_4) := (World.cell?_alloc_past _ _ _ (by first | (simp; done) | (simp; omega))).trans (World.cell?_alloc_at _ _ _ _ (by simp))
    have kp1_0W0 : ((w.alloc (.cells #[.int .i64 a0, .int .i64 p0, f0_0, f0_1, f0_2, f0_3, f0_4] 27)).alloc (.cells #[.int .i64 a1, .int .i64 c1] 29)).cell? ⟨w.heap.size + 1, 0, none⟩ = some (.int .i64 a1) := World.cell?_alloc_at _ _ _ _ (by simp)
    have kp1_1W0 : ((w.alloc (.cells #[.int .i64 a0, .int .i64 p0, f0_0, f0_1, f0_2, f0_3, f0_4] 27)).alloc (.cells #[.int .i64 a1, .int .i64 c1] 29)).cell? ⟨w.heap.size + 1, 1, none⟩ = some (.int .i64 c1) := World.cell?_alloc_at _ _ _ _ (by simp)
    have A0W0 := sl.hid (HI0.out.chg (sl.Chg.ofBelow (lo := 0) bE) (.inr (Nat.zero_le _)))
    have CW0 := sl.hid bE
    clear bE HI0
    generalize ((w.alloc (.cells #[.int .i64 a0, .int .i64 p0, f0_0, f0_1, f0_2, f0_3, f0_4] 27)).alloc (.cells #[.int .i64 a1, .int .i64 c1] 29)) = W0 at *
    go_wp2_with fail
    refine (HZ0.out W0 _ A0W0.out).mono ?_
    rintro e W2 ⟨rfl, b2⟩
    have hzW2 : W0.heap.size ≤ W2.heap.size := b2.size
    have kp0_0W2 := (b2.cell (p := ⟨w.heap.size, 0, none⟩) (by show w.heap.size < W0.heap.size; omega)).trans kp0_0W0
    have kp0_1W2 := (b2.cell (p := ⟨w.heap.size, 1, none⟩) (by show w.heap.size < W0.heap.size; omega)).trans kp0_1W0
    have kp0_2W2 := (b2.cell (p := ⟨w.heap.size, 2, none⟩) (by show w.heap.size < W0.heap.size; omega)).trans kp0_2W0
    have kp0_3W2 := (b2.cell (p := ⟨w.heap.size, 3, none⟩) (by show w.heap.size < W0.heap.size; omega)).trans kp0_3W0
    have kp0_4W2 := (b2.cell (p := ⟨w.heap.size, 4, none⟩) (by show w.heap.size < W0.heap.size; omega)).trans kp0_4W0
    have kp0_5W2 := (b2.cell (p := ⟨w.heap.size, 5, none⟩) (by show w.heap.size < W0.heap.size; omega)).trans kp0_5W0
    have kp0_6W2 := (b2.cell (p := ⟨w.heap.size, 6, none⟩) (by show w.heap.size < W0.heap.size; omega)).trans kp0_6W0
    have kp1_0W2 := (b2.cell (p := ⟨w.heap.size + 1, 0, none⟩) (by show w.heap.size + 1 < W0.heap.size; omega)).trans kp1_0W0
    have kp1_1W2 := (b2.cell (p := ⟨w.heap.size + 1, 1, none⟩) (by show w.heap.size + 1 < W0.heap.size; omega)).trans kp1_1W0
    have A0W2 := sl.hid (A0W0.out.chg (sl.Chg.ofBelow (lo := 0) b2) (.inr (Nat.zero_le _)))
    have CW2 := sl.hid (CW0.out.trans (b2.mono (by show w.heap.size ≤ W0.heap.size; omega)))
    clear b2 kp0_0W0 kp0_1W0 kp0_2W0 kp0_3W0 kp0_4W0 kp0_5W0 kp0_6W0 kp1_0W0 kp1_1W0 A0W0 CW0
    go_upto_region 5 with fail
    have HKW2 : Hid (mc.FK (fun X : World => mc.MIn X w.heap.size f0_0 f0_1 f0_2 f0_3 f0_4 xs0) W2 W2 (w.heap.size) (w.heap.size + 1) a0 p0 (f0_0) (f0_1) (f0_2) (f0_3) (f0_4) a1 c1) := sl.hid ⟨kp0_0W2, kp0_1W2, kp0_2W2, kp0_3W2, kp0_4W2, kp0_5W2, kp0_6W2, kp1_0W2, kp1_1W2, by omega, by omega, Nat.le_refl _, A0W2.out, fun X X' h b => h.below b, Below.refl _ _⟩
    have TMW2 : Hid (∀ X : World, mc.FK (fun X : World => mc.MIn X w.heap.size f0_0 f0_1 f0_2 f0_3 f0_4 xs0) W2 X (w.heap.size) (w.heap.size + 1) a0 p0 (f0_0) (f0_1) (f0_2) (f0_3) (f0_4) a1 c1 → Calls Try.prog 13 #[.agg #[.int .i64 a0, .int .i64 p0, f0_0, f0_1, f0_2, f0_3, f0_4]] X fun e X' => ∃ g0 g1 g2 g3 g4, e = .returned (.agg #[.int .i64 a0, .int .i64 p0, g0, g1, g2, g3, g4]) ∧ mc.Cq X' g0 g1 g2 g3 g4 xs0 ∧ Below X.heap.size X X') := sl.hid (fun X kk => (mc.toM a0 p0 xs0 f0_0 f0_1 f0_2 f0_3 f0_4 _ X kk.j (by have := kk.lm; omega) HQ0.out).mono (by rintro e X2 ⟨g0, g1, g2, g3, g4, rfl, o, b⟩; exact ⟨g0, g1, g2, g3, g4, rfl, ⟨_, Nat.le_refl _, o.c⟩, b⟩))
    have JPW2 : Hid (∀ (X : World) (g0 g1 g2 g3 g4 : Value), mc.Cq X g0 g1 g2 g3 g4 xs0 → Calls Try.prog 12 #[.agg #[.int .i64 a0, .int .i64 p0, g0, g1, g2, g3, g4], .agg #[.int .i64 a1, .int .i64 c1]] X fun e X' => e = .returned (.tuple #[.agg #[.int .i64 q0x, .int .i64 q0y], .bool q1]) ∧ Below X.heap.size X X') := sl.hid (fun X g0 g1 g2 g3 g4 kk => by obtain ⟨B, hB, h⟩ := kk; exact SP.out g0 g1 g2 g3 g4 X B h hB)
    have hnmW2 : ¬ (w.heap.size = W2.heap.size) := by omega
    have hvmW2 : ¬ (W2.heap.size = w.heap.size) := by omega
    have hndW2 : ¬ (w.heap.size + 1 = W2.heap.size) := by omega
    have hvdW2 : ¬ (W2.heap.size = w.heap.size + 1) := by omega
    go_cut [6, 7] from 16 to 23 (fun p q wc => ∃ g : Nat, p = .pointer (some ⟨g, 0, none⟩) ∧ q = .bool q1 ∧ mc.Rf W2 q0x q0y g wc)
    case first =>
      go_region_held3 (fun w' => w'.cell? ⟨w.heap.size, 0, none⟩ = some (.int .i64 a0) ∧ w'.cell? ⟨w.heap.size, 1, none⟩ = some (.int .i64 p0) ∧ w'.cell? ⟨w.heap.size, 2, none⟩ = some (f0_0) ∧ w'.cell? ⟨w.heap.size, 3, none⟩ = some (f0_1) ∧ w'.cell? ⟨w.heap.size, 4, none⟩ = some (f0_2) ∧ w'.cell? ⟨w.heap.size, 5, none⟩ = some (f0_3) ∧ w'.cell? ⟨w.heap.size, 6, none⟩ = some (f0_4) ∧ w'.cell? ⟨w.heap.size + 1, 0, none⟩ = some (.int .i64 a1) ∧ w'.cell? ⟨w.heap.size + 1, 1, none⟩ = some (.int .i64 c1)) (go_keep)
        (first
          | (go_at_call_of 13 (Value.agg #[.int .i64 a0, .int .i64 p0, f0_0, f0_1, f0_2, f0_3, f0_4])
             have hchk := HTY1
             refine (TMW2.out _ ?_).mono ?_
             · (first | exact HKA.out | exact HKA.out.drew | exact HKA.out.alloc _ | exact (HKA.out.alloc _).drew | exact (HKA.out.drew).alloc _)
             rintro e Y2 ⟨gc0, gc1, gc2, gc3, gc4, rfl, ic, bb⟩
             have HCY2 := sl.hid ic
             clear ic
             have HKB := sl.hid ((show mc.FK (fun X : World => mc.MIn X w.heap.size f0_0 f0_1 f0_2 f0_3 f0_4 xs0) W2 _ (w.heap.size) (w.heap.size + 1) a0 p0 (f0_0) (f0_1) (f0_2) (f0_3) (f0_4) a1 c1 from by (first | exact HKA.out | exact HKA.out.drew | exact HKA.out.alloc _ | exact (HKA.out.alloc _).drew | exact (HKA.out.drew).alloc _)).below bb)
             obtain ⟨hcY2, hfY2⟩ := br.bcell bb
             have hzY2 := bb.size
             obtain ⟨rY2_0, rY2_1, rY2_2, rY2_3, rY2_4, rY2_5, rY2_6, rY2_7, rY2_8, hlmY2, hldY2, hlsY2, hjjY2, hstY2, hblY2⟩ := HKB.out
             clear hjjY2 hstY2 hblY2
             have hnmY2 : ¬ (w.heap.size = Y2.heap.size) := by omega
             have hvmY2 : ¬ (Y2.heap.size = w.heap.size) := by omega
             have hndY2 : ¬ (w.heap.size + 1 = Y2.heap.size) := by omega
             have hvdY2 : ¬ (Y2.heap.size = w.heap.size + 1) := by omega
             try simp at hcY2
             try simp at hfY2
             try simp at hzY2
             try have hqW2Y2 : W2.heap.size < Y2.heap.size := by omega
             try have hqY1Y2 : Y1.heap.size < Y2.heap.size := by omega
             try have hrY2 : Y1.heap.size ≤ Y2.heap.size := by first | exact hzY2 | omega
             clear bb hchk)
          | (go_at_call_of 14 (Value.agg #[.int .i64 a1, .int .i64 c1])
             have hchk := HCY1
             refine (l5.toD a1 c1 _).mono ?_
             rintro e Y2 ⟨rfl, bb⟩
             have HTY2 := sl.hid True.intro
             have HCY2 := sl.hid ((show mc.Cq _ gc0 gc1 gc2 gc3 gc4 xs0 from by (first | exact HCY1.out | exact HCY1.out.drew | exact HCY1.out.alloc _ | exact (HCY1.out.alloc _).drew | exact (HCY1.out.drew).alloc _)).below bb)
             have HKB := sl.hid ((show mc.FK (fun X : World => mc.MIn X w.heap.size f0_0 f0_1 f0_2 f0_3 f0_4 xs0) W2 _ (w.heap.size) (w.heap.size + 1) a0 p0 (f0_0) (f0_1) (f0_2) (f0_3) (f0_4) a1 c1 from by (first | exact HKA.out | exact HKA.out.drew | exact HKA.out.alloc _ | exact (HKA.out.alloc _).drew | exact (HKA.out.drew).alloc _)).below bb)
             obtain ⟨hcY2, hfY2⟩ := br.bcell bb
             have hzY2 := bb.size
             obtain ⟨rY2_0, rY2_1, rY2_2, rY2_3, rY2_4, rY2_5, rY2_6, rY2_7, rY2_8, hlmY2, hldY2, hlsY2, hjjY2, hstY2, hblY2⟩ := HKB.out
             clear hjjY2 hstY2 hblY2
             have hnmY2 : ¬ (w.heap.size = Y2.heap.size) := by omega
             have hvmY2 : ¬ (Y2.heap.size = w.heap.size) := by omega
             have hndY2 : ¬ (w.heap.size + 1 = Y2.heap.size) := by omega
             have hvdY2 : ¬ (Y2.heap.size = w.heap.size + 1) := by omega
             try simp at hcY2
             try simp at hfY2
             try simp at hzY2
             try have hqW2Y2 : W2.heap.size < Y2.heap.size := by omega
             try have hqY1Y2 : Y1.heap.size < Y2.heap.size := by omega
             try have hrY2 : Y1.heap.size ≤ Y2.heap.size := by first | exact hzY2 | omega
             clear bb hchk)
          | (go_at_call_of 13 (Value.agg #[.int .i64 a0, .int .i64 p0, f0_0, f0_1, f0_2, f0_3, f0_4])
             refine (TMW2.out _ ?_).mono ?_
             · (first | exact HKW2.out | exact HKW2.out.drew | exact HKW2.out.alloc _ | exact (HKW2.out.alloc _).drew | exact (HKW2.out.drew).alloc _)
             rintro e Y1 ⟨gc0, gc1, gc2, gc3, gc4, rfl, ic, bb⟩
             have HCY1 := sl.hid ic
             clear ic
             have HKA := sl.hid ((show mc.FK (fun X : World => mc.MIn X w.heap.size f0_0 f0_1 f0_2 f0_3 f0_4 xs0) W2 _ (w.heap.size) (w.heap.size + 1) a0 p0 (f0_0) (f0_1) (f0_2) (f0_3) (f0_4) a1 c1 from by (first | exact HKW2.out | exact HKW2.out.drew | exact HKW2.out.alloc _ | exact (HKW2.out.alloc _).drew | exact (HKW2.out.drew).alloc _)).below bb)
             obtain ⟨hcY1, hfY1⟩ := br.bcell bb
             have hzY1 := bb.size
             obtain ⟨rY1_0, rY1_1, rY1_2, rY1_3, rY1_4, rY1_5, rY1_6, rY1_7, rY1_8, hlmY1, hldY1, hlsY1, hjjY1, hstY1, hblY1⟩ := HKA.out
             clear hjjY1 hstY1 hblY1
             have hnmY1 : ¬ (w.heap.size = Y1.heap.size) := by omega
             have hvmY1 : ¬ (Y1.heap.size = w.heap.size) := by omega
             have hndY1 : ¬ (w.heap.size + 1 = Y1.heap.size) := by omega
             have hvdY1 : ¬ (Y1.heap.size = w.heap.size + 1) := by omega
             try simp at hcY1
             try simp at hfY1
             try simp at hzY1
             try have hqW2Y1 : W2.heap.size < Y1.heap.size := by omega
             try have hrY1 : W2.heap.size ≤ Y1.heap.size := by first | exact hzY1 | omega
             clear bb)
          | (go_at_call_of 14 (Value.agg #[.int .i64 a1, .int .i64 c1])
             refine (l5.toD a1 c1 _).mono ?_
             rintro e Y1 ⟨rfl, bb⟩
             have HTY1 := sl.hid True.intro
             have HKA := sl.hid ((show mc.FK (fun X : World => mc.MIn X w.heap.size f0_0 f0_1 f0_2 f0_3 f0_4 xs0) W2 _ (w.heap.size) (w.heap.size + 1) a0 p0 (f0_0) (f0_1) (f0_2) (f0_3) (f0_4) a1 c1 from by (first | exact HKW2.out | exact HKW2.out.drew | exact HKW2.out.alloc _ | exact (HKW2.out.alloc _).drew | exact (HKW2.out.drew).alloc _)).below bb)
             obtain ⟨hcY1, hfY1⟩ := br.bcell bb
             have hzY1 := bb.size
             obtain ⟨rY1_0, rY1_1, rY1_2, rY1_3, rY1_4, rY1_5, rY1_6, rY1_7, rY1_8, hlmY1, hldY1, hlsY1, hjjY1, hstY1, hblY1⟩ := HKA.out
             clear hjjY1 hstY1 hblY1
             have hnmY1 : ¬ (w.heap.size = Y1.heap.size) := by omega
             have hvmY1 : ¬ (Y1.heap.size = w.heap.size) := by omega
             have hndY1 : ¬ (w.heap.size + 1 = Y1.heap.size) := by omega
             have hvdY1 : ¬ (Y1.heap.size = w.heap.size + 1) := by omega
             try simp at hcY1
             try simp at hfY1
             try simp at hzY1
             try have hqW2Y1 : W2.heap.size < Y1.heap.size := by omega
             try have hrY1 : W2.heap.size ≤ Y1.heap.size := by first | exact hzY1 | omega
             clear bb)
          | (go_at_call 12
             refine (JPW2.out _ _ _ _ _ _ ?_).mono ?_
             · (first | exact HCY2.out | exact HCY2.out.drew | exact HCY2.out.alloc _ | exact (HCY2.out.alloc _).drew | exact (HCY2.out.drew).alloc _)
             rintro e Y3 ⟨rfl, bb⟩
             have HKC := sl.hid ((show mc.FK (fun X : World => mc.MIn X w.heap.size f0_0 f0_1 f0_2 f0_3 f0_4 xs0) W2 _ (w.heap.size) (w.heap.size + 1) a0 p0 (f0_0) (f0_1) (f0_2) (f0_3) (f0_4) a1 c1 from by (first | exact HKB.out | exact HKB.out.drew | exact HKB.out.alloc _ | exact (HKB.out.alloc _).drew | exact (HKB.out.drew).alloc _)).below bb)
             obtain ⟨hcY3, hfY3⟩ := br.bcell bb
             have hzY3 := bb.size
             obtain ⟨rY3_0, rY3_1, rY3_2, rY3_3, rY3_4, rY3_5, rY3_6, rY3_7, rY3_8, hlmY3, hldY3, hlsY3, hjjY3, hstY3, hblY3⟩ := HKC.out
             clear hjjY3 hstY3 hblY3
             have hnmY3 : ¬ (w.heap.size = Y3.heap.size) := by omega
             have hvmY3 : ¬ (Y3.heap.size = w.heap.size) := by omega
             have hndY3 : ¬ (w.heap.size + 1 = Y3.heap.size) := by omega
             have hvdY3 : ¬ (Y3.heap.size = w.heap.size + 1) := by omega
             try simp at hcY3
             try simp at hfY3
             try simp at hzY3
             try have hqW2Y3 : W2.heap.size < Y3.heap.size := by omega
             try have hqY1Y3 : Y1.heap.size < Y3.heap.size := by omega
             try have hqY2Y3 : Y2.heap.size < Y3.heap.size := by omega
             try have hrY3 : Y2.heap.size ≤ Y3.heap.size := by first | exact hzY3 | omega
             clear bb))
      all_goals
        go_wp2_with fail
        go_meet
        first
          | exact ⟨_, rfl, rfl, mc.rfA HKC.out.bl⟩
          | exact ⟨_, rfl, rfl, mc.rfB HKC.out.bl W2.heap.size (by first | omega | (simp; done) | (simp; omega)) (by first | omega | (simp; done) | (simp; omega)) ((hcY3 _ _ (by first | omega | (simp; done) | (simp; omega))).trans ((hcY2 _ _ (by first | omega | (simp; done) | (simp; omega))).trans ((hcY1 _ _ (by first | omega | (simp; done) | (simp; omega))).trans (World.cell?_alloc_at _ _ _ _ rfl)))) ((hcY3 _ _ (by first | omega | (simp; done) | (simp; omega))).trans ((hcY2 _ _ (by first | omega | (simp; done) | (simp; omega))).trans ((hcY1 _ _ (by first | omega | (simp; done) | (simp; omega))).trans (World.cell?_alloc_at _ _ _ _ rfl))))⟩
          | exact ⟨_, rfl, rfl, mc.rfB HKC.out.bl Y1.heap.size (by first | omega | (simp; done) | (simp; omega)) (by first | omega | (simp; done) | (simp; omega)) ((hcY3 _ _ (by first | omega | (simp; done) | (simp; omega))).trans ((hcY2 _ _ (by first | omega | (simp; done) | (simp; omega))).trans (World.cell?_alloc_at _ _ _ _ rfl))) ((hcY3 _ _ (by first | omega | (simp; done) | (simp; omega))).trans ((hcY2 _ _ (by first | omega | (simp; done) | (simp; omega))).trans (World.cell?_alloc_at _ _ _ _ rfl)))⟩
          | exact ⟨_, rfl, rfl, mc.rfB HKC.out.bl Y2.heap.size (by first | omega | (simp; done) | (simp; omega)) (by first | omega | (simp; done) | (simp; omega)) ((hcY3 _ _ (by first | omega | (simp; done) | (simp; omega))).trans (World.cell?_alloc_at _ _ _ _ rfl)) ((hcY3 _ _ (by first | omega | (simp; done) | (simp; omega))).trans (World.cell?_alloc_at _ _ _ _ rfl))⟩
    case rest =>
      obtain ⟨g3, rfl, rfl, c03, c13, hg3, hk3, b3⟩ := hcut
      generalize wc = W3 at *
      have hzW3 : W2.heap.size ≤ W3.heap.size := b3.size
      have kp0_0W3 := (b3.cell (p := ⟨w.heap.size, 0, none⟩) (by show w.heap.size < W2.heap.size; omega)).trans kp0_0W2
      have kp0_1W3 := (b3.cell (p := ⟨w.heap.size, 1, none⟩) (by show w.heap.size < W2.heap.size; omega)).trans kp0_1W2
      have kp0_2W3 := (b3.cell (p := ⟨w.heap.size, 2, none⟩) (by show w.heap.size < W2.heap.size; omega)).trans kp0_2W2
      have kp0_3W3 := (b3.cell (p := ⟨w.heap.size, 3, none⟩) (by show w.heap.size < W2.heap.size; omega)).trans kp0_3W2
      have kp0_4W3 := (b3.cell (p := ⟨w.heap.size, 4, none⟩) (by show w.heap.size < W2.heap.size; omega)).trans kp0_4W2
      have kp0_5W3 := (b3.cell (p := ⟨w.heap.size, 5, none⟩) (by show w.heap.size < W2.heap.size; omega)).trans kp0_5W2
      have kp0_6W3 := (b3.cell (p := ⟨w.heap.size, 6, none⟩) (by show w.heap.size < W2.heap.size; omega)).trans kp0_6W2
      have kp1_0W3 := (b3.cell (p := ⟨w.heap.size + 1, 0, none⟩) (by show w.heap.size + 1 < W2.heap.size; omega)).trans kp1_0W2
      have kp1_1W3 := (b3.cell (p := ⟨w.heap.size + 1, 1, none⟩) (by show w.heap.size + 1 < W2.heap.size; omega)).trans kp1_1W2
      have A0W3 := sl.hid (A0W2.out.chg (sl.Chg.ofBelow (lo := 0) b3) (.inr (Nat.zero_le _)))
      have CW3 := sl.hid (CW2.out.trans (b3.mono (by show w.heap.size ≤ W2.heap.size; omega)))
      clear b3 kp0_0W2 kp0_1W2 kp0_2W2 kp0_3W2 kp0_4W2 kp0_5W2 kp0_6W2 kp1_0W2 kp1_1W2 A0W2 CW2 HKW2 TMW2 JPW2
      go_wp2_with fail
      refine (mc.toM a0 p0 xs0 f0_0 f0_1 f0_2 f0_3 f0_4 _ W3 A0W3.out (by omega) HQ0.out).mono ?_
      rintro e W4 ⟨f0_0_4, f0_1_4, f0_2_4, f0_3_4, f0_4_4, rfl, o4, b4⟩
      obtain ⟨ao4_0, ln4_0, cp4_0, rfl⟩ := mc.val0 o4
      obtain ⟨ao4_1, ln4_1, cp4_1, rfl⟩ := mc.val1 o4
      obtain ⟨ao4_2, ln4_2, cp4_2, rfl⟩ := mc.val2 o4
      obtain ⟨ao4_3, ln4_3, cp4_3, rfl⟩ := mc.val3 o4
      obtain ⟨ao4_4, ln4_4, cp4_4, rfl⟩ := mc.val4 o4
      have On4 := sl.hid o4
      clear o4
      have hzW4 : W3.heap.size ≤ W4.heap.size := b4.size
      have kp0_0W4 := (b4.cell (p := ⟨w.heap.size, 0, none⟩) (by show w.heap.size < W3.heap.size; omega)).trans kp0_0W3
      have kp0_1W4 := (b4.cell (p := ⟨w.heap.size, 1, none⟩) (by show w.heap.size < W3.heap.size; omega)).trans kp0_1W3
      have kp0_2W4 := (b4.cell (p := ⟨w.heap.size, 2, none⟩) (by show w.heap.size < W3.heap.size; omega)).trans kp0_2W3
      have kp0_3W4 := (b4.cell (p := ⟨w.heap.size, 3, none⟩) (by show w.heap.size < W3.heap.size; omega)).trans kp0_3W3
      have kp0_4W4 := (b4.cell (p := ⟨w.heap.size, 4, none⟩) (by show w.heap.size < W3.heap.size; omega)).trans kp0_4W3
      have kp0_5W4 := (b4.cell (p := ⟨w.heap.size, 5, none⟩) (by show w.heap.size < W3.heap.size; omega)).trans kp0_5W3
      have kp0_6W4 := (b4.cell (p := ⟨w.heap.size, 6, none⟩) (by show w.heap.size < W3.heap.size; omega)).trans kp0_6W3
      have kp1_0W4 := (b4.cell (p := ⟨w.heap.size + 1, 0, none⟩) (by show w.heap.size + 1 < W3.heap.size; omega)).trans kp1_0W3
      have kp1_1W4 := (b4.cell (p := ⟨w.heap.size + 1, 1, none⟩) (by show w.heap.size + 1 < W3.heap.size; omega)).trans kp1_1W3
      have krS_0W4 := (b4.cell (p := ⟨g3, 0, none⟩) (by show g3 < W3.heap.size; omega)).trans c03
      have krS_1W4 := (b4.cell (p := ⟨g3, 1, none⟩) (by show g3 < W3.heap.size; omega)).trans c13
      have A0W4 := sl.hid (A0W3.out.chg (sl.Chg.ofBelow (lo := 0) b4) (.inr (Nat.zero_le _)))
      have CW4 := sl.hid (CW3.out.trans (b4.mono (by show w.heap.size ≤ W3.heap.size; omega)))
      clear b4 kp0_0W3 kp0_1W3 kp0_2W3 kp0_3W3 kp0_4W3 kp0_5W3 kp0_6W3 kp1_0W3 kp1_1W3 c03 c13 A0W3 CW3
      have bE : Below W4.heap.size W4 (W4.alloc (.cells #[.int .i64 a0, .int .i64 p0, .slice ao4_0 ln4_0 cp4_0, .slice ao4_1 ln4_1 cp4_1, .slice ao4_2 ln4_2 cp4_2, .slice ao4_3 ln4_3 cp4_3, .slice ao4_4 ln4_4 cp4_4] 37)) := (Below.refl _ _).alloc (Nat.le_refl _) _
      have kx0_0W5 : (W4.alloc (.cells #[.int .i64 a0, .int .i64 p0, .slice ao4_0 ln4_0 cp4_0, .slice ao4_1 ln4_1 cp4_1, .slice ao4_2 ln4_2 cp4_2, .slice ao4_3 ln4_3 cp4_3, .slice ao4_4 ln4_4 cp4_4] 37)).cell? ⟨W4.heap.size, 0, none⟩ = some (.int .i64 a0) := World.cell?_alloc_at _ _ _ _ rfl
      have kx0_1W5 : (W4.alloc (.cells #[.int .i64 a0, .int .i64 p0, .slice ao4_0 ln4_0 cp4_0, .slice ao4_1 ln4_1 cp4_1, .slice ao4_2 ln4_2 cp4_2, .slice ao4_3 ln4_3 cp4_3, .slice ao4_4 ln4_4 cp4_4] 37)).cell? ⟨W4.heap.size, 1, none⟩ = some (.int .i64 p0) := World.cell?_alloc_at _ _ _ _ rfl
      have kx0_2W5 : (W4.alloc (.cells #[.int .i64 a0, .int .i64 p0, .slice ao4_0 ln4_0 cp4_0, .slice ao4_1 ln4_1 cp4_1, .slice ao4_2 ln4_2 cp4_2, .slice ao4_3 ln4_3 cp4_3, .slice ao4_4 ln4_4 cp4_4] 37)).cell? ⟨W4.heap.size, 2, none⟩ = some (.slice ao4_0 ln4_0 cp4_0) := World.cell?_alloc_at _ _ _ _ rfl
      have kx0_3W5 : (W4.alloc (.cells #[.int .i64 a0, .int .i64 p0, .slice ao4_0 ln4_0 cp4_0, .slice ao4_1 ln4_1 cp4_1, .slice ao4_2 ln4_2 cp4_2, .slice ao4_3 ln4_3 cp4_3, .slice ao4_4 ln4_4 cp4_4] 37)).cell? ⟨W4.heap.size, 3, none⟩ = some (.slice ao4_1 ln4_1 cp4_1) := World.cell?_alloc_at _ _ _ _ rfl
      have kx0_4W5 : (W4.alloc (.cells #[.int .i64 a0, .int .i64 p0, .slice ao4_0 ln4_0 cp4_0, .slice ao4_1 ln4_1 cp4_1, .slice ao4_2 ln4_2 cp4_2, .slice ao4_3 ln4_3 cp4_3, .slice ao4_4 ln4_4 cp4_4] 37)).cell? ⟨W4.heap.size, 4, none⟩ = some (.slice ao4_2 ln4_2 cp4_2) := World.cell?_alloc_at _ _ _ _ rfl
      have kx0_5W5 : (W4.alloc (.cells #[.int .i64 a0, .int .i64 p0, .slice ao4_0 ln4_0 cp4_0, .slice ao4_1 ln4_1 cp4_1, .slice ao4_2 ln4_2 cp4_2, .slice ao4_3 ln4_3 cp4_3, .slice ao4_4 ln4_4 cp4_4] 37)).cell? ⟨W4.heap.size, 5, none⟩ = some (.slice ao4_3 ln4_3 cp4_3) := World.cell?_alloc_at _ _ _ _ rfl
      have kx0_6W5 : (W4.alloc (.cells #[.int .i64 a0, .int .i64 p0, .slice ao4_0 ln4_0 cp4_0, .slice ao4_1 ln4_1 cp4_1, .slice ao4_2 ln4_2 cp4_2, .slice ao4_3 ln4_3 cp4_3, .slice ao4_4 ln4_4 cp4_4] 37)).cell? ⟨W4.heap.size, 6, none⟩ = some (.slice ao4_4 ln4_4 cp4_4) := World.cell?_alloc_at _ _ _ _ rfl
      have hsW5 : W4.heap.size < (W4.alloc (.cells #[.int .i64 a0, .int .i64 p0, .slice ao4_0 ln4_0 cp4_0, .slice ao4_1 ln4_1 cp4_1, .slice ao4_2 ln4_2 cp4_2, .slice ao4_3 ln4_3 cp4_3, .slice ao4_4 ln4_4 cp4_4] 37)).heap.size := by simp
      have hzW5 : W4.heap.size ≤ (W4.alloc (.cells #[.int .i64 a0, .int .i64 p0, .slice ao4_0 ln4_0 cp4_0, .slice ao4_1 ln4_1 cp4_1, .slice ao4_2 ln4_2 cp4_2, .slice ao4_3 ln4_3 cp4_3, .slice ao4_4 ln4_4 cp4_4] 37)).heap.size := bE.size
      have kp0_0W5 := (bE.cell (p := ⟨w.heap.size, 0, none⟩) (by show w.heap.size < W4.heap.size; omega)).trans kp0_0W4
      have kp0_1W5 := (bE.cell (p := ⟨w.heap.size, 1, none⟩) (by show w.heap.size < W4.heap.size; omega)).trans kp0_1W4
      have kp0_2W5 := (bE.cell (p := ⟨w.heap.size, 2, none⟩) (by show w.heap.size < W4.heap.size; omega)).trans kp0_2W4
      have kp0_3W5 := (bE.cell (p := ⟨w.heap.size, 3, none⟩) (by show w.heap.size < W4.heap.size; omega)).trans kp0_3W4
      have kp0_4W5 := (bE.cell (p := ⟨w.heap.size, 4, none⟩) (by show w.heap.size < W4.heap.size; omega)).trans kp0_4W4
      have kp0_5W5 := (bE.cell (p := ⟨w.heap.size, 5, none⟩) (by show w.heap.size < W4.heap.size; omega)).trans kp0_5W4
      have kp0_6W5 := (bE.cell (p := ⟨w.heap.size, 6, none⟩) (by show w.heap.size < W4.heap.size; omega)).trans kp0_6W4
      have kp1_0W5 := (bE.cell (p := ⟨w.heap.size + 1, 0, none⟩) (by show w.heap.size + 1 < W4.heap.size; omega)).trans kp1_0W4
      have kp1_1W5 := (bE.cell (p := ⟨w.heap.size + 1, 1, none⟩) (by show w.heap.size + 1 < W4.heap.size; omega)).trans kp1_1W4
      have krS_0W5 := (bE.cell (p := ⟨g3, 0, none⟩) (by show g3 < W4.heap.size; omega)).trans krS_0W4
      have krS_1W5 := (bE.cell (p := ⟨g3, 1, none⟩) (by show g3 < W4.heap.size; omega)).trans krS_1W4
      have A0W5 := sl.hid (A0W4.out.chg (sl.Chg.ofBelow (lo := 0) bE) (.inr (Nat.zero_le _)))
      have Ox0W5 := sl.hid (On4.out.chg (sl.Chg.ofBelow (lo := 0) bE) (.inr (.inr (Nat.zero_le _))))
      have CW5 := sl.hid (CW4.out.trans (bE.mono (by show w.heap.size ≤ W4.heap.size; omega)))
      clear bE kp0_0W4 kp0_1W4 kp0_2W4 kp0_3W4 kp0_4W4 kp0_5W4 kp0_6W4 kp1_0W4 kp1_1W4 krS_0W4 krS_1W4 A0W4 On4 CW4
      go_upto_region 7 with fail
      generalize (W4.alloc (.cells #[.int .i64 a0, .int .i64 p0, .slice ao4_0 ln4_0 cp4_0, .slice ao4_1 ln4_1 cp4_1, .slice ao4_2 ln4_2 cp4_2, .slice ao4_3 ln4_3 cp4_3, .slice ao4_4 ln4_4 cp4_4] 37)) = W5 at *
      have HKW5 : Hid (mc.FK (fun X : World => mc.Cq X (.slice ao4_0 ln4_0 cp4_0) (.slice ao4_1 ln4_1 cp4_1) (.slice ao4_2 ln4_2 cp4_2) (.slice ao4_3 ln4_3 cp4_3) (.slice ao4_4 ln4_4 cp4_4) xs0) W5 W5 (W4.heap.size) (w.heap.size + 1) a0 p0 (.slice ao4_0 ln4_0 cp4_0) (.slice ao4_1 ln4_1 cp4_1) (.slice ao4_2 ln4_2 cp4_2) (.slice ao4_3 ln4_3 cp4_3) (.slice ao4_4 ln4_4 cp4_4) a1 c1) := sl.hid ⟨kx0_0W5, kx0_1W5, kx0_2W5, kx0_3W5, kx0_4W5, kx0_5W5, kx0_6W5, kp1_0W5, kp1_1W5, by omega, by omega, Nat.le_refl _, ⟨_, by omega, Ox0W5.out.c⟩, fun X X' h b => h.below b, Below.refl _ _⟩
      have JPW5 : Hid (∀ (X : World) (g0 g1 g2 g3 g4 : Value), mc.Cq X g0 g1 g2 g3 g4 xs0 → Calls Try.prog 15 #[.agg #[.int .i64 a0, .int .i64 p0, g0, g1, g2, g3, g4], .agg #[.int .i64 a1, .int .i64 c1]] X fun e X' => e = .returned (.tuple #[.agg #[.int .i64 q0x, .int .i64 q0y], .bool q1]) ∧ Below X.heap.size X X') := sl.hid (fun X g0 g1 g2 g3 g4 kk => by obtain ⟨B, hB, h⟩ := kk; exact IP.out g0 g1 g2 g3 g4 X B h hB)
      have hnmW5 : ¬ (W4.heap.size = W5.heap.size) := by omega
      have hvmW5 : ¬ (W5.heap.size = W4.heap.size) := by omega
      have hndW5 : ¬ (w.heap.size + 1 = W5.heap.size) := by omega
      have hvdW5 : ¬ (W5.heap.size = w.heap.size + 1) := by omega
      go_cut [9, 10] from 26 to 32 (fun p q wc => ∃ g : Nat, p = .pointer (some ⟨g, 0, none⟩) ∧ q = .bool q1 ∧ mc.Rf W5 q0x q0y g wc)
      case first =>
        go_region_held3 (fun w' => w'.cell? ⟨W4.heap.size, 0, none⟩ = some (.int .i64 a0) ∧ w'.cell? ⟨W4.heap.size, 1, none⟩ = some (.int .i64 p0) ∧ w'.cell? ⟨W4.heap.size, 2, none⟩ = some (.slice ao4_0 ln4_0 cp4_0) ∧ w'.cell? ⟨W4.heap.size, 3, none⟩ = some (.slice ao4_1 ln4_1 cp4_1) ∧ w'.cell? ⟨W4.heap.size, 4, none⟩ = some (.slice ao4_2 ln4_2 cp4_2) ∧ w'.cell? ⟨W4.heap.size, 5, none⟩ = some (.slice ao4_3 ln4_3 cp4_3) ∧ w'.cell? ⟨W4.heap.size, 6, none⟩ = some (.slice ao4_4 ln4_4 cp4_4) ∧ w'.cell? ⟨w.heap.size + 1, 0, none⟩ = some (.int .i64 a1) ∧ w'.cell? ⟨w.heap.size + 1, 1, none⟩ = some (.int .i64 c1)) (go_keep)
          (first
            | (go_at_call_of 14 (Value.agg #[.int .i64 a1, .int .i64 c1])
               refine (l5.toD a1 c1 _).mono ?_
               rintro e Y1 ⟨rfl, bb⟩
               have HTY1 := sl.hid True.intro
               have HKA := sl.hid ((show mc.FK (fun X : World => mc.Cq X (.slice ao4_0 ln4_0 cp4_0) (.slice ao4_1 ln4_1 cp4_1) (.slice ao4_2 ln4_2 cp4_2) (.slice ao4_3 ln4_3 cp4_3) (.slice ao4_4 ln4_4 cp4_4) xs0) W5 _ (W4.heap.size) (w.heap.size + 1) a0 p0 (.slice ao4_0 ln4_0 cp4_0) (.slice ao4_1 ln4_1 cp4_1) (.slice ao4_2 ln4_2 cp4_2) (.slice ao4_3 ln4_3 cp4_3) (.slice ao4_4 ln4_4 cp4_4) a1 c1 from by (first | exact HKW5.out | exact HKW5.out.drew | exact HKW5.out.alloc _ | exact (HKW5.out.alloc _).drew | exact (HKW5.out.drew).alloc _)).below bb)
               obtain ⟨hcY1, hfY1⟩ := br.bcell bb
               have hzY1 := bb.size
               obtain ⟨rY1_0, rY1_1, rY1_2, rY1_3, rY1_4, rY1_5, rY1_6, rY1_7, rY1_8, hlmY1, hldY1, hlsY1, hjjY1, hstY1, hblY1⟩ := HKA.out
               clear hjjY1 hstY1 hblY1
               have hnmY1 : ¬ (W4.heap.size = Y1.heap.size) := by omega
               have hvmY1 : ¬ (Y1.heap.size = W4.heap.size) := by omega
               have hndY1 : ¬ (w.heap.size + 1 = Y1.heap.size) := by omega
               have hvdY1 : ¬ (Y1.heap.size = w.heap.size + 1) := by omega
               try simp at hcY1
               try simp at hfY1
               try simp at hzY1
               try have hqW5Y1 : W5.heap.size < Y1.heap.size := by omega
               try have hrY1 : W5.heap.size ≤ Y1.heap.size := by first | exact hzY1 | omega
               clear bb)
            | (go_at_call 15
               refine (JPW5.out _ _ _ _ _ _ ?_).mono ?_
               · (exact (show mc.FK (fun X : World => mc.Cq X (.slice ao4_0 ln4_0 cp4_0) (.slice ao4_1 ln4_1 cp4_1) (.slice ao4_2 ln4_2 cp4_2) (.slice ao4_3 ln4_3 cp4_3) (.slice ao4_4 ln4_4 cp4_4) xs0) W5 _ (W4.heap.size) (w.heap.size + 1) a0 p0 (.slice ao4_0 ln4_0 cp4_0) (.slice ao4_1 ln4_1 cp4_1) (.slice ao4_2 ln4_2 cp4_2) (.slice ao4_3 ln4_3 cp4_3) (.slice ao4_4 ln4_4 cp4_4) a1 c1 from by (first | exact HKA.out | exact HKA.out.drew | exact HKA.out.alloc _ | exact (HKA.out.alloc _).drew | exact (HKA.out.drew).alloc _)).j)
               rintro e Y2 ⟨rfl, bb⟩
               have HKB := sl.hid ((show mc.FK (fun X : World => mc.Cq X (.slice ao4_0 ln4_0 cp4_0) (.slice ao4_1 ln4_1 cp4_1) (.slice ao4_2 ln4_2 cp4_2) (.slice ao4_3 ln4_3 cp4_3) (.slice ao4_4 ln4_4 cp4_4) xs0) W5 _ (W4.heap.size) (w.heap.size + 1) a0 p0 (.slice ao4_0 ln4_0 cp4_0) (.slice ao4_1 ln4_1 cp4_1) (.slice ao4_2 ln4_2 cp4_2) (.slice ao4_3 ln4_3 cp4_3) (.slice ao4_4 ln4_4 cp4_4) a1 c1 from by (first | exact HKA.out | exact HKA.out.drew | exact HKA.out.alloc _ | exact (HKA.out.alloc _).drew | exact (HKA.out.drew).alloc _)).below bb)
               obtain ⟨hcY2, hfY2⟩ := br.bcell bb
               have hzY2 := bb.size
               obtain ⟨rY2_0, rY2_1, rY2_2, rY2_3, rY2_4, rY2_5, rY2_6, rY2_7, rY2_8, hlmY2, hldY2, hlsY2, hjjY2, hstY2, hblY2⟩ := HKB.out
               clear hjjY2 hstY2 hblY2
               have hnmY2 : ¬ (W4.heap.size = Y2.heap.size) := by omega
               have hvmY2 : ¬ (Y2.heap.size = W4.heap.size) := by omega
               have hndY2 : ¬ (w.heap.size + 1 = Y2.heap.size) := by omega
               have hvdY2 : ¬ (Y2.heap.size = w.heap.size + 1) := by omega
               try simp at hcY2
               try simp at hfY2
               try simp at hzY2
               try have hqW5Y2 : W5.heap.size < Y2.heap.size := by omega
               try have hqY1Y2 : Y1.heap.size < Y2.heap.size := by omega
               try have hrY2 : Y1.heap.size ≤ Y2.heap.size := by first | exact hzY2 | omega
               clear bb))
        all_goals
          go_wp2_with fail
          go_meet
          first
            | exact ⟨_, rfl, rfl, mc.rfA HKB.out.bl⟩
            | exact ⟨_, rfl, rfl, mc.rfB HKB.out.bl W5.heap.size (by first | omega | (simp; done) | (simp; omega)) (by first | omega | (simp; done) | (simp; omega)) ((hcY2 _ _ (by first | omega | (simp; done) | (simp; omega))).trans ((hcY1 _ _ (by first | omega | (simp; done) | (simp; omega))).trans (World.cell?_alloc_at _ _ _ _ rfl))) ((hcY2 _ _ (by first | omega | (simp; done) | (simp; omega))).trans ((hcY1 _ _ (by first | omega | (simp; done) | (simp; omega))).trans (World.cell?_alloc_at _ _ _ _ rfl)))⟩
            | exact ⟨_, rfl, rfl, mc.rfB HKB.out.bl Y1.heap.size (by first | omega | (simp; done) | (simp; omega)) (by first | omega | (simp; done) | (simp; omega)) ((hcY2 _ _ (by first | omega | (simp; done) | (simp; omega))).trans (World.cell?_alloc_at _ _ _ _ rfl)) ((hcY2 _ _ (by first | omega | (simp; done) | (simp; omega))).trans (World.cell?_alloc_at _ _ _ _ rfl))⟩
      case rest =>
        obtain ⟨g6, rfl, rfl, c06, c16, hg6, hk6, b6⟩ := hcut
        generalize wc = W6 at *
        have hzW6 : W5.heap.size ≤ W6.heap.size := b6.size
        have kp0_0W6 := (b6.cell (p := ⟨w.heap.size, 0, none⟩) (by show w.heap.size < W5.heap.size; omega)).trans kp0_0W5
        have kp0_1W6 := (b6.cell (p := ⟨w.heap.size, 1, none⟩) (by show w.heap.size < W5.heap.size; omega)).trans kp0_1W5
        have kp0_2W6 := (b6.cell (p := ⟨w.heap.size, 2, none⟩) (by show w.heap.size < W5.heap.size; omega)).trans kp0_2W5
        have kp0_3W6 := (b6.cell (p := ⟨w.heap.size, 3, none⟩) (by show w.heap.size < W5.heap.size; omega)).trans kp0_3W5
        have kp0_4W6 := (b6.cell (p := ⟨w.heap.size, 4, none⟩) (by show w.heap.size < W5.heap.size; omega)).trans kp0_4W5
        have kp0_5W6 := (b6.cell (p := ⟨w.heap.size, 5, none⟩) (by show w.heap.size < W5.heap.size; omega)).trans kp0_5W5
        have kp0_6W6 := (b6.cell (p := ⟨w.heap.size, 6, none⟩) (by show w.heap.size < W5.heap.size; omega)).trans kp0_6W5
        have kp1_0W6 := (b6.cell (p := ⟨w.heap.size + 1, 0, none⟩) (by show w.heap.size + 1 < W5.heap.size; omega)).trans kp1_0W5
        have kp1_1W6 := (b6.cell (p := ⟨w.heap.size + 1, 1, none⟩) (by show w.heap.size + 1 < W5.heap.size; omega)).trans kp1_1W5
        have krS_0W6 := (b6.cell (p := ⟨g3, 0, none⟩) (by show g3 < W5.heap.size; omega)).trans krS_0W5
        have krS_1W6 := (b6.cell (p := ⟨g3, 1, none⟩) (by show g3 < W5.heap.size; omega)).trans krS_1W5
        have kx0_0W6 := (b6.cell (p := ⟨W4.heap.size, 0, none⟩) (by show W4.heap.size < W5.heap.size; omega)).trans kx0_0W5
        have kx0_1W6 := (b6.cell (p := ⟨W4.heap.size, 1, none⟩) (by show W4.heap.size < W5.heap.size; omega)).trans kx0_1W5
        have kx0_2W6 := (b6.cell (p := ⟨W4.heap.size, 2, none⟩) (by show W4.heap.size < W5.heap.size; omega)).trans kx0_2W5
        have kx0_3W6 := (b6.cell (p := ⟨W4.heap.size, 3, none⟩) (by show W4.heap.size < W5.heap.size; omega)).trans kx0_3W5
        have kx0_4W6 := (b6.cell (p := ⟨W4.heap.size, 4, none⟩) (by show W4.heap.size < W5.heap.size; omega)).trans kx0_4W5
        have kx0_5W6 := (b6.cell (p := ⟨W4.heap.size, 5, none⟩) (by show W4.heap.size < W5.heap.size; omega)).trans kx0_5W5
        have kx0_6W6 := (b6.cell (p := ⟨W4.heap.size, 6, none⟩) (by show W4.heap.size < W5.heap.size; omega)).trans kx0_6W5
        have A0W6 := sl.hid (A0W5.out.chg (sl.Chg.ofBelow (lo := 0) b6) (.inr (Nat.zero_le _)))
        have Ox0W6 := sl.hid (Ox0W5.out.chg (sl.Chg.ofBelow (lo := 0) b6) (.inr (.inr (Nat.zero_le _))))
        have CW6 := sl.hid (CW5.out.trans (b6.mono (by show w.heap.size ≤ W5.heap.size; omega)))
        clear b6 kp0_0W5 kp0_1W5 kp0_2W5 kp0_3W5 kp0_4W5 kp0_5W5 kp0_6W5 kp1_0W5 kp1_1W5 krS_0W5 krS_1W5 kx0_0W5 kx0_1W5 kx0_2W5 kx0_3W5 kx0_4W5 kx0_5W5 kx0_6W5 A0W5 Ox0W5 CW5 HKW5  JPW5
        go_wp2_with fail
        refine (mc.eqD q0x q0y W6).mono ?_
        rintro e W7 ⟨rfl, b7⟩
        have hzW7 : W6.heap.size ≤ W7.heap.size := b7.size
        have kp0_0W7 := (b7.cell (p := ⟨w.heap.size, 0, none⟩) (by show w.heap.size < W6.heap.size; omega)).trans kp0_0W6
        have kp0_1W7 := (b7.cell (p := ⟨w.heap.size, 1, none⟩) (by show w.heap.size < W6.heap.size; omega)).trans kp0_1W6
        have kp0_2W7 := (b7.cell (p := ⟨w.heap.size, 2, none⟩) (by show w.heap.size < W6.heap.size; omega)).trans kp0_2W6
        have kp0_3W7 := (b7.cell (p := ⟨w.heap.size, 3, none⟩) (by show w.heap.size < W6.heap.size; omega)).trans kp0_3W6
        have kp0_4W7 := (b7.cell (p := ⟨w.heap.size, 4, none⟩) (by show w.heap.size < W6.heap.size; omega)).trans kp0_4W6
        have kp0_5W7 := (b7.cell (p := ⟨w.heap.size, 5, none⟩) (by show w.heap.size < W6.heap.size; omega)).trans kp0_5W6
        have kp0_6W7 := (b7.cell (p := ⟨w.heap.size, 6, none⟩) (by show w.heap.size < W6.heap.size; omega)).trans kp0_6W6
        have kp1_0W7 := (b7.cell (p := ⟨w.heap.size + 1, 0, none⟩) (by show w.heap.size + 1 < W6.heap.size; omega)).trans kp1_0W6
        have kp1_1W7 := (b7.cell (p := ⟨w.heap.size + 1, 1, none⟩) (by show w.heap.size + 1 < W6.heap.size; omega)).trans kp1_1W6
        have krS_0W7 := (b7.cell (p := ⟨g3, 0, none⟩) (by show g3 < W6.heap.size; omega)).trans krS_0W6
        have krS_1W7 := (b7.cell (p := ⟨g3, 1, none⟩) (by show g3 < W6.heap.size; omega)).trans krS_1W6
        have kx0_0W7 := (b7.cell (p := ⟨W4.heap.size, 0, none⟩) (by show W4.heap.size < W6.heap.size; omega)).trans kx0_0W6
        have kx0_1W7 := (b7.cell (p := ⟨W4.heap.size, 1, none⟩) (by show W4.heap.size < W6.heap.size; omega)).trans kx0_1W6
        have kx0_2W7 := (b7.cell (p := ⟨W4.heap.size, 2, none⟩) (by show W4.heap.size < W6.heap.size; omega)).trans kx0_2W6
        have kx0_3W7 := (b7.cell (p := ⟨W4.heap.size, 3, none⟩) (by show W4.heap.size < W6.heap.size; omega)).trans kx0_3W6
        have kx0_4W7 := (b7.cell (p := ⟨W4.heap.size, 4, none⟩) (by show W4.heap.size < W6.heap.size; omega)).trans kx0_4W6
        have kx0_5W7 := (b7.cell (p := ⟨W4.heap.size, 5, none⟩) (by show W4.heap.size < W6.heap.size; omega)).trans kx0_5W6
        have kx0_6W7 := (b7.cell (p := ⟨W4.heap.size, 6, none⟩) (by show W4.heap.size < W6.heap.size; omega)).trans kx0_6W6
        have krI_0W7 := (b7.cell (p := ⟨g6, 0, none⟩) (by show g6 < W6.heap.size; omega)).trans c06
        have krI_1W7 := (b7.cell (p := ⟨g6, 1, none⟩) (by show g6 < W6.heap.size; omega)).trans c16
        have A0W7 := sl.hid (A0W6.out.chg (sl.Chg.ofBelow (lo := 0) b7) (.inr (Nat.zero_le _)))
        have Ox0W7 := sl.hid (Ox0W6.out.chg (sl.Chg.ofBelow (lo := 0) b7) (.inr (.inr (Nat.zero_le _))))
        have CW7 := sl.hid (CW6.out.trans (b7.mono (by show w.heap.size ≤ W6.heap.size; omega)))
        clear b7 kp0_0W6 kp0_1W6 kp0_2W6 kp0_3W6 kp0_4W6 kp0_5W6 kp0_6W6 kp1_0W6 kp1_1W6 krS_0W6 krS_1W6 kx0_0W6 kx0_1W6 kx0_2W6 kx0_3W6 kx0_4W6 kx0_5W6 kx0_6W6 c06 c16 A0W6 Ox0W6 CW6
        go_wp2_with fail
        have bD := (Below.refl W7.heap.size W7).drew
        have A0dW7 := sl.hid (A0W7.out.chg (sl.Chg.ofBelow (lo := 0) bD) (.inr (Nat.zero_le _)))
        have Ox0dW7 := sl.hid (Ox0W7.out.chg (sl.Chg.ofBelow (lo := 0) bD) (.inr (.inr (Nat.zero_le _))))
        have CdW7 := sl.hid (CW7.out.drew)
        clear bD A0W7 Ox0W7 CW7
        go_region_held3 (fun w' => w'.cell? ⟨w.heap.size, 0, none⟩ = some (.int .i64 a0) ∧ w'.cell? ⟨w.heap.size, 1, none⟩ = some (.int .i64 p0) ∧ w'.cell? ⟨w.heap.size, 2, none⟩ = some (f0_0) ∧ w'.cell? ⟨w.heap.size, 3, none⟩ = some (f0_1) ∧ w'.cell? ⟨w.heap.size, 4, none⟩ = some (f0_2) ∧ w'.cell? ⟨w.heap.size, 5, none⟩ = some (f0_3) ∧ w'.cell? ⟨w.heap.size, 6, none⟩ = some (f0_4) ∧ w'.cell? ⟨W4.heap.size, 0, none⟩ = some (.int .i64 a0) ∧ w'.cell? ⟨W4.heap.size, 1, none⟩ = some (.int .i64 p0) ∧ w'.cell? ⟨W4.heap.size, 2, none⟩ = some (.slice ao4_0 ln4_0 cp4_0) ∧ w'.cell? ⟨W4.heap.size, 3, none⟩ = some (.slice ao4_1 ln4_1 cp4_1) ∧ w'.cell? ⟨W4.heap.size, 4, none⟩ = some (.slice ao4_2 ln4_2 cp4_2) ∧ w'.cell? ⟨W4.heap.size, 5, none⟩ = some (.slice ao4_3 ln4_3 cp4_3) ∧ w'.cell? ⟨W4.heap.size, 6, none⟩ = some (.slice ao4_4 ln4_4 cp4_4)) (go_keep)
          (first
            | (go_at_call 13
               refine (mc.toM a0 p0 xs0 f0_0 f0_1 f0_2 f0_3 f0_4 _ _ A0dW7.out (by show w.heap.size ≤ W7.heap.size; omega) HQ0.out).mono ?_
               rintro e W9 ⟨fc0_0, fc0_1, fc0_2, fc0_3, fc0_4, rfl, oc0, bB⟩
               have HJ0 := sl.hid oc0.rd
               have hzW9 : W7.heap.size ≤ W9.heap.size := bB.size
               have kp0_0W9 := (bB.cell (p := ⟨w.heap.size, 0, none⟩) (by show w.heap.size < W7.heap.size; omega)).trans kp0_0W7
               have kp0_1W9 := (bB.cell (p := ⟨w.heap.size, 1, none⟩) (by show w.heap.size < W7.heap.size; omega)).trans kp0_1W7
               have kp0_2W9 := (bB.cell (p := ⟨w.heap.size, 2, none⟩) (by show w.heap.size < W7.heap.size; omega)).trans kp0_2W7
               have kp0_3W9 := (bB.cell (p := ⟨w.heap.size, 3, none⟩) (by show w.heap.size < W7.heap.size; omega)).trans kp0_3W7
               have kp0_4W9 := (bB.cell (p := ⟨w.heap.size, 4, none⟩) (by show w.heap.size < W7.heap.size; omega)).trans kp0_4W7
               have kp0_5W9 := (bB.cell (p := ⟨w.heap.size, 5, none⟩) (by show w.heap.size < W7.heap.size; omega)).trans kp0_5W7
               have kp0_6W9 := (bB.cell (p := ⟨w.heap.size, 6, none⟩) (by show w.heap.size < W7.heap.size; omega)).trans kp0_6W7
               have kp1_0W9 := (bB.cell (p := ⟨w.heap.size + 1, 0, none⟩) (by show w.heap.size + 1 < W7.heap.size; omega)).trans kp1_0W7
               have kp1_1W9 := (bB.cell (p := ⟨w.heap.size + 1, 1, none⟩) (by show w.heap.size + 1 < W7.heap.size; omega)).trans kp1_1W7
               have krS_0W9 := (bB.cell (p := ⟨g3, 0, none⟩) (by show g3 < W7.heap.size; omega)).trans krS_0W7
               have krS_1W9 := (bB.cell (p := ⟨g3, 1, none⟩) (by show g3 < W7.heap.size; omega)).trans krS_1W7
               have kx0_0W9 := (bB.cell (p := ⟨W4.heap.size, 0, none⟩) (by show W4.heap.size < W7.heap.size; omega)).trans kx0_0W7
               have kx0_1W9 := (bB.cell (p := ⟨W4.heap.size, 1, none⟩) (by show W4.heap.size < W7.heap.size; omega)).trans kx0_1W7
               have kx0_2W9 := (bB.cell (p := ⟨W4.heap.size, 2, none⟩) (by show W4.heap.size < W7.heap.size; omega)).trans kx0_2W7
               have kx0_3W9 := (bB.cell (p := ⟨W4.heap.size, 3, none⟩) (by show W4.heap.size < W7.heap.size; omega)).trans kx0_3W7
               have kx0_4W9 := (bB.cell (p := ⟨W4.heap.size, 4, none⟩) (by show W4.heap.size < W7.heap.size; omega)).trans kx0_4W7
               have kx0_5W9 := (bB.cell (p := ⟨W4.heap.size, 5, none⟩) (by show W4.heap.size < W7.heap.size; omega)).trans kx0_5W7
               have kx0_6W9 := (bB.cell (p := ⟨W4.heap.size, 6, none⟩) (by show W4.heap.size < W7.heap.size; omega)).trans kx0_6W7
               have krI_0W9 := (bB.cell (p := ⟨g6, 0, none⟩) (by show g6 < W7.heap.size; omega)).trans krI_0W7
               have krI_1W9 := (bB.cell (p := ⟨g6, 1, none⟩) (by show g6 < W7.heap.size; omega)).trans krI_1W7
               have A0W9 := sl.hid (A0dW7.out.chg (sl.Chg.ofBelow (lo := 0) bB) (.inr (Nat.zero_le _)))
               have Ox0W9 := sl.hid (Ox0dW7.out.chg (sl.Chg.ofBelow (lo := 0) bB) (.inr (.inr (Nat.zero_le _))))
               have CW9 := sl.hid (CdW7.out.trans (bB.mono (by show w.heap.size ≤ W7.heap.size; omega)))
               clear oc0 bB kp0_0W7 kp0_1W7 kp0_2W7 kp0_3W7 kp0_4W7 kp0_5W7 kp0_6W7 kp1_0W7 kp1_1W7 krS_0W7 krS_1W7 kx0_0W7 kx0_1W7 kx0_2W7 kx0_3W7 kx0_4W7 kx0_5W7 kx0_6W7 krI_0W7 krI_1W7 A0dW7 Ox0dW7 CdW7)
            | (go_at_call 17
               refine (mc.eqMS a0 p0 xs0 _ _ _ _ _ _ _ _ _ _ _ _ W9 Ox0W9.out.rd HJ0.out HQ0.out).mono ?_
               rintro e W10 ⟨rfl, bC⟩
               have hzW10 : W9.heap.size ≤ W10.heap.size := bC.size
               have kp0_0W10 := (bC.cell (p := ⟨w.heap.size, 0, none⟩) (by show w.heap.size < W9.heap.size; omega)).trans kp0_0W9
               have kp0_1W10 := (bC.cell (p := ⟨w.heap.size, 1, none⟩) (by show w.heap.size < W9.heap.size; omega)).trans kp0_1W9
               have kp0_2W10 := (bC.cell (p := ⟨w.heap.size, 2, none⟩) (by show w.heap.size < W9.heap.size; omega)).trans kp0_2W9
               have kp0_3W10 := (bC.cell (p := ⟨w.heap.size, 3, none⟩) (by show w.heap.size < W9.heap.size; omega)).trans kp0_3W9
               have kp0_4W10 := (bC.cell (p := ⟨w.heap.size, 4, none⟩) (by show w.heap.size < W9.heap.size; omega)).trans kp0_4W9
               have kp0_5W10 := (bC.cell (p := ⟨w.heap.size, 5, none⟩) (by show w.heap.size < W9.heap.size; omega)).trans kp0_5W9
               have kp0_6W10 := (bC.cell (p := ⟨w.heap.size, 6, none⟩) (by show w.heap.size < W9.heap.size; omega)).trans kp0_6W9
               have kp1_0W10 := (bC.cell (p := ⟨w.heap.size + 1, 0, none⟩) (by show w.heap.size + 1 < W9.heap.size; omega)).trans kp1_0W9
               have kp1_1W10 := (bC.cell (p := ⟨w.heap.size + 1, 1, none⟩) (by show w.heap.size + 1 < W9.heap.size; omega)).trans kp1_1W9
               have krS_0W10 := (bC.cell (p := ⟨g3, 0, none⟩) (by show g3 < W9.heap.size; omega)).trans krS_0W9
               have krS_1W10 := (bC.cell (p := ⟨g3, 1, none⟩) (by show g3 < W9.heap.size; omega)).trans krS_1W9
               have kx0_0W10 := (bC.cell (p := ⟨W4.heap.size, 0, none⟩) (by show W4.heap.size < W9.heap.size; omega)).trans kx0_0W9
               have kx0_1W10 := (bC.cell (p := ⟨W4.heap.size, 1, none⟩) (by show W4.heap.size < W9.heap.size; omega)).trans kx0_1W9
               have kx0_2W10 := (bC.cell (p := ⟨W4.heap.size, 2, none⟩) (by show W4.heap.size < W9.heap.size; omega)).trans kx0_2W9
               have kx0_3W10 := (bC.cell (p := ⟨W4.heap.size, 3, none⟩) (by show W4.heap.size < W9.heap.size; omega)).trans kx0_3W9
               have kx0_4W10 := (bC.cell (p := ⟨W4.heap.size, 4, none⟩) (by show W4.heap.size < W9.heap.size; omega)).trans kx0_4W9
               have kx0_5W10 := (bC.cell (p := ⟨W4.heap.size, 5, none⟩) (by show W4.heap.size < W9.heap.size; omega)).trans kx0_5W9
               have kx0_6W10 := (bC.cell (p := ⟨W4.heap.size, 6, none⟩) (by show W4.heap.size < W9.heap.size; omega)).trans kx0_6W9
               have krI_0W10 := (bC.cell (p := ⟨g6, 0, none⟩) (by show g6 < W9.heap.size; omega)).trans krI_0W9
               have krI_1W10 := (bC.cell (p := ⟨g6, 1, none⟩) (by show g6 < W9.heap.size; omega)).trans krI_1W9
               have A0W10 := sl.hid (A0W9.out.chg (sl.Chg.ofBelow (lo := 0) bC) (.inr (Nat.zero_le _)))
               have Ox0W10 := sl.hid (Ox0W9.out.chg (sl.Chg.ofBelow (lo := 0) bC) (.inr (.inr (Nat.zero_le _))))
               have CW10 := sl.hid (CW9.out.trans (bC.mono (by show w.heap.size ≤ W9.heap.size; omega)))
               clear HJ0 bC kp0_0W9 kp0_1W9 kp0_2W9 kp0_3W9 kp0_4W9 kp0_5W9 kp0_6W9 kp1_0W9 kp1_1W9 krS_0W9 krS_1W9 kx0_0W9 kx0_1W9 kx0_2W9 kx0_3W9 kx0_4W9 kx0_5W9 kx0_6W9 krI_0W9 krI_1W9 A0W9 Ox0W9 CW9))
        go_wp2
        go_ret
        exact ⟨rfl, CW10.out⟩
end Go.Proofs.Ytfechjhngcmdpaa.wfacingOf
