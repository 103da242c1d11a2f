/-
  The walk of the law of RowTargets.
-/
import Derived.Test.YtbbnheiibkcgiaaDoorLa8
import Derived.Test.YtbbnheiibkcgiaaDoorL5
import Derived.Test.YtbbnheiibkcgiaaDoorMk1
import Derived.Deep.RegionHeld3
import Derived.Deep.CutRange
namespace Go.Proofs.YtbbnheiibkcgiaaDoor.wrowTargets
open Go.RowKit
set_option linter.unusedVariables false

set_option maxRecDepth 100000 in
set_option maxHeartbeats 20000000 in
theorem law (a0 c0 : Int) (f0_0 : Value) (xs0 : List Int) (w : World) (hi0 : l5.IntsIn w f0_0 xs0) (ha0 : -9223372036854775808 ≤ a0 ∧ a0 ≤ 9223372036854775807) (hc0 : -9223372036854775808 ≤ c0 ∧ c0 ≤ 9223372036854775807) (hTb : stb.Tab w) :
    Calls Tryd.prog 4 #[.agg #[.int .i64 a0, .int .i64 c0, f0_0]] w fun e w' => e = .returned (.bool true) ∧ Below w.heap.size w w' := by
  have HTb := sl.hid hTb
  clear hTb
  have HI0 := sl.hid hi0.rd
  have HZ0 := sl.hid (fun W B h => ct.szW1 a0 c0 xs0 f0_0 B (1048576) W h hi0.len hi0.short (by omega) (by omega))
  rcases l5.szL_pos (n := xs0.length) (left := 1048576) (by omega) with hzc0 | hzc0
  · rw [hzc0] at HZ0
    clear hzc0 hi0 ha0 hc0
    go_enter Tryd.func4, Tryd.ntmps4
    go_wp2_with fail
    have bE : Below w.heap.size w (w.alloc (.cells #[.int .i64 a0, .int .i64 c0, f0_0] 36)) := ((Below.refl w.heap.size w).alloc (by simp) _)
    have hzW0 : w.heap.size + 1 ≤ (w.alloc (.cells #[.int .i64 a0, .int .i64 c0, f0_0] 36)).heap.size := by simp
    have kp0_0W0 : (w.alloc (.cells #[.int .i64 a0, .int .i64 c0, f0_0] 36)).cell? ⟨w.heap.size, 0, none⟩ = some (.int .i64 a0) := World.cell?_alloc_at _ _ _ _ (by simp)
    have kp0_1W0 : (w.alloc (.cells #[.int .i64 a0, .int .i64 c0, f0_0] 36)).cell? ⟨w.heap.size, 1, none⟩ = some (.int .i64 c0) := World.cell?_alloc_at _ _ _ _ (by simp)
    have kp0_2W0 : (w.alloc (.cells #[.int .i64 a0, .int .i64 c0, f0_0] 36)).cell? ⟨w.heap.size, 2, none⟩ = some (f0_0) := World.cell?_alloc_at _ _ _ _ (by simp)
    have A0W0 := sl.hid (HI0.out.chg (sl.Chg.ofBelow (lo := 0) bE) (.inr (Nat.zero_le _)))
    have CW0 := sl.hid bE
    clear bE HI0
    generalize (w.alloc (.cells #[.int .i64 a0, .int .i64 c0, f0_0] 36)) = W0 at *
    go_wp2_with fail
    refine (HZ0.out W0 _ A0W0.out).mono ?_
    rintro e W1 ⟨rfl, b1⟩
    have hzW1 : W0.heap.size ≤ W1.heap.size := b1.size
    have kp0_0W1 := (b1.cell (p := ⟨w.heap.size, 0, none⟩) (by show w.heap.size < W0.heap.size; omega)).trans kp0_0W0
    have kp0_1W1 := (b1.cell (p := ⟨w.heap.size, 1, none⟩) (by show w.heap.size < W0.heap.size; omega)).trans kp0_1W0
    have kp0_2W1 := (b1.cell (p := ⟨w.heap.size, 2, none⟩) (by show w.heap.size < W0.heap.size; omega)).trans kp0_2W0
    have A0W1 := sl.hid (A0W0.out.chg (sl.Chg.ofBelow (lo := 0) b1) (.inr (Nat.zero_le _)))
    have CW1 := sl.hid (CW0.out.trans (b1.mono (by show w.heap.size ≤ W0.heap.size; omega)))
    clear b1 kp0_0W0 kp0_1W0 kp0_2W0 A0W0 CW0
    go_wp2
    go_ret
    exact ⟨rfl, CW1.out⟩
  · have HQ0 := sl.hid (l5.small_of (by omega) (by omega) hzc0)
    have hzl0 := (l5.szL_bound (n := xs0.length) (left := 1048576) (by omega) hzc0).1
    generalize br.szL 1048576 xs0.length = z0 at *
    have SP : Hid (∀ (g0_0 : Value) (W : World) (B0 : Nat), sl.Ints W B0 g0_0 xs0 → B0 ≤ W.heap.size → Calls Tryd.prog 14 #[.agg #[.int .i64 a0, .int .i64 c0, g0_0]] W fun e w' => ∃ u0' u1' u2', e = .returned (.tuple #[u0', u1', u2', .int .i64 (rl.laC a0 c0 xs0)]) ∧ la.T3 w' W.heap.size u0' u1' u2' (la.rtW la.hxA a0 c0 xs0) (la.rtW la.hxB a0 c0 xs0) (la.rtW la.hxC a0 c0 xs0) ∧ Below W.heap.size W w') := sl.hid (fun g0_0 W B0 j0 l0 => la.specRT a0 c0 xs0 g0_0 B0 W j0 l0 HQ0.out )
    have IP : Hid (∀ (g0_0 : Value) (W : World) (B0 : Nat), Below w.heap.size w W → sl.Ints W B0 g0_0 xs0 → B0 ≤ W.heap.size → Calls Tryd.prog 16 #[.agg #[.int .i64 a0, .int .i64 c0, g0_0]] W fun e w' => ∃ u0' u1' u2', e = .returned (.tuple #[u0', u1', u2', .int .i64 (rl.laC a0 c0 xs0)]) ∧ la.T3 w' W.heap.size u0' u1' u2' (la.rtW la.hxA a0 c0 xs0) (la.rtW la.hxB a0 c0 xs0) (la.rtW la.hxC a0 c0 xs0) ∧ Below W.heap.size W w') := sl.hid (fun g0_0 W B0 bw j0 l0 => la.implRT a0 c0 xs0 g0_0 B0 W j0 l0 HQ0.out  (stb.carry HTb.out bw))
    have hrs0 : (la.rtW la.hxA a0 c0 xs0).length ≤ 20000 := la.rtW_len _ a0 c0 xs0
    have hr0 : (la.rtW la.hxA a0 c0 xs0).length ≤ 1099511627776 := by omega
    generalize la.rtW la.hxA a0 c0 xs0 = zr0 at *
    have hrs1 : (la.rtW la.hxB a0 c0 xs0).length ≤ 20000 := la.rtW_len _ a0 c0 xs0
    have hr1 : (la.rtW la.hxB a0 c0 xs0).length ≤ 1099511627776 := by omega
    generalize la.rtW la.hxB a0 c0 xs0 = zr1 at *
    have hrs2 : (la.rtW la.hxC a0 c0 xs0).length ≤ 20000 := la.rtW_len _ a0 c0 xs0
    have hr2 : (la.rtW la.hxC a0 c0 xs0).length ≤ 1099511627776 := by omega
    generalize la.rtW la.hxC a0 c0 xs0 = zr2 at *
    generalize rl.laC a0 c0 xs0 = q3 at *
    clear hi0 ha0 hc0
    go_enter Tryd.func4, Tryd.ntmps4
    go_wp2_with fail
    have bE : Below w.heap.size w (w.alloc (.cells #[.int .i64 a0, .int .i64 c0, f0_0] 36)) := ((Below.refl w.heap.size w).alloc (by simp) _)
    have hzW0 : w.heap.size + 1 ≤ (w.alloc (.cells #[.int .i64 a0, .int .i64 c0, f0_0] 36)).heap.size := by simp
    have kp0_0W0 : (w.alloc (.cells #[.int .i64 a0, .int .i64 c0, f0_0] 36)).cell? ⟨w.heap.size, 0, none⟩ = some (.int .i64 a0) := World.cell?_alloc_at _ _ _ _ (by simp)
    have kp0_1W0 : (w.alloc (.cells #[.int .i64 a0, .int .i64 c0, f0_0] 36)).cell? ⟨w.heap.size, 1, none⟩ = some (.int .i64 c0) := World.cell?_alloc_at _ _ _ _ (by simp)
    have kp0_2W0 : (w.alloc (.cells #[.int .i64 a0, .int .i64 c0, f0_0] 36)).cell? ⟨w.heap.size, 2, none⟩ = some (f0_0) := World.cell?_alloc_at _ _ _ _ (by simp)
    have A0W0 := sl.hid (HI0.out.chg (sl.Chg.ofBelow (lo := 0) bE) (.inr (Nat.zero_le _)))
    have CW0 := sl.hid bE
    clear bE HI0
    generalize (w.alloc (.cells #[.int .i64 a0, .int .i64 c0, f0_0] 36)) = W0 at *
    go_wp2_with fail
    refine (HZ0.out W0 _ A0W0.out).mono ?_
    rintro e W2 ⟨rfl, b2⟩
    have hzW2 : W0.heap.size ≤ W2.heap.size := b2.size
    have kp0_0W2 := (b2.cell (p := ⟨w.heap.size, 0, none⟩) (by show w.heap.size < W0.heap.size; omega)).trans kp0_0W0
    have kp0_1W2 := (b2.cell (p := ⟨w.heap.size, 1, none⟩) (by show w.heap.size < W0.heap.size; omega)).trans kp0_1W0
    have kp0_2W2 := (b2.cell (p := ⟨w.heap.size, 2, none⟩) (by show w.heap.size < W0.heap.size; omega)).trans kp0_2W0
    have A0W2 := sl.hid (A0W0.out.chg (sl.Chg.ofBelow (lo := 0) b2) (.inr (Nat.zero_le _)))
    have CW2 := sl.hid (CW0.out.trans (b2.mono (by show w.heap.size ≤ W0.heap.size; omega)))
    clear b2 kp0_0W0 kp0_1W0 kp0_2W0 A0W0 CW0
    go_wp2_with fail
    refine (ct.toW a0 c0 xs0 f0_0 _ W2 A0W2.out (by omega) HQ0.out).mono ?_
    rintro e W3 ⟨f0_0_3, rfl, o3, b3⟩
    obtain ⟨ao3_0, ln3_0, cp3_0, rfl⟩ := l5.rval o3
    have On3 := sl.hid o3
    clear o3
    have hzW3 : W2.heap.size ≤ W3.heap.size := b3.size
    have kp0_0W3 := (b3.cell (p := ⟨w.heap.size, 0, none⟩) (by show w.heap.size < W2.heap.size; omega)).trans kp0_0W2
    have kp0_1W3 := (b3.cell (p := ⟨w.heap.size, 1, none⟩) (by show w.heap.size < W2.heap.size; omega)).trans kp0_1W2
    have kp0_2W3 := (b3.cell (p := ⟨w.heap.size, 2, none⟩) (by show w.heap.size < W2.heap.size; omega)).trans kp0_2W2
    have A0W3 := sl.hid (A0W2.out.chg (sl.Chg.ofBelow (lo := 0) b3) (.inr (Nat.zero_le _)))
    have CW3 := sl.hid (CW2.out.trans (b3.mono (by show w.heap.size ≤ W2.heap.size; omega)))
    clear b3 kp0_0W2 kp0_1W2 kp0_2W2 A0W2 CW2
    go_wp2_with fail
    refine (SP.out _ W3 _ On3.out.ints (by omega)).mono ?_
    rintro e W4 ⟨v4_0, v4_1, v4_2, rfl, t4, b4⟩
    have hzW4 : W3.heap.size ≤ W4.heap.size := b4.size
    have kp0_0W4 := (b4.cell (p := ⟨w.heap.size, 0, none⟩) (by show w.heap.size < W3.heap.size; omega)).trans kp0_0W3
    have kp0_1W4 := (b4.cell (p := ⟨w.heap.size, 1, none⟩) (by show w.heap.size < W3.heap.size; omega)).trans kp0_1W3
    have kp0_2W4 := (b4.cell (p := ⟨w.heap.size, 2, none⟩) (by show w.heap.size < W3.heap.size; omega)).trans kp0_2W3
    have A0W4 := sl.hid (A0W3.out.chg (sl.Chg.ofBelow (lo := 0) b4) (.inr (Nat.zero_le _)))
    have Oc0W4 := sl.hid (On3.out.chg (sl.Chg.ofBelow (lo := 0) b4) (.inr (.inr (Nat.zero_le _))))
    have CW4 := sl.hid (CW3.out.trans (b4.mono (by show w.heap.size ≤ W3.heap.size; omega)))
    obtain ⟨l4_0, e4_0, l4_1, e4_1, l4_2, e4_2, o4_0, o4_1, o4_2, f4_0, f4_1, f4_2, f4_3, f4_4, f4_5, f4_6, f4_7, f4_8⟩ := t4
    have Ovr0 := sl.hid o4_0
    clear o4_0
    have Ovr1 := sl.hid o4_1
    clear o4_1
    have Ovr2 := sl.hid o4_2
    clear o4_2
    clear b4 kp0_0W3 kp0_1W3 kp0_2W3 A0W3 On3 CW3
    go_wp2_with fail
    refine (ct.toW a0 c0 xs0 f0_0 _ W4 A0W4.out (by omega) HQ0.out).mono ?_
    rintro e W5 ⟨f0_0_5, rfl, o5, b5⟩
    obtain ⟨ao5_0, ln5_0, cp5_0, rfl⟩ := l5.rval o5
    have On5 := sl.hid o5
    clear o5
    have hzW5 : W4.heap.size ≤ W5.heap.size := b5.size
    have kp0_0W5 := (b5.cell (p := ⟨w.heap.size, 0, none⟩) (by show w.heap.size < W4.heap.size; omega)).trans kp0_0W4
    have kp0_1W5 := (b5.cell (p := ⟨w.heap.size, 1, none⟩) (by show w.heap.size < W4.heap.size; omega)).trans kp0_1W4
    have kp0_2W5 := (b5.cell (p := ⟨w.heap.size, 2, none⟩) (by show w.heap.size < W4.heap.size; omega)).trans kp0_2W4
    have A0W5 := sl.hid (A0W4.out.chg (sl.Chg.ofBelow (lo := 0) b5) (.inr (Nat.zero_le _)))
    have Or0W5 := sl.hid (Ovr0.out.chg (sl.Chg.ofBelow (lo := 0) b5) (.inr (.inr (Nat.zero_le _))))
    have Or1W5 := sl.hid (Ovr1.out.chg (sl.Chg.ofBelow (lo := 0) b5) (.inr (.inr (Nat.zero_le _))))
    have Or2W5 := sl.hid (Ovr2.out.chg (sl.Chg.ofBelow (lo := 0) b5) (.inr (.inr (Nat.zero_le _))))
    have CW5 := sl.hid (CW4.out.trans (b5.mono (by show w.heap.size ≤ W4.heap.size; omega)))
    clear b5 kp0_0W4 kp0_1W4 kp0_2W4 A0W4 Ovr0 Ovr1 Ovr2 CW4
    have bE : Below W5.heap.size W5 (W5.alloc (.cells #[.int .i64 a0, .int .i64 c0, .slice ao5_0 ln5_0 cp5_0] 40)) := (Below.refl _ _).alloc (Nat.le_refl _) _
    have kx0_0W6 : (W5.alloc (.cells #[.int .i64 a0, .int .i64 c0, .slice ao5_0 ln5_0 cp5_0] 40)).cell? ⟨W5.heap.size, 0, none⟩ = some (.int .i64 a0) := World.cell?_alloc_at _ _ _ _ rfl
    have kx0_1W6 : (W5.alloc (.cells #[.int .i64 a0, .int .i64 c0, .slice ao5_0 ln5_0 cp5_0] 40)).cell? ⟨W5.heap.size, 1, none⟩ = some (.int .i64 c0) := World.cell?_alloc_at _ _ _ _ rfl
    have kx0_2W6 : (W5.alloc (.cells #[.int .i64 a0, .int .i64 c0, .slice ao5_0 ln5_0 cp5_0] 40)).cell? ⟨W5.heap.size, 2, none⟩ = some (.slice ao5_0 ln5_0 cp5_0) := World.cell?_alloc_at _ _ _ _ rfl
    have hsW6 : W5.heap.size < (W5.alloc (.cells #[.int .i64 a0, .int .i64 c0, .slice ao5_0 ln5_0 cp5_0] 40)).heap.size := by simp
    have hzW6 : W5.heap.size ≤ (W5.alloc (.cells #[.int .i64 a0, .int .i64 c0, .slice ao5_0 ln5_0 cp5_0] 40)).heap.size := bE.size
    have kp0_0W6 := (bE.cell (p := ⟨w.heap.size, 0, none⟩) (by show w.heap.size < W5.heap.size; omega)).trans kp0_0W5
    have kp0_1W6 := (bE.cell (p := ⟨w.heap.size, 1, none⟩) (by show w.heap.size < W5.heap.size; omega)).trans kp0_1W5
    have kp0_2W6 := (bE.cell (p := ⟨w.heap.size, 2, none⟩) (by show w.heap.size < W5.heap.size; omega)).trans kp0_2W5
    have A0W6 := sl.hid (A0W5.out.chg (sl.Chg.ofBelow (lo := 0) bE) (.inr (Nat.zero_le _)))
    have Or0W6 := sl.hid (Or0W5.out.chg (sl.Chg.ofBelow (lo := 0) bE) (.inr (.inr (Nat.zero_le _))))
    have Or1W6 := sl.hid (Or1W5.out.chg (sl.Chg.ofBelow (lo := 0) bE) (.inr (.inr (Nat.zero_le _))))
    have Or2W6 := sl.hid (Or2W5.out.chg (sl.Chg.ofBelow (lo := 0) bE) (.inr (.inr (Nat.zero_le _))))
    have Ox0W6 := sl.hid (On5.out.chg (sl.Chg.ofBelow (lo := 0) bE) (.inr (.inr (Nat.zero_le _))))
    have CW6 := sl.hid (CW5.out.trans (bE.mono (by show w.heap.size ≤ W5.heap.size; omega)))
    clear bE kp0_0W5 kp0_1W5 kp0_2W5 A0W5 Or0W5 Or1W5 Or2W5 On5 CW5
    go_wp2_with fail
    generalize (W5.alloc (.cells #[.int .i64 a0, .int .i64 c0, .slice ao5_0 ln5_0 cp5_0] 40)) = W6 at *
    refine (IP.out _ W6 _ CW6.out Ox0W6.out.ints (by omega)).mono ?_
    rintro e W7 ⟨v7_0, v7_1, v7_2, rfl, t7, b7⟩
    have hzW7 : W6.heap.size ≤ W7.heap.size := b7.size
    have kp0_0W7 := (b7.cell (p := ⟨w.heap.size, 0, none⟩) (by show w.heap.size < W6.heap.size; omega)).trans kp0_0W6
    have kp0_1W7 := (b7.cell (p := ⟨w.heap.size, 1, none⟩) (by show w.heap.size < W6.heap.size; omega)).trans kp0_1W6
    have kp0_2W7 := (b7.cell (p := ⟨w.heap.size, 2, none⟩) (by show w.heap.size < W6.heap.size; omega)).trans kp0_2W6
    have kx0_0W7 := (b7.cell (p := ⟨W5.heap.size, 0, none⟩) (by show W5.heap.size < W6.heap.size; omega)).trans kx0_0W6
    have kx0_1W7 := (b7.cell (p := ⟨W5.heap.size, 1, none⟩) (by show W5.heap.size < W6.heap.size; omega)).trans kx0_1W6
    have kx0_2W7 := (b7.cell (p := ⟨W5.heap.size, 2, none⟩) (by show W5.heap.size < W6.heap.size; omega)).trans kx0_2W6
    have A0W7 := sl.hid (A0W6.out.chg (sl.Chg.ofBelow (lo := 0) b7) (.inr (Nat.zero_le _)))
    have Or0W7 := sl.hid (Or0W6.out.chg (sl.Chg.ofBelow (lo := 0) b7) (.inr (.inr (Nat.zero_le _))))
    have Or1W7 := sl.hid (Or1W6.out.chg (sl.Chg.ofBelow (lo := 0) b7) (.inr (.inr (Nat.zero_le _))))
    have Or2W7 := sl.hid (Or2W6.out.chg (sl.Chg.ofBelow (lo := 0) b7) (.inr (.inr (Nat.zero_le _))))
    have Ox0W7 := sl.hid (Ox0W6.out.chg (sl.Chg.ofBelow (lo := 0) b7) (.inr (.inr (Nat.zero_le _))))
    have CW7 := sl.hid (CW6.out.trans (b7.mono (by show w.heap.size ≤ W6.heap.size; omega)))
    obtain ⟨l7_0, e7_0, l7_1, e7_1, l7_2, e7_2, o7_0, o7_1, o7_2, f7_0, f7_1, f7_2, f7_3, f7_4, f7_5, f7_6, f7_7, f7_8⟩ := t7
    have Ovg0 := sl.hid o7_0
    clear o7_0
    have Ovg1 := sl.hid o7_1
    clear o7_1
    have Ovg2 := sl.hid o7_2
    clear o7_2
    clear b7 kp0_0W6 kp0_1W6 kp0_2W6 kx0_0W6 kx0_1W6 kx0_2W6 A0W6 Or0W6 Or1W6 Or2W6 Ox0W6 CW6
    go_wp2_with fail
    refine (sl.eqS zr0 _ _ _ _ W7 Ovg0.out.ints Or0W7.out.ints hr0).mono ?_
    rintro e W8 ⟨rfl, b8⟩
    have hzW8 : W7.heap.size ≤ W8.heap.size := b8.size
    have kp0_0W8 := (b8.cell (p := ⟨w.heap.size, 0, none⟩) (by show w.heap.size < W7.heap.size; omega)).trans kp0_0W7
    have kp0_1W8 := (b8.cell (p := ⟨w.heap.size, 1, none⟩) (by show w.heap.size < W7.heap.size; omega)).trans kp0_1W7
    have kp0_2W8 := (b8.cell (p := ⟨w.heap.size, 2, none⟩) (by show w.heap.size < W7.heap.size; omega)).trans kp0_2W7
    have kx0_0W8 := (b8.cell (p := ⟨W5.heap.size, 0, none⟩) (by show W5.heap.size < W7.heap.size; omega)).trans kx0_0W7
    have kx0_1W8 := (b8.cell (p := ⟨W5.heap.size, 1, none⟩) (by show W5.heap.size < W7.heap.size; omega)).trans kx0_1W7
    have kx0_2W8 := (b8.cell (p := ⟨W5.heap.size, 2, none⟩) (by show W5.heap.size < W7.heap.size; omega)).trans kx0_2W7
    have A0W8 := sl.hid (A0W7.out.chg (sl.Chg.ofBelow (lo := 0) b8) (.inr (Nat.zero_le _)))
    have Or0W8 := sl.hid (Or0W7.out.chg (sl.Chg.ofBelow (lo := 0) b8) (.inr (.inr (Nat.zero_le _))))
    have Or1W8 := sl.hid (Or1W7.out.chg (sl.Chg.ofBelow (lo := 0) b8) (.inr (.inr (Nat.zero_le _))))
    have Or2W8 := sl.hid (Or2W7.out.chg (sl.Chg.ofBelow (lo := 0) b8) (.inr (.inr (Nat.zero_le _))))
    have Ox0W8 := sl.hid (Ox0W7.out.chg (sl.Chg.ofBelow (lo := 0) b8) (.inr (.inr (Nat.zero_le _))))
    have Og0W8 := sl.hid (Ovg0.out.chg (sl.Chg.ofBelow (lo := 0) b8) (.inr (.inr (Nat.zero_le _))))
    have Og1W8 := sl.hid (Ovg1.out.chg (sl.Chg.ofBelow (lo := 0) b8) (.inr (.inr (Nat.zero_le _))))
    have Og2W8 := sl.hid (Ovg2.out.chg (sl.Chg.ofBelow (lo := 0) b8) (.inr (.inr (Nat.zero_le _))))
    have CW8 := sl.hid (CW7.out.trans (b8.mono (by show w.heap.size ≤ W7.heap.size; omega)))
    clear b8 kp0_0W7 kp0_1W7 kp0_2W7 kx0_0W7 kx0_1W7 kx0_2W7 A0W7 Or0W7 Or1W7 Or2W7 Ox0W7 Ovg0 Ovg1 Ovg2 CW7
    go_wp2_with fail
    refine (sl.eqS zr1 _ _ _ _ W8 Og1W8.out.ints Or1W8.out.ints hr1).mono ?_
    rintro e W9 ⟨rfl, b9⟩
    have hzW9 : W8.heap.size ≤ W9.heap.size := b9.size
    have kp0_0W9 := (b9.cell (p := ⟨w.heap.size, 0, none⟩) (by show w.heap.size < W8.heap.size; omega)).trans kp0_0W8
    have kp0_1W9 := (b9.cell (p := ⟨w.heap.size, 1, none⟩) (by show w.heap.size < W8.heap.size; omega)).trans kp0_1W8
    have kp0_2W9 := (b9.cell (p := ⟨w.heap.size, 2, none⟩) (by show w.heap.size < W8.heap.size; omega)).trans kp0_2W8
    have kx0_0W9 := (b9.cell (p := ⟨W5.heap.size, 0, none⟩) (by show W5.heap.size < W8.heap.size; omega)).trans kx0_0W8
    have kx0_1W9 := (b9.cell (p := ⟨W5.heap.size, 1, none⟩) (by show W5.heap.size < W8.heap.size; omega)).trans kx0_1W8
    have kx0_2W9 := (b9.cell (p := ⟨W5.heap.size, 2, none⟩) (by show W5.heap.size < W8.heap.size; omega)).trans kx0_2W8
    have A0W9 := sl.hid (A0W8.out.chg (sl.Chg.ofBelow (lo := 0) b9) (.inr (Nat.zero_le _)))
    have Or0W9 := sl.hid (Or0W8.out.chg (sl.Chg.ofBelow (lo := 0) b9) (.inr (.inr (Nat.zero_le _))))
    have Or1W9 := sl.hid (Or1W8.out.chg (sl.Chg.ofBelow (lo := 0) b9) (.inr (.inr (Nat.zero_le _))))
    have Or2W9 := sl.hid (Or2W8.out.chg (sl.Chg.ofBelow (lo := 0) b9) (.inr (.inr (Nat.zero_le _))))
    have Ox0W9 := sl.hid (Ox0W8.out.chg (sl.Chg.ofBelow (lo := 0) b9) (.inr (.inr (Nat.zero_le _))))
    have Og0W9 := sl.hid (Og0W8.out.chg (sl.Chg.ofBelow (lo := 0) b9) (.inr (.inr (Nat.zero_le _))))
    have Og1W9 := sl.hid (Og1W8.out.chg (sl.Chg.ofBelow (lo := 0) b9) (.inr (.inr (Nat.zero_le _))))
    have Og2W9 := sl.hid (Og2W8.out.chg (sl.Chg.ofBelow (lo := 0) b9) (.inr (.inr (Nat.zero_le _))))
    have CW9 := sl.hid (CW8.out.trans (b9.mono (by show w.heap.size ≤ W8.heap.size; omega)))
    clear b9 kp0_0W8 kp0_1W8 kp0_2W8 kx0_0W8 kx0_1W8 kx0_2W8 A0W8 Or0W8 Or1W8 Or2W8 Ox0W8 Og0W8 Og1W8 Og2W8 CW8
    go_wp2_with fail
    refine (sl.eqS zr2 _ _ _ _ W9 Og2W9.out.ints Or2W9.out.ints hr2).mono ?_
    rintro e W10 ⟨rfl, b10⟩
    have hzW10 : W9.heap.size ≤ W10.heap.size := b10.size
    have kp0_0W10 := (b10.cell (p := ⟨w.heap.size, 0, none⟩) (by show w.heap.size < W9.heap.size; omega)).trans kp0_0W9
    have kp0_1W10 := (b10.cell (p := ⟨w.heap.size, 1, none⟩) (by show w.heap.size < W9.heap.size; omega)).trans kp0_1W9
    have kp0_2W10 := (b10.cell (p := ⟨w.heap.size, 2, none⟩) (by show w.heap.size < W9.heap.size; omega)).trans kp0_2W9
    have kx0_0W10 := (b10.cell (p := ⟨W5.heap.size, 0, none⟩) (by show W5.heap.size < W9.heap.size; omega)).trans kx0_0W9
    have kx0_1W10 := (b10.cell (p := ⟨W5.heap.size, 1, none⟩) (by show W5.heap.size < W9.heap.size; omega)).trans kx0_1W9
    have kx0_2W10 := (b10.cell (p := ⟨W5.heap.size, 2, none⟩) (by show W5.heap.size < W9.heap.size; omega)).trans kx0_2W9
    have A0W10 := sl.hid (A0W9.out.chg (sl.Chg.ofBelow (lo := 0) b10) (.inr (Nat.zero_le _)))
    have Or0W10 := sl.hid (Or0W9.out.chg (sl.Chg.ofBelow (lo := 0) b10) (.inr (.inr (Nat.zero_le _))))
    have Or1W10 := sl.hid (Or1W9.out.chg (sl.Chg.ofBelow (lo := 0) b10) (.inr (.inr (Nat.zero_le _))))
    have Or2W10 := sl.hid (Or2W9.out.chg (sl.Chg.ofBelow (lo := 0) b10) (.inr (.inr (Nat.zero_le _))))
    have Ox0W10 := sl.hid (Ox0W9.out.chg (sl.Chg.ofBelow (lo := 0) b10) (.inr (.inr (Nat.zero_le _))))
    have Og0W10 := sl.hid (Og0W9.out.chg (sl.Chg.ofBelow (lo := 0) b10) (.inr (.inr (Nat.zero_le _))))
    have Og1W10 := sl.hid (Og1W9.out.chg (sl.Chg.ofBelow (lo := 0) b10) (.inr (.inr (Nat.zero_le _))))
    have Og2W10 := sl.hid (Og2W9.out.chg (sl.Chg.ofBelow (lo := 0) b10) (.inr (.inr (Nat.zero_le _))))
    have CW10 := sl.hid (CW9.out.trans (b10.mono (by show w.heap.size ≤ W9.heap.size; omega)))
    clear b10 kp0_0W9 kp0_1W9 kp0_2W9 kx0_0W9 kx0_1W9 kx0_2W9 A0W9 Or0W9 Or1W9 Or2W9 Ox0W9 Og0W9 Og1W9 Og2W9 CW9
    go_wp2_with fail
    have bD := (Below.refl W10.heap.size W10).drew
    have A0dW10 := sl.hid (A0W10.out.chg (sl.Chg.ofBelow (lo := 0) bD) (.inr (Nat.zero_le _)))
    have Or0dW10 := sl.hid (Or0W10.out.chg (sl.Chg.ofBelow (lo := 0) bD) (.inr (.inr (Nat.zero_le _))))
    have Or1dW10 := sl.hid (Or1W10.out.chg (sl.Chg.ofBelow (lo := 0) bD) (.inr (.inr (Nat.zero_le _))))
    have Or2dW10 := sl.hid (Or2W10.out.chg (sl.Chg.ofBelow (lo := 0) bD) (.inr (.inr (Nat.zero_le _))))
    have Ox0dW10 := sl.hid (Ox0W10.out.chg (sl.Chg.ofBelow (lo := 0) bD) (.inr (.inr (Nat.zero_le _))))
    have Og0dW10 := sl.hid (Og0W10.out.chg (sl.Chg.ofBelow (lo := 0) bD) (.inr (.inr (Nat.zero_le _))))
    have Og1dW10 := sl.hid (Og1W10.out.chg (sl.Chg.ofBelow (lo := 0) bD) (.inr (.inr (Nat.zero_le _))))
    have Og2dW10 := sl.hid (Og2W10.out.chg (sl.Chg.ofBelow (lo := 0) bD) (.inr (.inr (Nat.zero_le _))))
    have CdW10 := sl.hid (CW10.out.drew)
    clear bD A0W10 Or0W10 Or1W10 Or2W10 Ox0W10 Og0W10 Og1W10 Og2W10 CW10
    go_region_held3 (fun w' => w'.cell? ⟨w.heap.size, 0, none⟩ = some (.int .i64 a0) ∧ w'.cell? ⟨w.heap.size, 1, none⟩ = some (.int .i64 c0) ∧ w'.cell? ⟨w.heap.size, 2, none⟩ = some (f0_0) ∧ w'.cell? ⟨W5.heap.size, 0, none⟩ = some (.int .i64 a0) ∧ w'.cell? ⟨W5.heap.size, 1, none⟩ = some (.int .i64 c0) ∧ w'.cell? ⟨W5.heap.size, 2, none⟩ = some (.slice ao5_0 ln5_0 cp5_0)) (go_keep)
      (first
        | (go_at_call 15
           refine (ct.toW a0 c0 xs0 f0_0 _ _ A0dW10.out (by show w.heap.size ≤ W10.heap.size; omega) HQ0.out).mono ?_
           rintro e W12 ⟨fc0_0, rfl, oc0, bB⟩
           have HJ0 := sl.hid oc0.ints
           have hzW12 : W10.heap.size ≤ W12.heap.size := bB.size
           have kp0_0W12 := (bB.cell (p := ⟨w.heap.size, 0, none⟩) (by show w.heap.size < W10.heap.size; omega)).trans kp0_0W10
           have kp0_1W12 := (bB.cell (p := ⟨w.heap.size, 1, none⟩) (by show w.heap.size < W10.heap.size; omega)).trans kp0_1W10
           have kp0_2W12 := (bB.cell (p := ⟨w.heap.size, 2, none⟩) (by show w.heap.size < W10.heap.size; omega)).trans kp0_2W10
           have kx0_0W12 := (bB.cell (p := ⟨W5.heap.size, 0, none⟩) (by show W5.heap.size < W10.heap.size; omega)).trans kx0_0W10
           have kx0_1W12 := (bB.cell (p := ⟨W5.heap.size, 1, none⟩) (by show W5.heap.size < W10.heap.size; omega)).trans kx0_1W10
           have kx0_2W12 := (bB.cell (p := ⟨W5.heap.size, 2, none⟩) (by show W5.heap.size < W10.heap.size; omega)).trans kx0_2W10
           have A0W12 := sl.hid (A0dW10.out.chg (sl.Chg.ofBelow (lo := 0) bB) (.inr (Nat.zero_le _)))
           have Or0W12 := sl.hid (Or0dW10.out.chg (sl.Chg.ofBelow (lo := 0) bB) (.inr (.inr (Nat.zero_le _))))
           have Or1W12 := sl.hid (Or1dW10.out.chg (sl.Chg.ofBelow (lo := 0) bB) (.inr (.inr (Nat.zero_le _))))
           have Or2W12 := sl.hid (Or2dW10.out.chg (sl.Chg.ofBelow (lo := 0) bB) (.inr (.inr (Nat.zero_le _))))
           have Ox0W12 := sl.hid (Ox0dW10.out.chg (sl.Chg.ofBelow (lo := 0) bB) (.inr (.inr (Nat.zero_le _))))
           have Og0W12 := sl.hid (Og0dW10.out.chg (sl.Chg.ofBelow (lo := 0) bB) (.inr (.inr (Nat.zero_le _))))
           have Og1W12 := sl.hid (Og1dW10.out.chg (sl.Chg.ofBelow (lo := 0) bB) (.inr (.inr (Nat.zero_le _))))
           have Og2W12 := sl.hid (Og2dW10.out.chg (sl.Chg.ofBelow (lo := 0) bB) (.inr (.inr (Nat.zero_le _))))
           have CW12 := sl.hid (CdW10.out.trans (bB.mono (by show w.heap.size ≤ W10.heap.size; omega)))
           clear oc0 bB kp0_0W10 kp0_1W10 kp0_2W10 kx0_0W10 kx0_1W10 kx0_2W10 A0dW10 Or0dW10 Or1dW10 Or2dW10 Ox0dW10 Og0dW10 Og1dW10 Og2dW10 CdW10)
        | (go_at_call 18
           refine (ct.eqWS a0 c0 xs0 _ _ _ _ W12 Ox0W12.out.ints HJ0.out HQ0.out).mono ?_
           rintro e W13 ⟨rfl, bC⟩
           have hzW13 : W12.heap.size ≤ W13.heap.size := bC.size
           have kp0_0W13 := (bC.cell (p := ⟨w.heap.size, 0, none⟩) (by show w.heap.size < W12.heap.size; omega)).trans kp0_0W12
           have kp0_1W13 := (bC.cell (p := ⟨w.heap.size, 1, none⟩) (by show w.heap.size < W12.heap.size; omega)).trans kp0_1W12
           have kp0_2W13 := (bC.cell (p := ⟨w.heap.size, 2, none⟩) (by show w.heap.size < W12.heap.size; omega)).trans kp0_2W12
           have kx0_0W13 := (bC.cell (p := ⟨W5.heap.size, 0, none⟩) (by show W5.heap.size < W12.heap.size; omega)).trans kx0_0W12
           have kx0_1W13 := (bC.cell (p := ⟨W5.heap.size, 1, none⟩) (by show W5.heap.size < W12.heap.size; omega)).trans kx0_1W12
           have kx0_2W13 := (bC.cell (p := ⟨W5.heap.size, 2, none⟩) (by show W5.heap.size < W12.heap.size; omega)).trans kx0_2W12
           have A0W13 := sl.hid (A0W12.out.chg (sl.Chg.ofBelow (lo := 0) bC) (.inr (Nat.zero_le _)))
           have Or0W13 := sl.hid (Or0W12.out.chg (sl.Chg.ofBelow (lo := 0) bC) (.inr (.inr (Nat.zero_le _))))
           have Or1W13 := sl.hid (Or1W12.out.chg (sl.Chg.ofBelow (lo := 0) bC) (.inr (.inr (Nat.zero_le _))))
           have Or2W13 := sl.hid (Or2W12.out.chg (sl.Chg.ofBelow (lo := 0) bC) (.inr (.inr (Nat.zero_le _))))
           have Ox0W13 := sl.hid (Ox0W12.out.chg (sl.Chg.ofBelow (lo := 0) bC) (.inr (.inr (Nat.zero_le _))))
           have Og0W13 := sl.hid (Og0W12.out.chg (sl.Chg.ofBelow (lo := 0) bC) (.inr (.inr (Nat.zero_le _))))
           have Og1W13 := sl.hid (Og1W12.out.chg (sl.Chg.ofBelow (lo := 0) bC) (.inr (.inr (Nat.zero_le _))))
           have Og2W13 := sl.hid (Og2W12.out.chg (sl.Chg.ofBelow (lo := 0) bC) (.inr (.inr (Nat.zero_le _))))
           have CW13 := sl.hid (CW12.out.trans (bC.mono (by show w.heap.size ≤ W12.heap.size; omega)))
           clear HJ0 bC kp0_0W12 kp0_1W12 kp0_2W12 kx0_0W12 kx0_1W12 kx0_2W12 A0W12 Or0W12 Or1W12 Or2W12 Ox0W12 Og0W12 Og1W12 Og2W12 CW12))
    go_wp2_with fail
    refine (ct.markW1 a0 c0 xs0 _ _ _ 1 W13 Ox0W13.out HQ0.out (by omega) (by omega)).mono ?_
    rintro e W14 ⟨km14, rfl, hkm14, c14⟩
    have hkd14 : decide (km14 < 0) = false := by simp; omega
    clear Ox0W13
    have hzW14 : W13.heap.size ≤ W14.heap.size := c14.size
    have kp0_0W14 := (World.cell?_of_block (w := W13) (w' := W14) (a := ⟨w.heap.size, 0, none⟩) (c14.block (w.heap.size) (by omega) (by omega))).trans kp0_0W13
    have kp0_1W14 := (World.cell?_of_block (w := W13) (w' := W14) (a := ⟨w.heap.size, 1, none⟩) (c14.block (w.heap.size) (by omega) (by omega))).trans kp0_1W13
    have kp0_2W14 := (World.cell?_of_block (w := W13) (w' := W14) (a := ⟨w.heap.size, 2, none⟩) (c14.block (w.heap.size) (by omega) (by omega))).trans kp0_2W13
    have A0W14 := sl.hid (A0W13.out.chg c14 (by omega))
    have Or0W14 := sl.hid (Or0W13.out.chg c14 (by omega))
    have Or1W14 := sl.hid (Or1W13.out.chg c14 (by omega))
    have Or2W14 := sl.hid (Or2W13.out.chg c14 (by omega))
    have Og0W14 := sl.hid (Og0W13.out.chg c14 (by omega))
    have Og1W14 := sl.hid (Og1W13.out.chg c14 (by omega))
    have Og2W14 := sl.hid (Og2W13.out.chg c14 (by omega))
    have CW14 := sl.hid (CW13.out.trans (c14.below (by omega) (by omega)))
    clear c14 kp0_0W13 kp0_1W13 kp0_2W13 A0W13 Or0W13 Or1W13 Or2W13 Og0W13 Og1W13 Og2W13 CW13
    go_wp2_with fail
    refine (sl.eqS zr0 _ _ _ _ W14 Og0W14.out.ints Or0W14.out.ints hr0).mono ?_
    rintro e W15 ⟨rfl, b15⟩
    have hzW15 : W14.heap.size ≤ W15.heap.size := b15.size
    have kp0_0W15 := (b15.cell (p := ⟨w.heap.size, 0, none⟩) (by show w.heap.size < W14.heap.size; omega)).trans kp0_0W14
    have kp0_1W15 := (b15.cell (p := ⟨w.heap.size, 1, none⟩) (by show w.heap.size < W14.heap.size; omega)).trans kp0_1W14
    have kp0_2W15 := (b15.cell (p := ⟨w.heap.size, 2, none⟩) (by show w.heap.size < W14.heap.size; omega)).trans kp0_2W14
    have A0W15 := sl.hid (A0W14.out.chg (sl.Chg.ofBelow (lo := 0) b15) (.inr (Nat.zero_le _)))
    have Or0W15 := sl.hid (Or0W14.out.chg (sl.Chg.ofBelow (lo := 0) b15) (.inr (.inr (Nat.zero_le _))))
    have Or1W15 := sl.hid (Or1W14.out.chg (sl.Chg.ofBelow (lo := 0) b15) (.inr (.inr (Nat.zero_le _))))
    have Or2W15 := sl.hid (Or2W14.out.chg (sl.Chg.ofBelow (lo := 0) b15) (.inr (.inr (Nat.zero_le _))))
    have Og0W15 := sl.hid (Og0W14.out.chg (sl.Chg.ofBelow (lo := 0) b15) (.inr (.inr (Nat.zero_le _))))
    have Og1W15 := sl.hid (Og1W14.out.chg (sl.Chg.ofBelow (lo := 0) b15) (.inr (.inr (Nat.zero_le _))))
    have Og2W15 := sl.hid (Og2W14.out.chg (sl.Chg.ofBelow (lo := 0) b15) (.inr (.inr (Nat.zero_le _))))
    have CW15 := sl.hid (CW14.out.trans (b15.mono (by show w.heap.size ≤ W14.heap.size; omega)))
    clear b15 kp0_0W14 kp0_1W14 kp0_2W14 A0W14 Or0W14 Or1W14 Or2W14 Og0W14 Og1W14 Og2W14 CW14
    go_wp2_with fail
    refine (sl.eqS zr1 _ _ _ _ W15 Og1W15.out.ints Or1W15.out.ints hr1).mono ?_
    rintro e W16 ⟨rfl, b16⟩
    have hzW16 : W15.heap.size ≤ W16.heap.size := b16.size
    have kp0_0W16 := (b16.cell (p := ⟨w.heap.size, 0, none⟩) (by show w.heap.size < W15.heap.size; omega)).trans kp0_0W15
    have kp0_1W16 := (b16.cell (p := ⟨w.heap.size, 1, none⟩) (by show w.heap.size < W15.heap.size; omega)).trans kp0_1W15
    have kp0_2W16 := (b16.cell (p := ⟨w.heap.size, 2, none⟩) (by show w.heap.size < W15.heap.size; omega)).trans kp0_2W15
    have A0W16 := sl.hid (A0W15.out.chg (sl.Chg.ofBelow (lo := 0) b16) (.inr (Nat.zero_le _)))
    have Or0W16 := sl.hid (Or0W15.out.chg (sl.Chg.ofBelow (lo := 0) b16) (.inr (.inr (Nat.zero_le _))))
    have Or1W16 := sl.hid (Or1W15.out.chg (sl.Chg.ofBelow (lo := 0) b16) (.inr (.inr (Nat.zero_le _))))
    have Or2W16 := sl.hid (Or2W15.out.chg (sl.Chg.ofBelow (lo := 0) b16) (.inr (.inr (Nat.zero_le _))))
    have Og0W16 := sl.hid (Og0W15.out.chg (sl.Chg.ofBelow (lo := 0) b16) (.inr (.inr (Nat.zero_le _))))
    have Og1W16 := sl.hid (Og1W15.out.chg (sl.Chg.ofBelow (lo := 0) b16) (.inr (.inr (Nat.zero_le _))))
    have Og2W16 := sl.hid (Og2W15.out.chg (sl.Chg.ofBelow (lo := 0) b16) (.inr (.inr (Nat.zero_le _))))
    have CW16 := sl.hid (CW15.out.trans (b16.mono (by show w.heap.size ≤ W15.heap.size; omega)))
    clear b16 kp0_0W15 kp0_1W15 kp0_2W15 A0W15 Or0W15 Or1W15 Or2W15 Og0W15 Og1W15 Og2W15 CW15
    go_wp2_with fail
    refine (sl.eqS zr2 _ _ _ _ W16 Og2W16.out.ints Or2W16.out.ints hr2).mono ?_
    rintro e W17 ⟨rfl, b17⟩
    have hzW17 : W16.heap.size ≤ W17.heap.size := b17.size
    have kp0_0W17 := (b17.cell (p := ⟨w.heap.size, 0, none⟩) (by show w.heap.size < W16.heap.size; omega)).trans kp0_0W16
    have kp0_1W17 := (b17.cell (p := ⟨w.heap.size, 1, none⟩) (by show w.heap.size < W16.heap.size; omega)).trans kp0_1W16
    have kp0_2W17 := (b17.cell (p := ⟨w.heap.size, 2, none⟩) (by show w.heap.size < W16.heap.size; omega)).trans kp0_2W16
    have A0W17 := sl.hid (A0W16.out.chg (sl.Chg.ofBelow (lo := 0) b17) (.inr (Nat.zero_le _)))
    have Or0W17 := sl.hid (Or0W16.out.chg (sl.Chg.ofBelow (lo := 0) b17) (.inr (.inr (Nat.zero_le _))))
    have Or1W17 := sl.hid (Or1W16.out.chg (sl.Chg.ofBelow (lo := 0) b17) (.inr (.inr (Nat.zero_le _))))
    have Or2W17 := sl.hid (Or2W16.out.chg (sl.Chg.ofBelow (lo := 0) b17) (.inr (.inr (Nat.zero_le _))))
    have Og0W17 := sl.hid (Og0W16.out.chg (sl.Chg.ofBelow (lo := 0) b17) (.inr (.inr (Nat.zero_le _))))
    have Og1W17 := sl.hid (Og1W16.out.chg (sl.Chg.ofBelow (lo := 0) b17) (.inr (.inr (Nat.zero_le _))))
    have Og2W17 := sl.hid (Og2W16.out.chg (sl.Chg.ofBelow (lo := 0) b17) (.inr (.inr (Nat.zero_le _))))
    have CW17 := sl.hid (CW16.out.trans (b17.mono (by show w.heap.size ≤ W16.heap.size; omega)))
    clear b17 kp0_0W16 kp0_1W16 kp0_2W16 A0W16 Or0W16 Or1W16 Or2W16 Og0W16 Og1W16 Og2W16 CW16
    go_wp2_with fail
    refine (sl.markI zr0 _ _ _ 1 W17 Og0W17.out hr0 (by omega) (by omega)).mono ?_
    rintro e W18 ⟨rfl, o18, c18⟩
    have hzW18 : W17.heap.size ≤ W18.heap.size := c18.size
    have kp0_0W18 := (World.cell?_of_block (w := W17) (w' := W18) (a := ⟨w.heap.size, 0, none⟩) (c18.block (w.heap.size) (by omega) (by omega))).trans kp0_0W17
    have kp0_1W18 := (World.cell?_of_block (w := W17) (w' := W18) (a := ⟨w.heap.size, 1, none⟩) (c18.block (w.heap.size) (by omega) (by omega))).trans kp0_1W17
    have kp0_2W18 := (World.cell?_of_block (w := W17) (w' := W18) (a := ⟨w.heap.size, 2, none⟩) (c18.block (w.heap.size) (by omega) (by omega))).trans kp0_2W17
    have A0W18 := sl.hid (A0W17.out.chg c18 (by omega))
    have Or0W18 := sl.hid (Or0W17.out.chg c18 (by omega))
    have Or1W18 := sl.hid (Or1W17.out.chg c18 (by omega))
    have Or2W18 := sl.hid (Or2W17.out.chg c18 (by omega))
    have Og1W18 := sl.hid (Og1W17.out.chg c18 (by omega))
    have Og2W18 := sl.hid (Og2W17.out.chg c18 (by omega))
    have CW18 := sl.hid (CW17.out.trans (c18.below (by omega) (by omega)))
    clear c18 kp0_0W17 kp0_1W17 kp0_2W17 A0W17 Or0W17 Or1W17 Or2W17 Og1W17 Og2W17 CW17
    have On18 := sl.hid o18
    clear o18 Og0W17
    go_wp2_with fail
    refine (sl.markI zr1 _ _ _ (1 + (zr0.length : Int)) W18 Og1W18.out hr1 (by omega) (by omega)).mono ?_
    rintro e W19 ⟨rfl, o19, c19⟩
    have hzW19 : W18.heap.size ≤ W19.heap.size := c19.size
    have kp0_0W19 := (World.cell?_of_block (w := W18) (w' := W19) (a := ⟨w.heap.size, 0, none⟩) (c19.block (w.heap.size) (by omega) (by omega))).trans kp0_0W18
    have kp0_1W19 := (World.cell?_of_block (w := W18) (w' := W19) (a := ⟨w.heap.size, 1, none⟩) (c19.block (w.heap.size) (by omega) (by omega))).trans kp0_1W18
    have kp0_2W19 := (World.cell?_of_block (w := W18) (w' := W19) (a := ⟨w.heap.size, 2, none⟩) (c19.block (w.heap.size) (by omega) (by omega))).trans kp0_2W18
    have A0W19 := sl.hid (A0W18.out.chg c19 (by omega))
    have Or0W19 := sl.hid (Or0W18.out.chg c19 (by omega))
    have Or1W19 := sl.hid (Or1W18.out.chg c19 (by omega))
    have Or2W19 := sl.hid (Or2W18.out.chg c19 (by omega))
    have Og0W19 := sl.hid (On18.out.chg c19 (by omega))
    have Og2W19 := sl.hid (Og2W18.out.chg c19 (by omega))
    have CW19 := sl.hid (CW18.out.trans (c19.below (by omega) (by omega)))
    clear c19 kp0_0W18 kp0_1W18 kp0_2W18 A0W18 Or0W18 Or1W18 Or2W18 On18 Og2W18 CW18
    have On19 := sl.hid o19
    clear o19 Og1W18
    go_wp2_with fail
    refine (sl.markI zr2 _ _ _ ((1 + (zr0.length : Int)) + (zr1.length : Int)) W19 Og2W19.out hr2 (by omega) (by omega)).mono ?_
    rintro e W20 ⟨rfl, o20, c20⟩
    have hzW20 : W19.heap.size ≤ W20.heap.size := c20.size
    have kp0_0W20 := (World.cell?_of_block (w := W19) (w' := W20) (a := ⟨w.heap.size, 0, none⟩) (c20.block (w.heap.size) (by omega) (by omega))).trans kp0_0W19
    have kp0_1W20 := (World.cell?_of_block (w := W19) (w' := W20) (a := ⟨w.heap.size, 1, none⟩) (c20.block (w.heap.size) (by omega) (by omega))).trans kp0_1W19
    have kp0_2W20 := (World.cell?_of_block (w := W19) (w' := W20) (a := ⟨w.heap.size, 2, none⟩) (c20.block (w.heap.size) (by omega) (by omega))).trans kp0_2W19
    have A0W20 := sl.hid (A0W19.out.chg c20 (by omega))
    have Or0W20 := sl.hid (Or0W19.out.chg c20 (by omega))
    have Or1W20 := sl.hid (Or1W19.out.chg c20 (by omega))
    have Or2W20 := sl.hid (Or2W19.out.chg c20 (by omega))
    have Og0W20 := sl.hid (Og0W19.out.chg c20 (by omega))
    have Og1W20 := sl.hid (On19.out.chg c20 (by omega))
    have CW20 := sl.hid (CW19.out.trans (c20.below (by omega) (by omega)))
    clear c20 kp0_0W19 kp0_1W19 kp0_2W19 A0W19 Or0W19 Or1W19 Or2W19 Og0W19 On19 CW19
    have On20 := sl.hid o20
    clear o20 Og2W19
    go_wp2_with fail
    refine (sl.heldI zr0.length _ _ 1 W20 Og0W20.out.ints hr0 (by omega) (by omega)).mono ?_
    rintro e W21 ⟨rfl, rfl⟩
    go_wp2_with fail
    refine (sl.heldI zr1.length _ _ (1 + (zr0.length : Int)) W20 Og1W20.out.ints hr1 (by omega) (by omega)).mono ?_
    rintro e W22 ⟨rfl, rfl⟩
    go_wp2_with fail
    refine (sl.heldI zr2.length _ _ ((1 + (zr0.length : Int)) + (zr1.length : Int)) W20 On20.out.ints hr2 (by omega) (by omega)).mono ?_
    rintro e W23 ⟨rfl, rfl⟩
    go_wp2_with fail
    refine (ct.toW a0 c0 xs0 f0_0 _ W20 A0W20.out (by omega) HQ0.out).mono ?_
    rintro e W24 ⟨f0_0_24, rfl, o24, b24⟩
    obtain ⟨ao24_0, ln24_0, cp24_0, rfl⟩ := l5.rval o24
    have On24 := sl.hid o24
    clear o24
    have hzW24 : W20.heap.size ≤ W24.heap.size := b24.size
    have kp0_0W24 := (b24.cell (p := ⟨w.heap.size, 0, none⟩) (by show w.heap.size < W20.heap.size; omega)).trans kp0_0W20
    have kp0_1W24 := (b24.cell (p := ⟨w.heap.size, 1, none⟩) (by show w.heap.size < W20.heap.size; omega)).trans kp0_1W20
    have kp0_2W24 := (b24.cell (p := ⟨w.heap.size, 2, none⟩) (by show w.heap.size < W20.heap.size; omega)).trans kp0_2W20
    have A0W24 := sl.hid (A0W20.out.chg (sl.Chg.ofBelow (lo := 0) b24) (.inr (Nat.zero_le _)))
    have Or0W24 := sl.hid (Or0W20.out.chg (sl.Chg.ofBelow (lo := 0) b24) (.inr (.inr (Nat.zero_le _))))
    have Or1W24 := sl.hid (Or1W20.out.chg (sl.Chg.ofBelow (lo := 0) b24) (.inr (.inr (Nat.zero_le _))))
    have Or2W24 := sl.hid (Or2W20.out.chg (sl.Chg.ofBelow (lo := 0) b24) (.inr (.inr (Nat.zero_le _))))
    have Og0W24 := sl.hid (Og0W20.out.chg (sl.Chg.ofBelow (lo := 0) b24) (.inr (.inr (Nat.zero_le _))))
    have Og1W24 := sl.hid (Og1W20.out.chg (sl.Chg.ofBelow (lo := 0) b24) (.inr (.inr (Nat.zero_le _))))
    have Og2W24 := sl.hid (On20.out.chg (sl.Chg.ofBelow (lo := 0) b24) (.inr (.inr (Nat.zero_le _))))
    have CW24 := sl.hid (CW20.out.trans (b24.mono (by show w.heap.size ≤ W20.heap.size; omega)))
    clear b24 kp0_0W20 kp0_1W20 kp0_2W20 A0W20 Or0W20 Or1W20 Or2W20 Og0W20 Og1W20 On20 CW20
    go_wp2_with fail
    refine (IP.out _ W24 _ CW24.out On24.out.ints (by omega)).mono ?_
    rintro e W25 ⟨v25_0, v25_1, v25_2, rfl, t25, b25⟩
    have hzW25 : W24.heap.size ≤ W25.heap.size := b25.size
    have kp0_0W25 := (b25.cell (p := ⟨w.heap.size, 0, none⟩) (by show w.heap.size < W24.heap.size; omega)).trans kp0_0W24
    have kp0_1W25 := (b25.cell (p := ⟨w.heap.size, 1, none⟩) (by show w.heap.size < W24.heap.size; omega)).trans kp0_1W24
    have kp0_2W25 := (b25.cell (p := ⟨w.heap.size, 2, none⟩) (by show w.heap.size < W24.heap.size; omega)).trans kp0_2W24
    have A0W25 := sl.hid (A0W24.out.chg (sl.Chg.ofBelow (lo := 0) b25) (.inr (Nat.zero_le _)))
    have Or0W25 := sl.hid (Or0W24.out.chg (sl.Chg.ofBelow (lo := 0) b25) (.inr (.inr (Nat.zero_le _))))
    have Or1W25 := sl.hid (Or1W24.out.chg (sl.Chg.ofBelow (lo := 0) b25) (.inr (.inr (Nat.zero_le _))))
    have Or2W25 := sl.hid (Or2W24.out.chg (sl.Chg.ofBelow (lo := 0) b25) (.inr (.inr (Nat.zero_le _))))
    have Og0W25 := sl.hid (Og0W24.out.chg (sl.Chg.ofBelow (lo := 0) b25) (.inr (.inr (Nat.zero_le _))))
    have Og1W25 := sl.hid (Og1W24.out.chg (sl.Chg.ofBelow (lo := 0) b25) (.inr (.inr (Nat.zero_le _))))
    have Og2W25 := sl.hid (Og2W24.out.chg (sl.Chg.ofBelow (lo := 0) b25) (.inr (.inr (Nat.zero_le _))))
    have Oz0W25 := sl.hid (On24.out.chg (sl.Chg.ofBelow (lo := 0) b25) (.inr (.inr (Nat.zero_le _))))
    have CW25 := sl.hid (CW24.out.trans (b25.mono (by show w.heap.size ≤ W24.heap.size; omega)))
    obtain ⟨l25_0, e25_0, l25_1, e25_1, l25_2, e25_2, o25_0, o25_1, o25_2, f25_0, f25_1, f25_2, f25_3, f25_4, f25_5, f25_6, f25_7, f25_8⟩ := t25
    have Ovh0 := sl.hid o25_0
    clear o25_0
    have Ovh1 := sl.hid o25_1
    clear o25_1
    have Ovh2 := sl.hid o25_2
    clear o25_2
    clear b25 kp0_0W24 kp0_1W24 kp0_2W24 A0W24 Or0W24 Or1W24 Or2W24 Og0W24 Og1W24 Og2W24 On24 CW24
    go_wp2_with fail
    refine (sl.eqS zr0 _ _ _ _ W25 Ovh0.out.ints Or0W25.out.ints hr0).mono ?_
    rintro e W26 ⟨rfl, b26⟩
    have hzW26 : W25.heap.size ≤ W26.heap.size := b26.size
    have kp0_0W26 := (b26.cell (p := ⟨w.heap.size, 0, none⟩) (by show w.heap.size < W25.heap.size; omega)).trans kp0_0W25
    have kp0_1W26 := (b26.cell (p := ⟨w.heap.size, 1, none⟩) (by show w.heap.size < W25.heap.size; omega)).trans kp0_1W25
    have kp0_2W26 := (b26.cell (p := ⟨w.heap.size, 2, none⟩) (by show w.heap.size < W25.heap.size; omega)).trans kp0_2W25
    have A0W26 := sl.hid (A0W25.out.chg (sl.Chg.ofBelow (lo := 0) b26) (.inr (Nat.zero_le _)))
    have Or0W26 := sl.hid (Or0W25.out.chg (sl.Chg.ofBelow (lo := 0) b26) (.inr (.inr (Nat.zero_le _))))
    have Or1W26 := sl.hid (Or1W25.out.chg (sl.Chg.ofBelow (lo := 0) b26) (.inr (.inr (Nat.zero_le _))))
    have Or2W26 := sl.hid (Or2W25.out.chg (sl.Chg.ofBelow (lo := 0) b26) (.inr (.inr (Nat.zero_le _))))
    have Og0W26 := sl.hid (Og0W25.out.chg (sl.Chg.ofBelow (lo := 0) b26) (.inr (.inr (Nat.zero_le _))))
    have Og1W26 := sl.hid (Og1W25.out.chg (sl.Chg.ofBelow (lo := 0) b26) (.inr (.inr (Nat.zero_le _))))
    have Og2W26 := sl.hid (Og2W25.out.chg (sl.Chg.ofBelow (lo := 0) b26) (.inr (.inr (Nat.zero_le _))))
    have Oh0W26 := sl.hid (Ovh0.out.chg (sl.Chg.ofBelow (lo := 0) b26) (.inr (.inr (Nat.zero_le _))))
    have Oh1W26 := sl.hid (Ovh1.out.chg (sl.Chg.ofBelow (lo := 0) b26) (.inr (.inr (Nat.zero_le _))))
    have Oh2W26 := sl.hid (Ovh2.out.chg (sl.Chg.ofBelow (lo := 0) b26) (.inr (.inr (Nat.zero_le _))))
    have CW26 := sl.hid (CW25.out.trans (b26.mono (by show w.heap.size ≤ W25.heap.size; omega)))
    clear b26 kp0_0W25 kp0_1W25 kp0_2W25 A0W25 Or0W25 Or1W25 Or2W25 Og0W25 Og1W25 Og2W25 Ovh0 Ovh1 Ovh2 CW25
    go_wp2_with fail
    refine (sl.eqS zr1 _ _ _ _ W26 Oh1W26.out.ints Or1W26.out.ints hr1).mono ?_
    rintro e W27 ⟨rfl, b27⟩
    have hzW27 : W26.heap.size ≤ W27.heap.size := b27.size
    have kp0_0W27 := (b27.cell (p := ⟨w.heap.size, 0, none⟩) (by show w.heap.size < W26.heap.size; omega)).trans kp0_0W26
    have kp0_1W27 := (b27.cell (p := ⟨w.heap.size, 1, none⟩) (by show w.heap.size < W26.heap.size; omega)).trans kp0_1W26
    have kp0_2W27 := (b27.cell (p := ⟨w.heap.size, 2, none⟩) (by show w.heap.size < W26.heap.size; omega)).trans kp0_2W26
    have A0W27 := sl.hid (A0W26.out.chg (sl.Chg.ofBelow (lo := 0) b27) (.inr (Nat.zero_le _)))
    have Or0W27 := sl.hid (Or0W26.out.chg (sl.Chg.ofBelow (lo := 0) b27) (.inr (.inr (Nat.zero_le _))))
    have Or1W27 := sl.hid (Or1W26.out.chg (sl.Chg.ofBelow (lo := 0) b27) (.inr (.inr (Nat.zero_le _))))
    have Or2W27 := sl.hid (Or2W26.out.chg (sl.Chg.ofBelow (lo := 0) b27) (.inr (.inr (Nat.zero_le _))))
    have Og0W27 := sl.hid (Og0W26.out.chg (sl.Chg.ofBelow (lo := 0) b27) (.inr (.inr (Nat.zero_le _))))
    have Og1W27 := sl.hid (Og1W26.out.chg (sl.Chg.ofBelow (lo := 0) b27) (.inr (.inr (Nat.zero_le _))))
    have Og2W27 := sl.hid (Og2W26.out.chg (sl.Chg.ofBelow (lo := 0) b27) (.inr (.inr (Nat.zero_le _))))
    have Oh0W27 := sl.hid (Oh0W26.out.chg (sl.Chg.ofBelow (lo := 0) b27) (.inr (.inr (Nat.zero_le _))))
    have Oh1W27 := sl.hid (Oh1W26.out.chg (sl.Chg.ofBelow (lo := 0) b27) (.inr (.inr (Nat.zero_le _))))
    have Oh2W27 := sl.hid (Oh2W26.out.chg (sl.Chg.ofBelow (lo := 0) b27) (.inr (.inr (Nat.zero_le _))))
    have CW27 := sl.hid (CW26.out.trans (b27.mono (by show w.heap.size ≤ W26.heap.size; omega)))
    clear b27 kp0_0W26 kp0_1W26 kp0_2W26 A0W26 Or0W26 Or1W26 Or2W26 Og0W26 Og1W26 Og2W26 Oh0W26 Oh1W26 Oh2W26 CW26
    go_wp2_with fail
    refine (sl.eqS zr2 _ _ _ _ W27 Oh2W27.out.ints Or2W27.out.ints hr2).mono ?_
    rintro e W28 ⟨rfl, b28⟩
    have hzW28 : W27.heap.size ≤ W28.heap.size := b28.size
    have kp0_0W28 := (b28.cell (p := ⟨w.heap.size, 0, none⟩) (by show w.heap.size < W27.heap.size; omega)).trans kp0_0W27
    have kp0_1W28 := (b28.cell (p := ⟨w.heap.size, 1, none⟩) (by show w.heap.size < W27.heap.size; omega)).trans kp0_1W27
    have kp0_2W28 := (b28.cell (p := ⟨w.heap.size, 2, none⟩) (by show w.heap.size < W27.heap.size; omega)).trans kp0_2W27
    have A0W28 := sl.hid (A0W27.out.chg (sl.Chg.ofBelow (lo := 0) b28) (.inr (Nat.zero_le _)))
    have Or0W28 := sl.hid (Or0W27.out.chg (sl.Chg.ofBelow (lo := 0) b28) (.inr (.inr (Nat.zero_le _))))
    have Or1W28 := sl.hid (Or1W27.out.chg (sl.Chg.ofBelow (lo := 0) b28) (.inr (.inr (Nat.zero_le _))))
    have Or2W28 := sl.hid (Or2W27.out.chg (sl.Chg.ofBelow (lo := 0) b28) (.inr (.inr (Nat.zero_le _))))
    have Og0W28 := sl.hid (Og0W27.out.chg (sl.Chg.ofBelow (lo := 0) b28) (.inr (.inr (Nat.zero_le _))))
    have Og1W28 := sl.hid (Og1W27.out.chg (sl.Chg.ofBelow (lo := 0) b28) (.inr (.inr (Nat.zero_le _))))
    have Og2W28 := sl.hid (Og2W27.out.chg (sl.Chg.ofBelow (lo := 0) b28) (.inr (.inr (Nat.zero_le _))))
    have Oh0W28 := sl.hid (Oh0W27.out.chg (sl.Chg.ofBelow (lo := 0) b28) (.inr (.inr (Nat.zero_le _))))
    have Oh1W28 := sl.hid (Oh1W27.out.chg (sl.Chg.ofBelow (lo := 0) b28) (.inr (.inr (Nat.zero_le _))))
    have Oh2W28 := sl.hid (Oh2W27.out.chg (sl.Chg.ofBelow (lo := 0) b28) (.inr (.inr (Nat.zero_le _))))
    have CW28 := sl.hid (CW27.out.trans (b28.mono (by show w.heap.size ≤ W27.heap.size; omega)))
    clear b28 kp0_0W27 kp0_1W27 kp0_2W27 A0W27 Or0W27 Or1W27 Or2W27 Og0W27 Og1W27 Og2W27 Oh0W27 Oh1W27 Oh2W27 CW27
    go_wp2_with fail
    refine (sl.heldI zr0.length _ _ 1 W28 Og0W28.out.ints hr0 (by omega) (by omega)).mono ?_
    rintro e W29 ⟨rfl, rfl⟩
    go_wp2_with fail
    refine (sl.heldI zr1.length _ _ (1 + (zr0.length : Int)) W28 Og1W28.out.ints hr1 (by omega) (by omega)).mono ?_
    rintro e W30 ⟨rfl, rfl⟩
    go_wp2_with fail
    refine (sl.heldI zr2.length _ _ ((1 + (zr0.length : Int)) + (zr1.length : Int)) W28 Og2W28.out.ints hr2 (by omega) (by omega)).mono ?_
    rintro e W31 ⟨rfl, rfl⟩
    go_wp2
    go_ret
    exact ⟨rfl, CW28.out⟩
end Go.Proofs.YtbbnheiibkcgiaaDoor.wrowTargets
