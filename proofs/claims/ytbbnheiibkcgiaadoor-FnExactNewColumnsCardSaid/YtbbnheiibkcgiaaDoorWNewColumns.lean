/-
  The walk of the law of NewColumns.
-/
import Derived.Test.YtbbnheiibkcgiaaDoorLa5
import Derived.Test.YtbbnheiibkcgiaaDoorL5
import Derived.Test.YtbbnheiibkcgiaaDoorMk1
import Derived.Deep.RegionHeld3
import Derived.Deep.CutRange
namespace Go.Proofs.YtbbnheiibkcgiaaDoor.wnewColumns
open Go.RowKit
set_option linter.unusedVariables false

set_option maxRecDepth 100000 in
set_option maxHeartbeats 20000000 in
theorem law (a0 c0 : Int) (f0_0 : Value) (xs0 : List Int) (w : World) (hi0 : l5.IntsIn w f0_0 xs0) (ha0 : -9223372036854775808 ≤ a0 ∧ a0 ≤ 9223372036854775807) (hc0 : -9223372036854775808 ≤ c0 ∧ c0 ≤ 9223372036854775807) (hTb : stb.Tab w) :
    Calls Tryd.prog 7 #[.agg #[.int .i64 a0, .int .i64 c0, f0_0]] w fun e w' => e = .returned (.bool true) ∧ Below w.heap.size w w' := by
  have HTb := sl.hid hTb
  clear hTb
  have HI0 := sl.hid hi0.rd
  have HZ0 := sl.hid (fun W B h => ct.szW1 a0 c0 xs0 f0_0 B (1048576) W h hi0.len hi0.short (by omega) (by omega))
  rcases l5.szL_pos (n := xs0.length) (left := 1048576) (by omega) with hzc0 | hzc0
  · rw [hzc0] at HZ0
    clear hzc0 hi0 ha0 hc0
    go_enter Tryd.func7, Tryd.ntmps7
    go_wp2_with fail
    have bE : Below w.heap.size w (w.alloc (.cells #[.int .i64 a0, .int .i64 c0, f0_0] 36)) := ((Below.refl w.heap.size w).alloc (by simp) _)
    have hzW0 : w.heap.size + 1 ≤ (w.alloc (.cells #[.int .i64 a0, .int .i64 c0, f0_0] 36)).heap.size := by simp
    have kp0_0W0 : (w.alloc (.cells #[.int .i64 a0, .int .i64 c0, f0_0] 36)).cell? ⟨w.heap.size, 0, none⟩ = some (.int .i64 a0) := World.cell?_alloc_at _ _ _ _ (by simp)
    have kp0_1W0 : (w.alloc (.cells #[.int .i64 a0, .int .i64 c0, f0_0] 36)).cell? ⟨w.heap.size, 1, none⟩ = some (.int .i64 c0) := World.cell?_alloc_at _ _ _ _ (by simp)
    have kp0_2W0 : (w.alloc (.cells #[.int .i64 a0, .int .i64 c0, f0_0] 36)).cell? ⟨w.heap.size, 2, none⟩ = some (f0_0) := World.cell?_alloc_at _ _ _ _ (by simp)
    have A0W0 := sl.hid (HI0.out.chg (sl.Chg.ofBelow (lo := 0) bE) (.inr (Nat.zero_le _)))
    have CW0 := sl.hid bE
    clear bE HI0
    generalize (w.alloc (.cells #[.int .i64 a0, .int .i64 c0, f0_0] 36)) = W0 at *
    go_wp2_with fail
    refine (HZ0.out W0 _ A0W0.out).mono ?_
    rintro e W1 ⟨rfl, b1⟩
    have hzW1 : W0.heap.size ≤ W1.heap.size := b1.size
    have kp0_0W1 := (b1.cell (p := ⟨w.heap.size, 0, none⟩) (by show w.heap.size < W0.heap.size; omega)).trans kp0_0W0
    have kp0_1W1 := (b1.cell (p := ⟨w.heap.size, 1, none⟩) (by show w.heap.size < W0.heap.size; omega)).trans kp0_1W0
    have kp0_2W1 := (b1.cell (p := ⟨w.heap.size, 2, none⟩) (by show w.heap.size < W0.heap.size; omega)).trans kp0_2W0
    have A0W1 := sl.hid (A0W0.out.chg (sl.Chg.ofBelow (lo := 0) b1) (.inr (Nat.zero_le _)))
    have CW1 := sl.hid (CW0.out.trans (b1.mono (by show w.heap.size ≤ W0.heap.size; omega)))
    clear b1 kp0_0W0 kp0_1W0 kp0_2W0 A0W0 CW0
    go_wp2
    go_ret
    exact ⟨rfl, CW1.out⟩
  · have HQ0 := sl.hid (l5.small_of (by omega) (by omega) hzc0)
    have hzl0 := (l5.szL_bound (n := xs0.length) (left := 1048576) (by omega) hzc0).1
    generalize br.szL 1048576 xs0.length = z0 at *
    have SP : Hid (∀ (g0_0 : Value) (W : World) (B0 : Nat), sl.Ints W B0 g0_0 xs0 → B0 ≤ W.heap.size → Calls Tryd.prog 29 #[.agg #[.int .i64 a0, .int .i64 c0, g0_0]] W fun e w' => ∃ v', e = .returned (.tuple #[v', .int .i64 (rl.laC a0 c0 xs0)]) ∧ sl.Own w' W.heap.size w'.heap.size v' (la.nwW a0 c0 xs0) ∧ Below W.heap.size W w') := sl.hid (fun g0_0 W B0 j0 l0 => la.specNw a0 c0 xs0 g0_0 B0 W j0 l0 HQ0.out )
    have IP : Hid (∀ (g0_0 : Value) (W : World) (B0 : Nat), Below w.heap.size w W → sl.Ints W B0 g0_0 xs0 → B0 ≤ W.heap.size → Calls Tryd.prog 30 #[.agg #[.int .i64 a0, .int .i64 c0, g0_0]] W fun e w' => ∃ v', e = .returned (.tuple #[v', .int .i64 (rl.laC a0 c0 xs0)]) ∧ sl.Own w' W.heap.size w'.heap.size v' (la.nwW a0 c0 xs0) ∧ Below W.heap.size W w') := sl.hid (fun g0_0 W B0 bw j0 l0 => la.implNw a0 c0 xs0 g0_0 B0 W j0 l0 HQ0.out  (stb.carry HTb.out bw))
    have hr0 : (la.nwW a0 c0 xs0).length ≤ 20000 := la.nwW_len a0 c0 xs0
    have hr : (la.nwW a0 c0 xs0).length ≤ 1099511627776 := by omega
    clear hr0
    generalize la.nwW a0 c0 xs0 = zr at *
    generalize rl.laC a0 c0 xs0 = q1 at *
    clear hi0 ha0 hc0
    go_enter Tryd.func7, Tryd.ntmps7
    go_wp2_with fail
    have bE : Below w.heap.size w (w.alloc (.cells #[.int .i64 a0, .int .i64 c0, f0_0] 36)) := ((Below.refl w.heap.size w).alloc (by simp) _)
    have hzW0 : w.heap.size + 1 ≤ (w.alloc (.cells #[.int .i64 a0, .int .i64 c0, f0_0] 36)).heap.size := by simp
    have kp0_0W0 : (w.alloc (.cells #[.int .i64 a0, .int .i64 c0, f0_0] 36)).cell? ⟨w.heap.size, 0, none⟩ = some (.int .i64 a0) := World.cell?_alloc_at _ _ _ _ (by simp)
    have kp0_1W0 : (w.alloc (.cells #[.int .i64 a0, .int .i64 c0, f0_0] 36)).cell? ⟨w.heap.size, 1, none⟩ = some (.int .i64 c0) := World.cell?_alloc_at _ _ _ _ (by simp)
    have kp0_2W0 : (w.alloc (.cells #[.int .i64 a0, .int .i64 c0, f0_0] 36)).cell? ⟨w.heap.size, 2, none⟩ = some (f0_0) := World.cell?_alloc_at _ _ _ _ (by simp)
    have A0W0 := sl.hid (HI0.out.chg (sl.Chg.ofBelow (lo := 0) bE) (.inr (Nat.zero_le _)))
    have CW0 := sl.hid bE
    clear bE HI0
    generalize (w.alloc (.cells #[.int .i64 a0, .int .i64 c0, f0_0] 36)) = W0 at *
    go_wp2_with fail
    refine (HZ0.out W0 _ A0W0.out).mono ?_
    rintro e W2 ⟨rfl, b2⟩
    have hzW2 : W0.heap.size ≤ W2.heap.size := b2.size
    have kp0_0W2 := (b2.cell (p := ⟨w.heap.size, 0, none⟩) (by show w.heap.size < W0.heap.size; omega)).trans kp0_0W0
    have kp0_1W2 := (b2.cell (p := ⟨w.heap.size, 1, none⟩) (by show w.heap.size < W0.heap.size; omega)).trans kp0_1W0
    have kp0_2W2 := (b2.cell (p := ⟨w.heap.size, 2, none⟩) (by show w.heap.size < W0.heap.size; omega)).trans kp0_2W0
    have A0W2 := sl.hid (A0W0.out.chg (sl.Chg.ofBelow (lo := 0) b2) (.inr (Nat.zero_le _)))
    have CW2 := sl.hid (CW0.out.trans (b2.mono (by show w.heap.size ≤ W0.heap.size; omega)))
    clear b2 kp0_0W0 kp0_1W0 kp0_2W0 A0W0 CW0
    go_wp2_with fail
    refine (ct.toW a0 c0 xs0 f0_0 _ W2 A0W2.out (by omega) HQ0.out).mono ?_
    rintro e W3 ⟨f0_0_3, rfl, o3, b3⟩
    obtain ⟨ao3_0, ln3_0, cp3_0, rfl⟩ := l5.rval o3
    have On3 := sl.hid o3
    clear o3
    have hzW3 : W2.heap.size ≤ W3.heap.size := b3.size
    have kp0_0W3 := (b3.cell (p := ⟨w.heap.size, 0, none⟩) (by show w.heap.size < W2.heap.size; omega)).trans kp0_0W2
    have kp0_1W3 := (b3.cell (p := ⟨w.heap.size, 1, none⟩) (by show w.heap.size < W2.heap.size; omega)).trans kp0_1W2
    have kp0_2W3 := (b3.cell (p := ⟨w.heap.size, 2, none⟩) (by show w.heap.size < W2.heap.size; omega)).trans kp0_2W2
    have A0W3 := sl.hid (A0W2.out.chg (sl.Chg.ofBelow (lo := 0) b3) (.inr (Nat.zero_le _)))
    have CW3 := sl.hid (CW2.out.trans (b3.mono (by show w.heap.size ≤ W2.heap.size; omega)))
    clear b3 kp0_0W2 kp0_1W2 kp0_2W2 A0W2 CW2
    go_wp2_with fail
    refine (SP.out _ W3 _ On3.out.ints (by omega)).mono ?_
    rintro e W4 ⟨v4, rfl, o4, b4⟩
    have hzW4 : W3.heap.size ≤ W4.heap.size := b4.size
    have kp0_0W4 := (b4.cell (p := ⟨w.heap.size, 0, none⟩) (by show w.heap.size < W3.heap.size; omega)).trans kp0_0W3
    have kp0_1W4 := (b4.cell (p := ⟨w.heap.size, 1, none⟩) (by show w.heap.size < W3.heap.size; omega)).trans kp0_1W3
    have kp0_2W4 := (b4.cell (p := ⟨w.heap.size, 2, none⟩) (by show w.heap.size < W3.heap.size; omega)).trans kp0_2W3
    have A0W4 := sl.hid (A0W3.out.chg (sl.Chg.ofBelow (lo := 0) b4) (.inr (Nat.zero_le _)))
    have Oc0W4 := sl.hid (On3.out.chg (sl.Chg.ofBelow (lo := 0) b4) (.inr (.inr (Nat.zero_le _))))
    have CW4 := sl.hid (CW3.out.trans (b4.mono (by show w.heap.size ≤ W3.heap.size; omega)))
    have Ovr := sl.hid o4
    clear o4
    clear b4 kp0_0W3 kp0_1W3 kp0_2W3 A0W3 On3 CW3
    go_wp2_with fail
    refine (ct.toW a0 c0 xs0 f0_0 _ W4 A0W4.out (by omega) HQ0.out).mono ?_
    rintro e W5 ⟨f0_0_5, rfl, o5, b5⟩
    obtain ⟨ao5_0, ln5_0, cp5_0, rfl⟩ := l5.rval o5
    have On5 := sl.hid o5
    clear o5
    have hzW5 : W4.heap.size ≤ W5.heap.size := b5.size
    have kp0_0W5 := (b5.cell (p := ⟨w.heap.size, 0, none⟩) (by show w.heap.size < W4.heap.size; omega)).trans kp0_0W4
    have kp0_1W5 := (b5.cell (p := ⟨w.heap.size, 1, none⟩) (by show w.heap.size < W4.heap.size; omega)).trans kp0_1W4
    have kp0_2W5 := (b5.cell (p := ⟨w.heap.size, 2, none⟩) (by show w.heap.size < W4.heap.size; omega)).trans kp0_2W4
    have A0W5 := sl.hid (A0W4.out.chg (sl.Chg.ofBelow (lo := 0) b5) (.inr (Nat.zero_le _)))
    have OrW5 := sl.hid (Ovr.out.chg (sl.Chg.ofBelow (lo := 0) b5) (.inr (.inr (Nat.zero_le _))))
    have CW5 := sl.hid (CW4.out.trans (b5.mono (by show w.heap.size ≤ W4.heap.size; omega)))
    clear b5 kp0_0W4 kp0_1W4 kp0_2W4 A0W4 Ovr CW4
    have bE : Below W5.heap.size W5 (W5.alloc (.cells #[.int .i64 a0, .int .i64 c0, .slice ao5_0 ln5_0 cp5_0] 40)) := (Below.refl _ _).alloc (Nat.le_refl _) _
    have kx0_0W6 : (W5.alloc (.cells #[.int .i64 a0, .int .i64 c0, .slice ao5_0 ln5_0 cp5_0] 40)).cell? ⟨W5.heap.size, 0, none⟩ = some (.int .i64 a0) := World.cell?_alloc_at _ _ _ _ rfl
    have kx0_1W6 : (W5.alloc (.cells #[.int .i64 a0, .int .i64 c0, .slice ao5_0 ln5_0 cp5_0] 40)).cell? ⟨W5.heap.size, 1, none⟩ = some (.int .i64 c0) := World.cell?_alloc_at _ _ _ _ rfl
    have kx0_2W6 : (W5.alloc (.cells #[.int .i64 a0, .int .i64 c0, .slice ao5_0 ln5_0 cp5_0] 40)).cell? ⟨W5.heap.size, 2, none⟩ = some (.slice ao5_0 ln5_0 cp5_0) := World.cell?_alloc_at _ _ _ _ rfl
    have hsW6 : W5.heap.size < (W5.alloc (.cells #[.int .i64 a0, .int .i64 c0, .slice ao5_0 ln5_0 cp5_0] 40)).heap.size := by simp
    have hzW6 : W5.heap.size ≤ (W5.alloc (.cells #[.int .i64 a0, .int .i64 c0, .slice ao5_0 ln5_0 cp5_0] 40)).heap.size := bE.size
    have kp0_0W6 := (bE.cell (p := ⟨w.heap.size, 0, none⟩) (by show w.heap.size < W5.heap.size; omega)).trans kp0_0W5
    have kp0_1W6 := (bE.cell (p := ⟨w.heap.size, 1, none⟩) (by show w.heap.size < W5.heap.size; omega)).trans kp0_1W5
    have kp0_2W6 := (bE.cell (p := ⟨w.heap.size, 2, none⟩) (by show w.heap.size < W5.heap.size; omega)).trans kp0_2W5
    have A0W6 := sl.hid (A0W5.out.chg (sl.Chg.ofBelow (lo := 0) bE) (.inr (Nat.zero_le _)))
    have OrW6 := sl.hid (OrW5.out.chg (sl.Chg.ofBelow (lo := 0) bE) (.inr (.inr (Nat.zero_le _))))
    have Ox0W6 := sl.hid (On5.out.chg (sl.Chg.ofBelow (lo := 0) bE) (.inr (.inr (Nat.zero_le _))))
    have CW6 := sl.hid (CW5.out.trans (bE.mono (by show w.heap.size ≤ W5.heap.size; omega)))
    clear bE kp0_0W5 kp0_1W5 kp0_2W5 A0W5 OrW5 On5 CW5
    go_wp2_with fail
    generalize (W5.alloc (.cells #[.int .i64 a0, .int .i64 c0, .slice ao5_0 ln5_0 cp5_0] 40)) = W6 at *
    refine (IP.out _ W6 _ CW6.out Ox0W6.out.ints (by omega)).mono ?_
    rintro e W7 ⟨v7, rfl, o7, b7⟩
    have hzW7 : W6.heap.size ≤ W7.heap.size := b7.size
    have kp0_0W7 := (b7.cell (p := ⟨w.heap.size, 0, none⟩) (by show w.heap.size < W6.heap.size; omega)).trans kp0_0W6
    have kp0_1W7 := (b7.cell (p := ⟨w.heap.size, 1, none⟩) (by show w.heap.size < W6.heap.size; omega)).trans kp0_1W6
    have kp0_2W7 := (b7.cell (p := ⟨w.heap.size, 2, none⟩) (by show w.heap.size < W6.heap.size; omega)).trans kp0_2W6
    have kx0_0W7 := (b7.cell (p := ⟨W5.heap.size, 0, none⟩) (by show W5.heap.size < W6.heap.size; omega)).trans kx0_0W6
    have kx0_1W7 := (b7.cell (p := ⟨W5.heap.size, 1, none⟩) (by show W5.heap.size < W6.heap.size; omega)).trans kx0_1W6
    have kx0_2W7 := (b7.cell (p := ⟨W5.heap.size, 2, none⟩) (by show W5.heap.size < W6.heap.size; omega)).trans kx0_2W6
    have A0W7 := sl.hid (A0W6.out.chg (sl.Chg.ofBelow (lo := 0) b7) (.inr (Nat.zero_le _)))
    have OrW7 := sl.hid (OrW6.out.chg (sl.Chg.ofBelow (lo := 0) b7) (.inr (.inr (Nat.zero_le _))))
    have Ox0W7 := sl.hid (Ox0W6.out.chg (sl.Chg.ofBelow (lo := 0) b7) (.inr (.inr (Nat.zero_le _))))
    have CW7 := sl.hid (CW6.out.trans (b7.mono (by show w.heap.size ≤ W6.heap.size; omega)))
    have Ovg := sl.hid o7
    clear o7
    clear b7 kp0_0W6 kp0_1W6 kp0_2W6 kx0_0W6 kx0_1W6 kx0_2W6 A0W6 OrW6 Ox0W6 CW6
    go_wp2_with fail
    refine (sl.eqS zr _ _ _ _ W7 Ovg.out.ints OrW7.out.ints hr).mono ?_
    rintro e W8 ⟨rfl, b8⟩
    have hzW8 : W7.heap.size ≤ W8.heap.size := b8.size
    have kp0_0W8 := (b8.cell (p := ⟨w.heap.size, 0, none⟩) (by show w.heap.size < W7.heap.size; omega)).trans kp0_0W7
    have kp0_1W8 := (b8.cell (p := ⟨w.heap.size, 1, none⟩) (by show w.heap.size < W7.heap.size; omega)).trans kp0_1W7
    have kp0_2W8 := (b8.cell (p := ⟨w.heap.size, 2, none⟩) (by show w.heap.size < W7.heap.size; omega)).trans kp0_2W7
    have kx0_0W8 := (b8.cell (p := ⟨W5.heap.size, 0, none⟩) (by show W5.heap.size < W7.heap.size; omega)).trans kx0_0W7
    have kx0_1W8 := (b8.cell (p := ⟨W5.heap.size, 1, none⟩) (by show W5.heap.size < W7.heap.size; omega)).trans kx0_1W7
    have kx0_2W8 := (b8.cell (p := ⟨W5.heap.size, 2, none⟩) (by show W5.heap.size < W7.heap.size; omega)).trans kx0_2W7
    have A0W8 := sl.hid (A0W7.out.chg (sl.Chg.ofBelow (lo := 0) b8) (.inr (Nat.zero_le _)))
    have OrW8 := sl.hid (OrW7.out.chg (sl.Chg.ofBelow (lo := 0) b8) (.inr (.inr (Nat.zero_le _))))
    have Ox0W8 := sl.hid (Ox0W7.out.chg (sl.Chg.ofBelow (lo := 0) b8) (.inr (.inr (Nat.zero_le _))))
    have OgW8 := sl.hid (Ovg.out.chg (sl.Chg.ofBelow (lo := 0) b8) (.inr (.inr (Nat.zero_le _))))
    have CW8 := sl.hid (CW7.out.trans (b8.mono (by show w.heap.size ≤ W7.heap.size; omega)))
    clear b8 kp0_0W7 kp0_1W7 kp0_2W7 kx0_0W7 kx0_1W7 kx0_2W7 A0W7 OrW7 Ox0W7 Ovg CW7
    go_wp2_with fail
    have bD := (Below.refl W8.heap.size W8).drew
    have A0dW8 := sl.hid (A0W8.out.chg (sl.Chg.ofBelow (lo := 0) bD) (.inr (Nat.zero_le _)))
    have OrdW8 := sl.hid (OrW8.out.chg (sl.Chg.ofBelow (lo := 0) bD) (.inr (.inr (Nat.zero_le _))))
    have Ox0dW8 := sl.hid (Ox0W8.out.chg (sl.Chg.ofBelow (lo := 0) bD) (.inr (.inr (Nat.zero_le _))))
    have OgdW8 := sl.hid (OgW8.out.chg (sl.Chg.ofBelow (lo := 0) bD) (.inr (.inr (Nat.zero_le _))))
    have CdW8 := sl.hid (CW8.out.drew)
    clear bD A0W8 OrW8 Ox0W8 OgW8 CW8
    go_region_held3 (fun w' => w'.cell? ⟨w.heap.size, 0, none⟩ = some (.int .i64 a0) ∧ w'.cell? ⟨w.heap.size, 1, none⟩ = some (.int .i64 c0) ∧ w'.cell? ⟨w.heap.size, 2, none⟩ = some (f0_0) ∧ w'.cell? ⟨W5.heap.size, 0, none⟩ = some (.int .i64 a0) ∧ w'.cell? ⟨W5.heap.size, 1, none⟩ = some (.int .i64 c0) ∧ w'.cell? ⟨W5.heap.size, 2, none⟩ = some (.slice ao5_0 ln5_0 cp5_0)) (go_keep)
      (first
        | (go_at_call 15
           refine (ct.toW a0 c0 xs0 f0_0 _ _ A0dW8.out (by show w.heap.size ≤ W8.heap.size; omega) HQ0.out).mono ?_
           rintro e W10 ⟨fc0_0, rfl, oc0, bB⟩
           have HJ0 := sl.hid oc0.ints
           have hzW10 : W8.heap.size ≤ W10.heap.size := bB.size
           have kp0_0W10 := (bB.cell (p := ⟨w.heap.size, 0, none⟩) (by show w.heap.size < W8.heap.size; omega)).trans kp0_0W8
           have kp0_1W10 := (bB.cell (p := ⟨w.heap.size, 1, none⟩) (by show w.heap.size < W8.heap.size; omega)).trans kp0_1W8
           have kp0_2W10 := (bB.cell (p := ⟨w.heap.size, 2, none⟩) (by show w.heap.size < W8.heap.size; omega)).trans kp0_2W8
           have kx0_0W10 := (bB.cell (p := ⟨W5.heap.size, 0, none⟩) (by show W5.heap.size < W8.heap.size; omega)).trans kx0_0W8
           have kx0_1W10 := (bB.cell (p := ⟨W5.heap.size, 1, none⟩) (by show W5.heap.size < W8.heap.size; omega)).trans kx0_1W8
           have kx0_2W10 := (bB.cell (p := ⟨W5.heap.size, 2, none⟩) (by show W5.heap.size < W8.heap.size; omega)).trans kx0_2W8
           have A0W10 := sl.hid (A0dW8.out.chg (sl.Chg.ofBelow (lo := 0) bB) (.inr (Nat.zero_le _)))
           have OrW10 := sl.hid (OrdW8.out.chg (sl.Chg.ofBelow (lo := 0) bB) (.inr (.inr (Nat.zero_le _))))
           have Ox0W10 := sl.hid (Ox0dW8.out.chg (sl.Chg.ofBelow (lo := 0) bB) (.inr (.inr (Nat.zero_le _))))
           have OgW10 := sl.hid (OgdW8.out.chg (sl.Chg.ofBelow (lo := 0) bB) (.inr (.inr (Nat.zero_le _))))
           have CW10 := sl.hid (CdW8.out.trans (bB.mono (by show w.heap.size ≤ W8.heap.size; omega)))
           clear oc0 bB kp0_0W8 kp0_1W8 kp0_2W8 kx0_0W8 kx0_1W8 kx0_2W8 A0dW8 OrdW8 Ox0dW8 OgdW8 CdW8)
        | (go_at_call 18
           refine (ct.eqWS a0 c0 xs0 _ _ _ _ W10 Ox0W10.out.ints HJ0.out HQ0.out).mono ?_
           rintro e W11 ⟨rfl, bC⟩
           have hzW11 : W10.heap.size ≤ W11.heap.size := bC.size
           have kp0_0W11 := (bC.cell (p := ⟨w.heap.size, 0, none⟩) (by show w.heap.size < W10.heap.size; omega)).trans kp0_0W10
           have kp0_1W11 := (bC.cell (p := ⟨w.heap.size, 1, none⟩) (by show w.heap.size < W10.heap.size; omega)).trans kp0_1W10
           have kp0_2W11 := (bC.cell (p := ⟨w.heap.size, 2, none⟩) (by show w.heap.size < W10.heap.size; omega)).trans kp0_2W10
           have kx0_0W11 := (bC.cell (p := ⟨W5.heap.size, 0, none⟩) (by show W5.heap.size < W10.heap.size; omega)).trans kx0_0W10
           have kx0_1W11 := (bC.cell (p := ⟨W5.heap.size, 1, none⟩) (by show W5.heap.size < W10.heap.size; omega)).trans kx0_1W10
           have kx0_2W11 := (bC.cell (p := ⟨W5.heap.size, 2, none⟩) (by show W5.heap.size < W10.heap.size; omega)).trans kx0_2W10
           have A0W11 := sl.hid (A0W10.out.chg (sl.Chg.ofBelow (lo := 0) bC) (.inr (Nat.zero_le _)))
           have OrW11 := sl.hid (OrW10.out.chg (sl.Chg.ofBelow (lo := 0) bC) (.inr (.inr (Nat.zero_le _))))
           have Ox0W11 := sl.hid (Ox0W10.out.chg (sl.Chg.ofBelow (lo := 0) bC) (.inr (.inr (Nat.zero_le _))))
           have OgW11 := sl.hid (OgW10.out.chg (sl.Chg.ofBelow (lo := 0) bC) (.inr (.inr (Nat.zero_le _))))
           have CW11 := sl.hid (CW10.out.trans (bC.mono (by show w.heap.size ≤ W10.heap.size; omega)))
           clear HJ0 bC kp0_0W10 kp0_1W10 kp0_2W10 kx0_0W10 kx0_1W10 kx0_2W10 A0W10 OrW10 Ox0W10 OgW10 CW10))
    go_wp2_with fail
    refine (ct.markW1 a0 c0 xs0 _ _ _ 1 W11 Ox0W11.out HQ0.out (by omega) (by omega)).mono ?_
    rintro e W12 ⟨km12, rfl, hkm12, c12⟩
    have hkd12 : decide (km12 < 0) = false := by simp; omega
    clear Ox0W11
    have hzW12 : W11.heap.size ≤ W12.heap.size := c12.size
    have kp0_0W12 := (World.cell?_of_block (w := W11) (w' := W12) (a := ⟨w.heap.size, 0, none⟩) (c12.block (w.heap.size) (by omega) (by omega))).trans kp0_0W11
    have kp0_1W12 := (World.cell?_of_block (w := W11) (w' := W12) (a := ⟨w.heap.size, 1, none⟩) (c12.block (w.heap.size) (by omega) (by omega))).trans kp0_1W11
    have kp0_2W12 := (World.cell?_of_block (w := W11) (w' := W12) (a := ⟨w.heap.size, 2, none⟩) (c12.block (w.heap.size) (by omega) (by omega))).trans kp0_2W11
    have A0W12 := sl.hid (A0W11.out.chg c12 (by omega))
    have OrW12 := sl.hid (OrW11.out.chg c12 (by omega))
    have OgW12 := sl.hid (OgW11.out.chg c12 (by omega))
    have CW12 := sl.hid (CW11.out.trans (c12.below (by omega) (by omega)))
    clear c12 kp0_0W11 kp0_1W11 kp0_2W11 A0W11 OrW11 OgW11 CW11
    go_wp2_with fail
    refine (sl.eqS zr _ _ _ _ W12 OgW12.out.ints OrW12.out.ints hr).mono ?_
    rintro e W13 ⟨rfl, b13⟩
    have hzW13 : W12.heap.size ≤ W13.heap.size := b13.size
    have kp0_0W13 := (b13.cell (p := ⟨w.heap.size, 0, none⟩) (by show w.heap.size < W12.heap.size; omega)).trans kp0_0W12
    have kp0_1W13 := (b13.cell (p := ⟨w.heap.size, 1, none⟩) (by show w.heap.size < W12.heap.size; omega)).trans kp0_1W12
    have kp0_2W13 := (b13.cell (p := ⟨w.heap.size, 2, none⟩) (by show w.heap.size < W12.heap.size; omega)).trans kp0_2W12
    have A0W13 := sl.hid (A0W12.out.chg (sl.Chg.ofBelow (lo := 0) b13) (.inr (Nat.zero_le _)))
    have OrW13 := sl.hid (OrW12.out.chg (sl.Chg.ofBelow (lo := 0) b13) (.inr (.inr (Nat.zero_le _))))
    have OgW13 := sl.hid (OgW12.out.chg (sl.Chg.ofBelow (lo := 0) b13) (.inr (.inr (Nat.zero_le _))))
    have CW13 := sl.hid (CW12.out.trans (b13.mono (by show w.heap.size ≤ W12.heap.size; omega)))
    clear b13 kp0_0W12 kp0_1W12 kp0_2W12 A0W12 OrW12 OgW12 CW12
    go_wp2_with fail
    refine (sl.markI zr _ _ _ 1 W13 OgW13.out hr (by omega) (by omega)).mono ?_
    rintro e W14 ⟨rfl, o14, c14⟩
    have hzW14 : W13.heap.size ≤ W14.heap.size := c14.size
    have kp0_0W14 := (World.cell?_of_block (w := W13) (w' := W14) (a := ⟨w.heap.size, 0, none⟩) (c14.block (w.heap.size) (by omega) (by omega))).trans kp0_0W13
    have kp0_1W14 := (World.cell?_of_block (w := W13) (w' := W14) (a := ⟨w.heap.size, 1, none⟩) (c14.block (w.heap.size) (by omega) (by omega))).trans kp0_1W13
    have kp0_2W14 := (World.cell?_of_block (w := W13) (w' := W14) (a := ⟨w.heap.size, 2, none⟩) (c14.block (w.heap.size) (by omega) (by omega))).trans kp0_2W13
    have A0W14 := sl.hid (A0W13.out.chg c14 (by omega))
    have OrW14 := sl.hid (OrW13.out.chg c14 (by omega))
    have CW14 := sl.hid (CW13.out.trans (c14.below (by omega) (by omega)))
    clear c14 kp0_0W13 kp0_1W13 kp0_2W13 A0W13 OrW13 CW13
    have On14 := sl.hid o14
    clear o14 OgW13
    go_wp2_with fail
    refine (sl.heldI zr.length _ _ 1 W14 On14.out.ints hr (by omega) (by omega)).mono ?_
    rintro e W15 ⟨rfl, rfl⟩
    go_wp2_with fail
    refine (ct.toW a0 c0 xs0 f0_0 _ W14 A0W14.out (by omega) HQ0.out).mono ?_
    rintro e W16 ⟨f0_0_16, rfl, o16, b16⟩
    obtain ⟨ao16_0, ln16_0, cp16_0, rfl⟩ := l5.rval o16
    have On16 := sl.hid o16
    clear o16
    have hzW16 : W14.heap.size ≤ W16.heap.size := b16.size
    have kp0_0W16 := (b16.cell (p := ⟨w.heap.size, 0, none⟩) (by show w.heap.size < W14.heap.size; omega)).trans kp0_0W14
    have kp0_1W16 := (b16.cell (p := ⟨w.heap.size, 1, none⟩) (by show w.heap.size < W14.heap.size; omega)).trans kp0_1W14
    have kp0_2W16 := (b16.cell (p := ⟨w.heap.size, 2, none⟩) (by show w.heap.size < W14.heap.size; omega)).trans kp0_2W14
    have A0W16 := sl.hid (A0W14.out.chg (sl.Chg.ofBelow (lo := 0) b16) (.inr (Nat.zero_le _)))
    have OrW16 := sl.hid (OrW14.out.chg (sl.Chg.ofBelow (lo := 0) b16) (.inr (.inr (Nat.zero_le _))))
    have OgW16 := sl.hid (On14.out.chg (sl.Chg.ofBelow (lo := 0) b16) (.inr (.inr (Nat.zero_le _))))
    have CW16 := sl.hid (CW14.out.trans (b16.mono (by show w.heap.size ≤ W14.heap.size; omega)))
    clear b16 kp0_0W14 kp0_1W14 kp0_2W14 A0W14 OrW14 On14 CW14
    go_wp2_with fail
    refine (IP.out _ W16 _ CW16.out On16.out.ints (by omega)).mono ?_
    rintro e W17 ⟨v17, rfl, o17, b17⟩
    have hzW17 : W16.heap.size ≤ W17.heap.size := b17.size
    have kp0_0W17 := (b17.cell (p := ⟨w.heap.size, 0, none⟩) (by show w.heap.size < W16.heap.size; omega)).trans kp0_0W16
    have kp0_1W17 := (b17.cell (p := ⟨w.heap.size, 1, none⟩) (by show w.heap.size < W16.heap.size; omega)).trans kp0_1W16
    have kp0_2W17 := (b17.cell (p := ⟨w.heap.size, 2, none⟩) (by show w.heap.size < W16.heap.size; omega)).trans kp0_2W16
    have A0W17 := sl.hid (A0W16.out.chg (sl.Chg.ofBelow (lo := 0) b17) (.inr (Nat.zero_le _)))
    have OrW17 := sl.hid (OrW16.out.chg (sl.Chg.ofBelow (lo := 0) b17) (.inr (.inr (Nat.zero_le _))))
    have OgW17 := sl.hid (OgW16.out.chg (sl.Chg.ofBelow (lo := 0) b17) (.inr (.inr (Nat.zero_le _))))
    have Oz0W17 := sl.hid (On16.out.chg (sl.Chg.ofBelow (lo := 0) b17) (.inr (.inr (Nat.zero_le _))))
    have CW17 := sl.hid (CW16.out.trans (b17.mono (by show w.heap.size ≤ W16.heap.size; omega)))
    have Ovh := sl.hid o17
    clear o17
    clear b17 kp0_0W16 kp0_1W16 kp0_2W16 A0W16 OrW16 OgW16 On16 CW16
    go_wp2_with fail
    refine (sl.eqS zr _ _ _ _ W17 Ovh.out.ints OrW17.out.ints hr).mono ?_
    rintro e W18 ⟨rfl, b18⟩
    have hzW18 : W17.heap.size ≤ W18.heap.size := b18.size
    have kp0_0W18 := (b18.cell (p := ⟨w.heap.size, 0, none⟩) (by show w.heap.size < W17.heap.size; omega)).trans kp0_0W17
    have kp0_1W18 := (b18.cell (p := ⟨w.heap.size, 1, none⟩) (by show w.heap.size < W17.heap.size; omega)).trans kp0_1W17
    have kp0_2W18 := (b18.cell (p := ⟨w.heap.size, 2, none⟩) (by show w.heap.size < W17.heap.size; omega)).trans kp0_2W17
    have A0W18 := sl.hid (A0W17.out.chg (sl.Chg.ofBelow (lo := 0) b18) (.inr (Nat.zero_le _)))
    have OrW18 := sl.hid (OrW17.out.chg (sl.Chg.ofBelow (lo := 0) b18) (.inr (.inr (Nat.zero_le _))))
    have OgW18 := sl.hid (OgW17.out.chg (sl.Chg.ofBelow (lo := 0) b18) (.inr (.inr (Nat.zero_le _))))
    have OhW18 := sl.hid (Ovh.out.chg (sl.Chg.ofBelow (lo := 0) b18) (.inr (.inr (Nat.zero_le _))))
    have CW18 := sl.hid (CW17.out.trans (b18.mono (by show w.heap.size ≤ W17.heap.size; omega)))
    clear b18 kp0_0W17 kp0_1W17 kp0_2W17 A0W17 OrW17 OgW17 Ovh CW17
    go_wp2_with fail
    refine (sl.heldI zr.length _ _ 1 W18 OgW18.out.ints hr (by omega) (by omega)).mono ?_
    rintro e W19 ⟨rfl, rfl⟩
    go_wp2
    go_ret
    exact ⟨rfl, CW18.out⟩
end Go.Proofs.YtbbnheiibkcgiaaDoor.wnewColumns
