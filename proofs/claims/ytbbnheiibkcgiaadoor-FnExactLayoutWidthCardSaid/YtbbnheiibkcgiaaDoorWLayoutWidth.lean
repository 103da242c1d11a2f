/-
  The walk of the law of LayoutWidth.
-/
import Derived.Test.YtbbnheiibkcgiaaDoorLyw
import Derived.Test.YtbbnheiibkcgiaaDoorCto
import Derived.Test.YtbbnheiibkcgiaaDoorMkr
import Derived.Deep.RegionHeld3
import Derived.Deep.CutRange
namespace Go.Proofs.YtbbnheiibkcgiaaDoor.wlayoutWidth
open Go.RowKit
set_option linter.unusedVariables false

set_option maxRecDepth 100000 in
set_option maxHeartbeats 20000000 in
theorem law (a0 : Int) (f0_0 : Value) (xs0 : List ro.V) (w : World) (hi0 : ct.CIn w f0_0 xs0) (ha0 : -9223372036854775808 ≤ a0 ∧ a0 ≤ 9223372036854775807) (hTb : stb.Tab w) :
    Calls Tryd.prog 3 #[.agg #[.int .i64 a0, f0_0]] w fun e w' => e = .returned (.bool true) ∧ Below w.heap.size w w' := by
  have HTb := sl.hid hTb
  clear hTb
  have HI0 := sl.hid hi0.rd
  have HZ0 := sl.hid (fun W B h => ct.szC1 a0 xs0 f0_0 B (1048576) W h hi0.len hi0.short (by omega) (by omega))
  rcases ct.szC_pos (xs := xs0) (left := 1048576) (by omega) with hzc0 | hzc0
  · rw [hzc0] at HZ0
    clear hzc0 hi0 ha0
    go_enter Tryd.func3, Tryd.ntmps3
    go_wp2_with fail
    have bE : Below w.heap.size w (w.alloc (.cells #[.int .i64 a0, f0_0] 24)) := ((Below.refl w.heap.size w).alloc (by simp) _)
    have hzW0 : w.heap.size + 1 ≤ (w.alloc (.cells #[.int .i64 a0, f0_0] 24)).heap.size := by simp
    have kp0_0W0 : (w.alloc (.cells #[.int .i64 a0, f0_0] 24)).cell? ⟨w.heap.size, 0, none⟩ = some (.int .i64 a0) := World.cell?_alloc_at _ _ _ _ (by simp)
    have kp0_1W0 : (w.alloc (.cells #[.int .i64 a0, f0_0] 24)).cell? ⟨w.heap.size, 1, none⟩ = some (f0_0) := World.cell?_alloc_at _ _ _ _ (by simp)
    have A0W0 := sl.hid (HI0.out.chg (sl.Chg.ofBelow (lo := 0) bE) (.inr (Nat.zero_le _)))
    have CW0 := sl.hid bE
    clear bE HI0
    generalize (w.alloc (.cells #[.int .i64 a0, f0_0] 24)) = W0 at *
    go_wp2_with fail
    refine (HZ0.out W0 _ A0W0.out).mono ?_
    rintro e W1 ⟨rfl, b1⟩
    have hzW1 : W0.heap.size ≤ W1.heap.size := b1.size
    have kp0_0W1 := (b1.cell (p := ⟨w.heap.size, 0, none⟩) (by show w.heap.size < W0.heap.size; omega)).trans kp0_0W0
    have kp0_1W1 := (b1.cell (p := ⟨w.heap.size, 1, none⟩) (by show w.heap.size < W0.heap.size; omega)).trans kp0_1W0
    have A0W1 := sl.hid (A0W0.out.chg (sl.Chg.ofBelow (lo := 0) b1) (.inr (Nat.zero_le _)))
    have CW1 := sl.hid (CW0.out.trans (b1.mono (by show w.heap.size ≤ W0.heap.size; omega)))
    clear b1 kp0_0W0 kp0_1W0 A0W0 CW0
    go_wp2
    go_ret
    exact ⟨rfl, CW1.out⟩
  · have HQ0 := sl.hid (ct.szC_small (by omega) (by omega) hzc0)
    have hzl0 := (ct.szC_bnd (xs := xs0) (left := 1048576) (by omega) hzc0).1
    generalize ct.szC 1048576 xs0 = z0 at *
    have SP : Hid (∀ (g0_0 : Value) (W : World) (B0 : Nat), ro.Infs W B0 g0_0 xs0 → B0 ≤ W.heap.size → Calls Tryd.prog 9 #[.agg #[.int .i64 a0, g0_0]] W fun e w' => e = .returned (.tuple #[.int .i64 (ly.lwI a0 xs0), .int .i64 (kn.chC a0 xs0)]) ∧ Below W.heap.size W w') := sl.hid (fun g0_0 W B0 j0 l0 => ly.specLW a0 xs0 g0_0 B0 W j0 l0 HQ0.out )
    have IP : Hid (∀ (g0_0 : Value) (W : World) (B0 : Nat), Below w.heap.size w W → ro.Infs W B0 g0_0 xs0 → B0 ≤ W.heap.size → Calls Tryd.prog 11 #[.agg #[.int .i64 a0, g0_0]] W fun e w' => e = .returned (.tuple #[.int .i64 (ly.lwI a0 xs0), .int .i64 (kn.chC a0 xs0)]) ∧ Below W.heap.size W w') := sl.hid (fun g0_0 W B0 bw j0 l0 => ly.implLW a0 xs0 g0_0 B0 W j0 l0 HQ0.out  (stb.carry HTb.out bw))
    generalize ly.lwI a0 xs0 = q0 at *
    generalize kn.chC a0 xs0 = q1 at *
    clear hi0 ha0
    go_enter Tryd.func3, Tryd.ntmps3
    go_wp2_with fail
    have bE : Below w.heap.size w (w.alloc (.cells #[.int .i64 a0, f0_0] 24)) := ((Below.refl w.heap.size w).alloc (by simp) _)
    have hzW0 : w.heap.size + 1 ≤ (w.alloc (.cells #[.int .i64 a0, f0_0] 24)).heap.size := by simp
    have kp0_0W0 : (w.alloc (.cells #[.int .i64 a0, f0_0] 24)).cell? ⟨w.heap.size, 0, none⟩ = some (.int .i64 a0) := World.cell?_alloc_at _ _ _ _ (by simp)
    have kp0_1W0 : (w.alloc (.cells #[.int .i64 a0, f0_0] 24)).cell? ⟨w.heap.size, 1, none⟩ = some (f0_0) := World.cell?_alloc_at _ _ _ _ (by simp)
    have A0W0 := sl.hid (HI0.out.chg (sl.Chg.ofBelow (lo := 0) bE) (.inr (Nat.zero_le _)))
    have CW0 := sl.hid bE
    clear bE HI0
    generalize (w.alloc (.cells #[.int .i64 a0, f0_0] 24)) = W0 at *
    go_wp2_with fail
    refine (HZ0.out W0 _ A0W0.out).mono ?_
    rintro e W2 ⟨rfl, b2⟩
    have hzW2 : W0.heap.size ≤ W2.heap.size := b2.size
    have kp0_0W2 := (b2.cell (p := ⟨w.heap.size, 0, none⟩) (by show w.heap.size < W0.heap.size; omega)).trans kp0_0W0
    have kp0_1W2 := (b2.cell (p := ⟨w.heap.size, 1, none⟩) (by show w.heap.size < W0.heap.size; omega)).trans kp0_1W0
    have A0W2 := sl.hid (A0W0.out.chg (sl.Chg.ofBelow (lo := 0) b2) (.inr (Nat.zero_le _)))
    have CW2 := sl.hid (CW0.out.trans (b2.mono (by show w.heap.size ≤ W0.heap.size; omega)))
    clear b2 kp0_0W0 kp0_1W0 A0W0 CW0
    go_wp2_with fail
    refine (ct.toC a0 xs0 f0_0 _ W2 A0W2.out (by omega) HQ0.out).mono ?_
    rintro e W3 ⟨f0_0_3, rfl, o3, b3⟩
    obtain ⟨ao3_0, ln3_0, cp3_0, rfl⟩ := ct.cval o3
    have On3 := sl.hid o3
    clear o3
    have hzW3 : W2.heap.size ≤ W3.heap.size := b3.size
    have kp0_0W3 := (b3.cell (p := ⟨w.heap.size, 0, none⟩) (by show w.heap.size < W2.heap.size; omega)).trans kp0_0W2
    have kp0_1W3 := (b3.cell (p := ⟨w.heap.size, 1, none⟩) (by show w.heap.size < W2.heap.size; omega)).trans kp0_1W2
    have A0W3 := sl.hid (A0W2.out.chg (sl.Chg.ofBelow (lo := 0) b3) (.inr (Nat.zero_le _)))
    have CW3 := sl.hid (CW2.out.trans (b3.mono (by show w.heap.size ≤ W2.heap.size; omega)))
    clear b3 kp0_0W2 kp0_1W2 A0W2 CW2
    go_wp2_with fail
    refine (SP.out _ W3 _ On3.out.infs (by omega)).mono ?_
    rintro e W4 ⟨rfl, b4⟩
    have hzW4 : W3.heap.size ≤ W4.heap.size := b4.size
    have kp0_0W4 := (b4.cell (p := ⟨w.heap.size, 0, none⟩) (by show w.heap.size < W3.heap.size; omega)).trans kp0_0W3
    have kp0_1W4 := (b4.cell (p := ⟨w.heap.size, 1, none⟩) (by show w.heap.size < W3.heap.size; omega)).trans kp0_1W3
    have A0W4 := sl.hid (A0W3.out.chg (sl.Chg.ofBelow (lo := 0) b4) (.inr (Nat.zero_le _)))
    have Oc0W4 := sl.hid (On3.out.chg (sl.Chg.ofBelow (lo := 0) b4) (.inr (.inr (Nat.zero_le _))))
    have CW4 := sl.hid (CW3.out.trans (b4.mono (by show w.heap.size ≤ W3.heap.size; omega)))
    clear b4 kp0_0W3 kp0_1W3 A0W3 On3 CW3
    go_wp2_with fail
    refine (ct.toC a0 xs0 f0_0 _ W4 A0W4.out (by omega) HQ0.out).mono ?_
    rintro e W5 ⟨f0_0_5, rfl, o5, b5⟩
    obtain ⟨ao5_0, ln5_0, cp5_0, rfl⟩ := ct.cval o5
    have On5 := sl.hid o5
    clear o5
    have hzW5 : W4.heap.size ≤ W5.heap.size := b5.size
    have kp0_0W5 := (b5.cell (p := ⟨w.heap.size, 0, none⟩) (by show w.heap.size < W4.heap.size; omega)).trans kp0_0W4
    have kp0_1W5 := (b5.cell (p := ⟨w.heap.size, 1, none⟩) (by show w.heap.size < W4.heap.size; omega)).trans kp0_1W4
    have A0W5 := sl.hid (A0W4.out.chg (sl.Chg.ofBelow (lo := 0) b5) (.inr (Nat.zero_le _)))
    have CW5 := sl.hid (CW4.out.trans (b5.mono (by show w.heap.size ≤ W4.heap.size; omega)))
    clear b5 kp0_0W4 kp0_1W4 A0W4 CW4
    have bE : Below W5.heap.size W5 (W5.alloc (.cells #[.int .i64 a0, .slice ao5_0 ln5_0 cp5_0] 30)) := (Below.refl _ _).alloc (Nat.le_refl _) _
    have kx0_0W6 : (W5.alloc (.cells #[.int .i64 a0, .slice ao5_0 ln5_0 cp5_0] 30)).cell? ⟨W5.heap.size, 0, none⟩ = some (.int .i64 a0) := World.cell?_alloc_at _ _ _ _ rfl
    have kx0_1W6 : (W5.alloc (.cells #[.int .i64 a0, .slice ao5_0 ln5_0 cp5_0] 30)).cell? ⟨W5.heap.size, 1, none⟩ = some (.slice ao5_0 ln5_0 cp5_0) := World.cell?_alloc_at _ _ _ _ rfl
    have hsW6 : W5.heap.size < (W5.alloc (.cells #[.int .i64 a0, .slice ao5_0 ln5_0 cp5_0] 30)).heap.size := by simp
    have hzW6 : W5.heap.size ≤ (W5.alloc (.cells #[.int .i64 a0, .slice ao5_0 ln5_0 cp5_0] 30)).heap.size := bE.size
    have kp0_0W6 := (bE.cell (p := ⟨w.heap.size, 0, none⟩) (by show w.heap.size < W5.heap.size; omega)).trans kp0_0W5
    have kp0_1W6 := (bE.cell (p := ⟨w.heap.size, 1, none⟩) (by show w.heap.size < W5.heap.size; omega)).trans kp0_1W5
    have A0W6 := sl.hid (A0W5.out.chg (sl.Chg.ofBelow (lo := 0) bE) (.inr (Nat.zero_le _)))
    have Ox0W6 := sl.hid (On5.out.chg (sl.Chg.ofBelow (lo := 0) bE) (.inr (.inr (Nat.zero_le _))))
    have CW6 := sl.hid (CW5.out.trans (bE.mono (by show w.heap.size ≤ W5.heap.size; omega)))
    clear bE kp0_0W5 kp0_1W5 A0W5 On5 CW5
    go_wp2_with fail
    generalize (W5.alloc (.cells #[.int .i64 a0, .slice ao5_0 ln5_0 cp5_0] 30)) = W6 at *
    refine (IP.out _ W6 _ CW6.out Ox0W6.out.infs (by omega)).mono ?_
    rintro e W7 ⟨rfl, b7⟩
    have hzW7 : W6.heap.size ≤ W7.heap.size := b7.size
    have kp0_0W7 := (b7.cell (p := ⟨w.heap.size, 0, none⟩) (by show w.heap.size < W6.heap.size; omega)).trans kp0_0W6
    have kp0_1W7 := (b7.cell (p := ⟨w.heap.size, 1, none⟩) (by show w.heap.size < W6.heap.size; omega)).trans kp0_1W6
    have kx0_0W7 := (b7.cell (p := ⟨W5.heap.size, 0, none⟩) (by show W5.heap.size < W6.heap.size; omega)).trans kx0_0W6
    have kx0_1W7 := (b7.cell (p := ⟨W5.heap.size, 1, none⟩) (by show W5.heap.size < W6.heap.size; omega)).trans kx0_1W6
    have A0W7 := sl.hid (A0W6.out.chg (sl.Chg.ofBelow (lo := 0) b7) (.inr (Nat.zero_le _)))
    have Ox0W7 := sl.hid (Ox0W6.out.chg (sl.Chg.ofBelow (lo := 0) b7) (.inr (.inr (Nat.zero_le _))))
    have CW7 := sl.hid (CW6.out.trans (b7.mono (by show w.heap.size ≤ W6.heap.size; omega)))
    clear b7 kp0_0W6 kp0_1W6 kx0_0W6 kx0_1W6 A0W6 Ox0W6 CW6
    go_wp2_with fail
    have bD := (Below.refl W7.heap.size W7).drew
    have A0dW7 := sl.hid (A0W7.out.chg (sl.Chg.ofBelow (lo := 0) bD) (.inr (Nat.zero_le _)))
    have Ox0dW7 := sl.hid (Ox0W7.out.chg (sl.Chg.ofBelow (lo := 0) bD) (.inr (.inr (Nat.zero_le _))))
    have CdW7 := sl.hid (CW7.out.drew)
    clear bD A0W7 Ox0W7 CW7
    go_region_held3 (fun w' => w'.cell? ⟨w.heap.size, 0, none⟩ = some (.int .i64 a0) ∧ w'.cell? ⟨w.heap.size, 1, none⟩ = some (f0_0) ∧ w'.cell? ⟨W5.heap.size, 0, none⟩ = some (.int .i64 a0) ∧ w'.cell? ⟨W5.heap.size, 1, none⟩ = some (.slice ao5_0 ln5_0 cp5_0)) (go_keep)
      (first
        | (go_at_call 10
           refine (ct.toC a0 xs0 f0_0 _ _ A0dW7.out (by show w.heap.size ≤ W7.heap.size; omega) HQ0.out).mono ?_
           rintro e W9 ⟨fc0_0, rfl, oc0, bB⟩
           have HJ0 := sl.hid oc0.infs
           have hzW9 : W7.heap.size ≤ W9.heap.size := bB.size
           have kp0_0W9 := (bB.cell (p := ⟨w.heap.size, 0, none⟩) (by show w.heap.size < W7.heap.size; omega)).trans kp0_0W7
           have kp0_1W9 := (bB.cell (p := ⟨w.heap.size, 1, none⟩) (by show w.heap.size < W7.heap.size; omega)).trans kp0_1W7
           have kx0_0W9 := (bB.cell (p := ⟨W5.heap.size, 0, none⟩) (by show W5.heap.size < W7.heap.size; omega)).trans kx0_0W7
           have kx0_1W9 := (bB.cell (p := ⟨W5.heap.size, 1, none⟩) (by show W5.heap.size < W7.heap.size; omega)).trans kx0_1W7
           have A0W9 := sl.hid (A0dW7.out.chg (sl.Chg.ofBelow (lo := 0) bB) (.inr (Nat.zero_le _)))
           have Ox0W9 := sl.hid (Ox0dW7.out.chg (sl.Chg.ofBelow (lo := 0) bB) (.inr (.inr (Nat.zero_le _))))
           have CW9 := sl.hid (CdW7.out.trans (bB.mono (by show w.heap.size ≤ W7.heap.size; omega)))
           clear oc0 bB kp0_0W7 kp0_1W7 kx0_0W7 kx0_1W7 A0dW7 Ox0dW7 CdW7)
        | (go_at_call 12
           refine (ct.eqCS a0 xs0 _ _ _ _ W9 Ox0W9.out.infs HJ0.out HQ0.out).mono ?_
           rintro e W10 ⟨rfl, bC⟩
           have hzW10 : W9.heap.size ≤ W10.heap.size := bC.size
           have kp0_0W10 := (bC.cell (p := ⟨w.heap.size, 0, none⟩) (by show w.heap.size < W9.heap.size; omega)).trans kp0_0W9
           have kp0_1W10 := (bC.cell (p := ⟨w.heap.size, 1, none⟩) (by show w.heap.size < W9.heap.size; omega)).trans kp0_1W9
           have kx0_0W10 := (bC.cell (p := ⟨W5.heap.size, 0, none⟩) (by show W5.heap.size < W9.heap.size; omega)).trans kx0_0W9
           have kx0_1W10 := (bC.cell (p := ⟨W5.heap.size, 1, none⟩) (by show W5.heap.size < W9.heap.size; omega)).trans kx0_1W9
           have A0W10 := sl.hid (A0W9.out.chg (sl.Chg.ofBelow (lo := 0) bC) (.inr (Nat.zero_le _)))
           have Ox0W10 := sl.hid (Ox0W9.out.chg (sl.Chg.ofBelow (lo := 0) bC) (.inr (.inr (Nat.zero_le _))))
           have CW10 := sl.hid (CW9.out.trans (bC.mono (by show w.heap.size ≤ W9.heap.size; omega)))
           clear HJ0 bC kp0_0W9 kp0_1W9 kx0_0W9 kx0_1W9 A0W9 Ox0W9 CW9))
    go_wp2
    go_ret
    exact ⟨rfl, CW10.out⟩
end Go.Proofs.YtbbnheiibkcgiaaDoor.wlayoutWidth
