/-
  The walk of the law of RepeatChart.
-/
import Derived.Test.YtbbnheiibkcgiabDoorRqm
import Derived.Test.YtbbnheiibkcgiabDoorCto
import Derived.Test.YtbbnheiibkcgiabDoorMkh
import Derived.Deep.RegionHeld3
import Derived.Deep.CutRange
namespace Go.Proofs.YtbbnheiibkcgiabDoor.wrepeatChart
open Go.RowKit
set_option linter.unusedVariables false

set_option maxRecDepth 100000 in
set_option maxHeartbeats 20000000 in
theorem law (a0 : Int) (f0_0 : Value) (xs0 : List ro.V) (a1 : Int) (w : World) (hi0 : ct.CIn w f0_0 xs0) (ha0 : -9223372036854775808 ≤ a0 ∧ a0 ≤ 9223372036854775807) (ha1 : -9223372036854775808 ≤ a1 ∧ a1 ≤ 9223372036854775807) (hTb : stb.Tab w) :
    Calls Tryd.prog 3 #[.agg #[.int .i64 a0, f0_0], .int .i64 a1] w fun e w' => e = .returned (.bool true) ∧ Below w.heap.size w w' := by
  have HTb := sl.hid hTb
  clear hTb
  have HI0 := sl.hid hi0.rd
  have HZ0 := sl.hid (fun W B h => ct.szC1 a0 xs0 f0_0 B (1048576) W h hi0.len hi0.short (by omega) (by omega))
  rcases ct.szC_pos (xs := xs0) (left := 1048576) (by omega) with hzc0 | hzc0
  · rw [hzc0] at HZ0
    clear hzc0 hi0 ha0 ha1
    go_enter Tryd.func3, Tryd.ntmps3
    go_wp2_with fail
    have bE : Below w.heap.size w (w.alloc (.cells #[.int .i64 a0, f0_0] 24)) := ((Below.refl w.heap.size w).alloc (by simp) _)
    have hzW0 : w.heap.size + 1 ≤ (w.alloc (.cells #[.int .i64 a0, f0_0] 24)).heap.size := by simp
    have kp0_0W0 : (w.alloc (.cells #[.int .i64 a0, f0_0] 24)).cell? ⟨w.heap.size, 0, none⟩ = some (.int .i64 a0) := World.cell?_alloc_at _ _ _ _ (by simp)
    have kp0_1W0 : (w.alloc (.cells #[.int .i64 a0, f0_0] 24)).cell? ⟨w.heap.size, 1, none⟩ = some (f0_0) := World.cell?_alloc_at _ _ _ _ (by simp)
    have A0W0 := sl.hid (HI0.out.chg (sl.Chg.ofBelow (lo := 0) bE) (.inr (Nat.zero_le _)))
    have CW0 := sl.hid bE
    clear bE HI0
    generalize (w.alloc (.cells #[.int .i64 a0, f0_0] 24)) = W0 at *
    go_wp2_with fail
    refine (HZ0.out W0 _ A0W0.out).mono ?_
    rintro e W1 ⟨rfl, b1⟩
    have hzW1 : W0.heap.size ≤ W1.heap.size := b1.size
    have kp0_0W1 := (b1.cell (p := ⟨w.heap.size, 0, none⟩) (by show w.heap.size < W0.heap.size; omega)).trans kp0_0W0
    have kp0_1W1 := (b1.cell (p := ⟨w.heap.size, 1, none⟩) (by show w.heap.size < W0.heap.size; omega)).trans kp0_1W0
    have A0W1 := sl.hid (A0W0.out.chg (sl.Chg.ofBelow (lo := 0) b1) (.inr (Nat.zero_le _)))
    have CW1 := sl.hid (CW0.out.trans (b1.mono (by show w.heap.size ≤ W0.heap.size; omega)))
    clear b1 kp0_0W0 kp0_1W0 A0W0 CW0
    go_wp2
    go_ret
    exact ⟨rfl, CW1.out⟩
  · have HQ0 := sl.hid (ct.szC_small (by omega) (by omega) hzc0)
    have HT0 := sl.hid (ct.tot_of (by omega) (by omega) hzc0)
    have hzl0 := (ct.szC_bnd (xs := xs0) (left := 1048576) (by omega) hzc0).1
    generalize ct.szC 1048576 xs0 = z0 at *
    have SP : Hid (∀ (g0_0 : Value) (W : World) (B0 : Nat), cm.InfsN W B0 g0_0 xs0 → B0 ≤ W.heap.size → Calls Tryd.prog 6 #[.agg #[.int .i64 a0, g0_0], .int .i64 a1] W fun e w' => ∃ ao cap, e = .returned (.tuple #[.agg #[.int .i64 (cy.rpC a0 xs0 a1), .slice ao (cy.rpR a0 xs0 a1).length cap], .int .i64 (cy.rpK a0 xs0 a1)]) ∧ ro.IOwn w' W.heap.size w'.heap.size (.slice ao (cy.rpR a0 xs0 a1).length cap) (cy.rpR a0 xs0 a1) ∧ Below W.heap.size W w') := sl.hid (fun g0_0 W B0 j0 l0 => cy.sRP a0 xs0 a1 g0_0 B0 W j0 l0 HQ0.out )
    have IP : Hid (∀ (g0_0 : Value) (W : World) (B0 : Nat), Below w.heap.size w W → cm.InfsN W B0 g0_0 xs0 → B0 ≤ W.heap.size → Calls Tryd.prog 8 #[.agg #[.int .i64 a0, g0_0], .int .i64 a1] W fun e w' => ∃ ao cap, e = .returned (.tuple #[.agg #[.int .i64 (cy.rpC a0 xs0 a1), .slice ao (cy.rpR a0 xs0 a1).length cap], .int .i64 (cy.rpK a0 xs0 a1)]) ∧ ro.IOwn w' W.heap.size w'.heap.size (.slice ao (cy.rpR a0 xs0 a1).length cap) (cy.rpR a0 xs0 a1) ∧ Below W.heap.size W w') := sl.hid (fun g0_0 W B0 bw j0 l0 => cy.iRP a0 xs0 a1 g0_0 B0 W j0 l0 HQ0.out  (stb.carry HTb.out bw))
    obtain ⟨hr, htt⟩ := cy.rp_tot a0 xs0 a1
    generalize cy.rpR a0 xs0 a1 = zr at *
    generalize cy.rpC a0 xs0 a1 = sr at *
    generalize cy.rpK a0 xs0 a1 = q1 at *
    clear hi0 ha0 ha1
    go_enter Tryd.func3, Tryd.ntmps3
    go_wp2_with fail
    have bE : Below w.heap.size w (w.alloc (.cells #[.int .i64 a0, f0_0] 24)) := ((Below.refl w.heap.size w).alloc (by simp) _)
    have hzW0 : w.heap.size + 1 ≤ (w.alloc (.cells #[.int .i64 a0, f0_0] 24)).heap.size := by simp
    have kp0_0W0 : (w.alloc (.cells #[.int .i64 a0, f0_0] 24)).cell? ⟨w.heap.size, 0, none⟩ = some (.int .i64 a0) := World.cell?_alloc_at _ _ _ _ (by simp)
    have kp0_1W0 : (w.alloc (.cells #[.int .i64 a0, f0_0] 24)).cell? ⟨w.heap.size, 1, none⟩ = some (f0_0) := World.cell?_alloc_at _ _ _ _ (by simp)
    have A0W0 := sl.hid (HI0.out.chg (sl.Chg.ofBelow (lo := 0) bE) (.inr (Nat.zero_le _)))
    have CW0 := sl.hid bE
    clear bE HI0
    generalize (w.alloc (.cells #[.int .i64 a0, f0_0] 24)) = W0 at *
    go_wp2_with fail
    refine (HZ0.out W0 _ A0W0.out).mono ?_
    rintro e W2 ⟨rfl, b2⟩
    have hzW2 : W0.heap.size ≤ W2.heap.size := b2.size
    have kp0_0W2 := (b2.cell (p := ⟨w.heap.size, 0, none⟩) (by show w.heap.size < W0.heap.size; omega)).trans kp0_0W0
    have kp0_1W2 := (b2.cell (p := ⟨w.heap.size, 1, none⟩) (by show w.heap.size < W0.heap.size; omega)).trans kp0_1W0
    have A0W2 := sl.hid (A0W0.out.chg (sl.Chg.ofBelow (lo := 0) b2) (.inr (Nat.zero_le _)))
    have CW2 := sl.hid (CW0.out.trans (b2.mono (by show w.heap.size ≤ W0.heap.size; omega)))
    clear b2 kp0_0W0 kp0_1W0 A0W0 CW0
    go_wp2_with fail
    refine (ct.toC a0 xs0 f0_0 _ W2 A0W2.out (by omega) HQ0.out).mono ?_
    rintro e W3 ⟨f0_0_3, rfl, o3, b3⟩
    obtain ⟨ao3_0, ln3_0, cp3_0, rfl⟩ := ct.cval o3
    have On3 := sl.hid o3
    clear o3
    have hzW3 : W2.heap.size ≤ W3.heap.size := b3.size
    have kp0_0W3 := (b3.cell (p := ⟨w.heap.size, 0, none⟩) (by show w.heap.size < W2.heap.size; omega)).trans kp0_0W2
    have kp0_1W3 := (b3.cell (p := ⟨w.heap.size, 1, none⟩) (by show w.heap.size < W2.heap.size; omega)).trans kp0_1W2
    have A0W3 := sl.hid (A0W2.out.chg (sl.Chg.ofBelow (lo := 0) b3) (.inr (Nat.zero_le _)))
    have CW3 := sl.hid (CW2.out.trans (b3.mono (by show w.heap.size ≤ W2.heap.size; omega)))
    clear b3 kp0_0W2 kp0_1W2 A0W2 CW2
    go_wp2_with fail
    refine (SP.out _ W3 _ On3.out.infsN (by omega)).mono ?_
    rintro e W4 ⟨ao4, cap4, rfl, o4, b4⟩
    have hzW4 : W3.heap.size ≤ W4.heap.size := b4.size
    have kp0_0W4 := (b4.cell (p := ⟨w.heap.size, 0, none⟩) (by show w.heap.size < W3.heap.size; omega)).trans kp0_0W3
    have kp0_1W4 := (b4.cell (p := ⟨w.heap.size, 1, none⟩) (by show w.heap.size < W3.heap.size; omega)).trans kp0_1W3
    have A0W4 := sl.hid (A0W3.out.chg (sl.Chg.ofBelow (lo := 0) b4) (.inr (Nat.zero_le _)))
    have Oc0W4 := sl.hid (On3.out.chg (sl.Chg.ofBelow (lo := 0) b4) (.inr (.inr (Nat.zero_le _))))
    have CW4 := sl.hid (CW3.out.trans (b4.mono (by show w.heap.size ≤ W3.heap.size; omega)))
    have Ovr := sl.hid o4
    clear o4
    clear b4 kp0_0W3 kp0_1W3 A0W3 On3 CW3
    have bE : Below W4.heap.size W4 (W4.alloc (.cells #[.int .i64 sr, .slice ao4 zr.length cap4] 28)) := (Below.refl _ _).alloc (Nat.le_refl _) _
    have kbr_0W5 : (W4.alloc (.cells #[.int .i64 sr, .slice ao4 zr.length cap4] 28)).cell? ⟨W4.heap.size, 0, none⟩ = some (.int .i64 sr) := World.cell?_alloc_at _ _ _ _ rfl
    have kbr_1W5 : (W4.alloc (.cells #[.int .i64 sr, .slice ao4 zr.length cap4] 28)).cell? ⟨W4.heap.size, 1, none⟩ = some (.slice ao4 zr.length cap4) := World.cell?_alloc_at _ _ _ _ rfl
    have hsW5 : W4.heap.size < (W4.alloc (.cells #[.int .i64 sr, .slice ao4 zr.length cap4] 28)).heap.size := by simp
    have hzW5 : W4.heap.size ≤ (W4.alloc (.cells #[.int .i64 sr, .slice ao4 zr.length cap4] 28)).heap.size := bE.size
    have kp0_0W5 := (bE.cell (p := ⟨w.heap.size, 0, none⟩) (by show w.heap.size < W4.heap.size; omega)).trans kp0_0W4
    have kp0_1W5 := (bE.cell (p := ⟨w.heap.size, 1, none⟩) (by show w.heap.size < W4.heap.size; omega)).trans kp0_1W4
    have A0W5 := sl.hid (A0W4.out.chg (sl.Chg.ofBelow (lo := 0) bE) (.inr (Nat.zero_le _)))
    have Oc0W5 := sl.hid (Oc0W4.out.chg (sl.Chg.ofBelow (lo := 0) bE) (.inr (.inr (Nat.zero_le _))))
    have OrW5 := sl.hid (Ovr.out.chg (sl.Chg.ofBelow (lo := 0) bE) (.inr (.inr (Nat.zero_le _))))
    have CW5 := sl.hid (CW4.out.trans (bE.mono (by show w.heap.size ≤ W4.heap.size; omega)))
    clear bE kp0_0W4 kp0_1W4 A0W4 Oc0W4 Ovr CW4
    go_wp2_with fail
    generalize (W4.alloc (.cells #[.int .i64 sr, .slice ao4 zr.length cap4] 28)) = W5 at *
    refine (ct.toC a0 xs0 f0_0 _ W5 A0W5.out (by omega) HQ0.out).mono ?_
    rintro e W6 ⟨f0_0_6, rfl, o6, b6⟩
    obtain ⟨ao6_0, ln6_0, cp6_0, rfl⟩ := ct.cval o6
    have On6 := sl.hid o6
    clear o6
    have hzW6 : W5.heap.size ≤ W6.heap.size := b6.size
    have kp0_0W6 := (b6.cell (p := ⟨w.heap.size, 0, none⟩) (by show w.heap.size < W5.heap.size; omega)).trans kp0_0W5
    have kp0_1W6 := (b6.cell (p := ⟨w.heap.size, 1, none⟩) (by show w.heap.size < W5.heap.size; omega)).trans kp0_1W5
    have kbr_0W6 := (b6.cell (p := ⟨W4.heap.size, 0, none⟩) (by show W4.heap.size < W5.heap.size; omega)).trans kbr_0W5
    have kbr_1W6 := (b6.cell (p := ⟨W4.heap.size, 1, none⟩) (by show W4.heap.size < W5.heap.size; omega)).trans kbr_1W5
    have A0W6 := sl.hid (A0W5.out.chg (sl.Chg.ofBelow (lo := 0) b6) (.inr (Nat.zero_le _)))
    have OrW6 := sl.hid (OrW5.out.chg (sl.Chg.ofBelow (lo := 0) b6) (.inr (.inr (Nat.zero_le _))))
    have CW6 := sl.hid (CW5.out.trans (b6.mono (by show w.heap.size ≤ W5.heap.size; omega)))
    clear b6 kp0_0W5 kp0_1W5 kbr_0W5 kbr_1W5 A0W5 OrW5 CW5
    have bE : Below W6.heap.size W6 (W6.alloc (.cells #[.int .i64 a0, .slice ao6_0 ln6_0 cp6_0] 28)) := (Below.refl _ _).alloc (Nat.le_refl _) _
    have kx0_0W7 : (W6.alloc (.cells #[.int .i64 a0, .slice ao6_0 ln6_0 cp6_0] 28)).cell? ⟨W6.heap.size, 0, none⟩ = some (.int .i64 a0) := World.cell?_alloc_at _ _ _ _ rfl
    have kx0_1W7 : (W6.alloc (.cells #[.int .i64 a0, .slice ao6_0 ln6_0 cp6_0] 28)).cell? ⟨W6.heap.size, 1, none⟩ = some (.slice ao6_0 ln6_0 cp6_0) := World.cell?_alloc_at _ _ _ _ rfl
    have hsW7 : W6.heap.size < (W6.alloc (.cells #[.int .i64 a0, .slice ao6_0 ln6_0 cp6_0] 28)).heap.size := by simp
    have hzW7 : W6.heap.size ≤ (W6.alloc (.cells #[.int .i64 a0, .slice ao6_0 ln6_0 cp6_0] 28)).heap.size := bE.size
    have kp0_0W7 := (bE.cell (p := ⟨w.heap.size, 0, none⟩) (by show w.heap.size < W6.heap.size; omega)).trans kp0_0W6
    have kp0_1W7 := (bE.cell (p := ⟨w.heap.size, 1, none⟩) (by show w.heap.size < W6.heap.size; omega)).trans kp0_1W6
    have kbr_0W7 := (bE.cell (p := ⟨W4.heap.size, 0, none⟩) (by show W4.heap.size < W6.heap.size; omega)).trans kbr_0W6
    have kbr_1W7 := (bE.cell (p := ⟨W4.heap.size, 1, none⟩) (by show W4.heap.size < W6.heap.size; omega)).trans kbr_1W6
    have A0W7 := sl.hid (A0W6.out.chg (sl.Chg.ofBelow (lo := 0) bE) (.inr (Nat.zero_le _)))
    have OrW7 := sl.hid (OrW6.out.chg (sl.Chg.ofBelow (lo := 0) bE) (.inr (.inr (Nat.zero_le _))))
    have Ox0W7 := sl.hid (On6.out.chg (sl.Chg.ofBelow (lo := 0) bE) (.inr (.inr (Nat.zero_le _))))
    have CW7 := sl.hid (CW6.out.trans (bE.mono (by show w.heap.size ≤ W6.heap.size; omega)))
    clear bE kp0_0W6 kp0_1W6 kbr_0W6 kbr_1W6 A0W6 OrW6 On6 CW6
    go_wp2_with fail
    generalize (W6.alloc (.cells #[.int .i64 a0, .slice ao6_0 ln6_0 cp6_0] 28)) = W7 at *
    refine (IP.out _ W7 _ CW7.out Ox0W7.out.infsN (by omega)).mono ?_
    rintro e W8 ⟨ao8, cap8, rfl, o8, b8⟩
    have hzW8 : W7.heap.size ≤ W8.heap.size := b8.size
    have kp0_0W8 := (b8.cell (p := ⟨w.heap.size, 0, none⟩) (by show w.heap.size < W7.heap.size; omega)).trans kp0_0W7
    have kp0_1W8 := (b8.cell (p := ⟨w.heap.size, 1, none⟩) (by show w.heap.size < W7.heap.size; omega)).trans kp0_1W7
    have kbr_0W8 := (b8.cell (p := ⟨W4.heap.size, 0, none⟩) (by show W4.heap.size < W7.heap.size; omega)).trans kbr_0W7
    have kbr_1W8 := (b8.cell (p := ⟨W4.heap.size, 1, none⟩) (by show W4.heap.size < W7.heap.size; omega)).trans kbr_1W7
    have kx0_0W8 := (b8.cell (p := ⟨W6.heap.size, 0, none⟩) (by show W6.heap.size < W7.heap.size; omega)).trans kx0_0W7
    have kx0_1W8 := (b8.cell (p := ⟨W6.heap.size, 1, none⟩) (by show W6.heap.size < W7.heap.size; omega)).trans kx0_1W7
    have A0W8 := sl.hid (A0W7.out.chg (sl.Chg.ofBelow (lo := 0) b8) (.inr (Nat.zero_le _)))
    have OrW8 := sl.hid (OrW7.out.chg (sl.Chg.ofBelow (lo := 0) b8) (.inr (.inr (Nat.zero_le _))))
    have Ox0W8 := sl.hid (Ox0W7.out.chg (sl.Chg.ofBelow (lo := 0) b8) (.inr (.inr (Nat.zero_le _))))
    have CW8 := sl.hid (CW7.out.trans (b8.mono (by show w.heap.size ≤ W7.heap.size; omega)))
    have Ovg := sl.hid o8
    clear o8
    clear b8 kp0_0W7 kp0_1W7 kbr_0W7 kbr_1W7 kx0_0W7 kx0_1W7 A0W7 OrW7 Ox0W7 CW7
    have bE : Below W8.heap.size W8 (W8.alloc (.cells #[.int .i64 sr, .slice ao8 zr.length cap8] 28)) := (Below.refl _ _).alloc (Nat.le_refl _) _
    have kbg_0W9 : (W8.alloc (.cells #[.int .i64 sr, .slice ao8 zr.length cap8] 28)).cell? ⟨W8.heap.size, 0, none⟩ = some (.int .i64 sr) := World.cell?_alloc_at _ _ _ _ rfl
    have kbg_1W9 : (W8.alloc (.cells #[.int .i64 sr, .slice ao8 zr.length cap8] 28)).cell? ⟨W8.heap.size, 1, none⟩ = some (.slice ao8 zr.length cap8) := World.cell?_alloc_at _ _ _ _ rfl
    have hsW9 : W8.heap.size < (W8.alloc (.cells #[.int .i64 sr, .slice ao8 zr.length cap8] 28)).heap.size := by simp
    have hzW9 : W8.heap.size ≤ (W8.alloc (.cells #[.int .i64 sr, .slice ao8 zr.length cap8] 28)).heap.size := bE.size
    have kp0_0W9 := (bE.cell (p := ⟨w.heap.size, 0, none⟩) (by show w.heap.size < W8.heap.size; omega)).trans kp0_0W8
    have kp0_1W9 := (bE.cell (p := ⟨w.heap.size, 1, none⟩) (by show w.heap.size < W8.heap.size; omega)).trans kp0_1W8
    have kbr_0W9 := (bE.cell (p := ⟨W4.heap.size, 0, none⟩) (by show W4.heap.size < W8.heap.size; omega)).trans kbr_0W8
    have kbr_1W9 := (bE.cell (p := ⟨W4.heap.size, 1, none⟩) (by show W4.heap.size < W8.heap.size; omega)).trans kbr_1W8
    have kx0_0W9 := (bE.cell (p := ⟨W6.heap.size, 0, none⟩) (by show W6.heap.size < W8.heap.size; omega)).trans kx0_0W8
    have kx0_1W9 := (bE.cell (p := ⟨W6.heap.size, 1, none⟩) (by show W6.heap.size < W8.heap.size; omega)).trans kx0_1W8
    have A0W9 := sl.hid (A0W8.out.chg (sl.Chg.ofBelow (lo := 0) bE) (.inr (Nat.zero_le _)))
    have OrW9 := sl.hid (OrW8.out.chg (sl.Chg.ofBelow (lo := 0) bE) (.inr (.inr (Nat.zero_le _))))
    have Ox0W9 := sl.hid (Ox0W8.out.chg (sl.Chg.ofBelow (lo := 0) bE) (.inr (.inr (Nat.zero_le _))))
    have OgW9 := sl.hid (Ovg.out.chg (sl.Chg.ofBelow (lo := 0) bE) (.inr (.inr (Nat.zero_le _))))
    have CW9 := sl.hid (CW8.out.trans (bE.mono (by show w.heap.size ≤ W8.heap.size; omega)))
    clear bE kp0_0W8 kp0_1W8 kbr_0W8 kbr_1W8 kx0_0W8 kx0_1W8 A0W8 OrW8 Ox0W8 Ovg CW8
    go_wp2_with fail
    generalize (W8.alloc (.cells #[.int .i64 sr, .slice ao8 zr.length cap8] 28)) = W9 at *
    refine (ct.eqCS sr zr _ _ _ _ W9 OgW9.out.infs OrW9.out.infs hr).mono ?_
    rintro e W10 ⟨rfl, b10⟩
    have hzW10 : W9.heap.size ≤ W10.heap.size := b10.size
    have kp0_0W10 := (b10.cell (p := ⟨w.heap.size, 0, none⟩) (by show w.heap.size < W9.heap.size; omega)).trans kp0_0W9
    have kp0_1W10 := (b10.cell (p := ⟨w.heap.size, 1, none⟩) (by show w.heap.size < W9.heap.size; omega)).trans kp0_1W9
    have kbr_0W10 := (b10.cell (p := ⟨W4.heap.size, 0, none⟩) (by show W4.heap.size < W9.heap.size; omega)).trans kbr_0W9
    have kbr_1W10 := (b10.cell (p := ⟨W4.heap.size, 1, none⟩) (by show W4.heap.size < W9.heap.size; omega)).trans kbr_1W9
    have kx0_0W10 := (b10.cell (p := ⟨W6.heap.size, 0, none⟩) (by show W6.heap.size < W9.heap.size; omega)).trans kx0_0W9
    have kx0_1W10 := (b10.cell (p := ⟨W6.heap.size, 1, none⟩) (by show W6.heap.size < W9.heap.size; omega)).trans kx0_1W9
    have kbg_0W10 := (b10.cell (p := ⟨W8.heap.size, 0, none⟩) (by show W8.heap.size < W9.heap.size; omega)).trans kbg_0W9
    have kbg_1W10 := (b10.cell (p := ⟨W8.heap.size, 1, none⟩) (by show W8.heap.size < W9.heap.size; omega)).trans kbg_1W9
    have A0W10 := sl.hid (A0W9.out.chg (sl.Chg.ofBelow (lo := 0) b10) (.inr (Nat.zero_le _)))
    have OrW10 := sl.hid (OrW9.out.chg (sl.Chg.ofBelow (lo := 0) b10) (.inr (.inr (Nat.zero_le _))))
    have Ox0W10 := sl.hid (Ox0W9.out.chg (sl.Chg.ofBelow (lo := 0) b10) (.inr (.inr (Nat.zero_le _))))
    have OgW10 := sl.hid (OgW9.out.chg (sl.Chg.ofBelow (lo := 0) b10) (.inr (.inr (Nat.zero_le _))))
    have CW10 := sl.hid (CW9.out.trans (b10.mono (by show w.heap.size ≤ W9.heap.size; omega)))
    clear b10 kp0_0W9 kp0_1W9 kbr_0W9 kbr_1W9 kx0_0W9 kx0_1W9 kbg_0W9 kbg_1W9 A0W9 OrW9 Ox0W9 OgW9 CW9
    go_wp2_with fail
    have bD := (Below.refl W10.heap.size W10).drew
    have A0dW10 := sl.hid (A0W10.out.chg (sl.Chg.ofBelow (lo := 0) bD) (.inr (Nat.zero_le _)))
    have OrdW10 := sl.hid (OrW10.out.chg (sl.Chg.ofBelow (lo := 0) bD) (.inr (.inr (Nat.zero_le _))))
    have Ox0dW10 := sl.hid (Ox0W10.out.chg (sl.Chg.ofBelow (lo := 0) bD) (.inr (.inr (Nat.zero_le _))))
    have OgdW10 := sl.hid (OgW10.out.chg (sl.Chg.ofBelow (lo := 0) bD) (.inr (.inr (Nat.zero_le _))))
    have CdW10 := sl.hid (CW10.out.drew)
    clear bD A0W10 OrW10 Ox0W10 OgW10 CW10
    go_region_held3 (fun w' => w'.cell? ⟨w.heap.size, 0, none⟩ = some (.int .i64 a0) ∧ w'.cell? ⟨w.heap.size, 1, none⟩ = some (f0_0) ∧ w'.cell? ⟨W6.heap.size, 0, none⟩ = some (.int .i64 a0) ∧ w'.cell? ⟨W6.heap.size, 1, none⟩ = some (.slice ao6_0 ln6_0 cp6_0)) (go_keep)
      (first
        | (go_at_call 7
           refine (ct.toC a0 xs0 f0_0 _ _ A0dW10.out (by show w.heap.size ≤ W10.heap.size; omega) HQ0.out).mono ?_
           rintro e W12 ⟨fc0_0, rfl, oc0, bB⟩
           have HJ0 := sl.hid oc0.infs
           have hzW12 : W10.heap.size ≤ W12.heap.size := bB.size
           have kp0_0W12 := (bB.cell (p := ⟨w.heap.size, 0, none⟩) (by show w.heap.size < W10.heap.size; omega)).trans kp0_0W10
           have kp0_1W12 := (bB.cell (p := ⟨w.heap.size, 1, none⟩) (by show w.heap.size < W10.heap.size; omega)).trans kp0_1W10
           have kbr_0W12 := (bB.cell (p := ⟨W4.heap.size, 0, none⟩) (by show W4.heap.size < W10.heap.size; omega)).trans kbr_0W10
           have kbr_1W12 := (bB.cell (p := ⟨W4.heap.size, 1, none⟩) (by show W4.heap.size < W10.heap.size; omega)).trans kbr_1W10
           have kx0_0W12 := (bB.cell (p := ⟨W6.heap.size, 0, none⟩) (by show W6.heap.size < W10.heap.size; omega)).trans kx0_0W10
           have kx0_1W12 := (bB.cell (p := ⟨W6.heap.size, 1, none⟩) (by show W6.heap.size < W10.heap.size; omega)).trans kx0_1W10
           have kbg_0W12 := (bB.cell (p := ⟨W8.heap.size, 0, none⟩) (by show W8.heap.size < W10.heap.size; omega)).trans kbg_0W10
           have kbg_1W12 := (bB.cell (p := ⟨W8.heap.size, 1, none⟩) (by show W8.heap.size < W10.heap.size; omega)).trans kbg_1W10
           have A0W12 := sl.hid (A0dW10.out.chg (sl.Chg.ofBelow (lo := 0) bB) (.inr (Nat.zero_le _)))
           have OrW12 := sl.hid (OrdW10.out.chg (sl.Chg.ofBelow (lo := 0) bB) (.inr (.inr (Nat.zero_le _))))
           have Ox0W12 := sl.hid (Ox0dW10.out.chg (sl.Chg.ofBelow (lo := 0) bB) (.inr (.inr (Nat.zero_le _))))
           have OgW12 := sl.hid (OgdW10.out.chg (sl.Chg.ofBelow (lo := 0) bB) (.inr (.inr (Nat.zero_le _))))
           have CW12 := sl.hid (CdW10.out.trans (bB.mono (by show w.heap.size ≤ W10.heap.size; omega)))
           clear oc0 bB kp0_0W10 kp0_1W10 kbr_0W10 kbr_1W10 kx0_0W10 kx0_1W10 kbg_0W10 kbg_1W10 A0dW10 OrdW10 Ox0dW10 OgdW10 CdW10)
        | (go_at_call 9
           refine (ct.eqCS a0 xs0 _ _ _ _ W12 Ox0W12.out.infs HJ0.out HQ0.out).mono ?_
           rintro e W13 ⟨rfl, bC⟩
           have hzW13 : W12.heap.size ≤ W13.heap.size := bC.size
           have kp0_0W13 := (bC.cell (p := ⟨w.heap.size, 0, none⟩) (by show w.heap.size < W12.heap.size; omega)).trans kp0_0W12
           have kp0_1W13 := (bC.cell (p := ⟨w.heap.size, 1, none⟩) (by show w.heap.size < W12.heap.size; omega)).trans kp0_1W12
           have kbr_0W13 := (bC.cell (p := ⟨W4.heap.size, 0, none⟩) (by show W4.heap.size < W12.heap.size; omega)).trans kbr_0W12
           have kbr_1W13 := (bC.cell (p := ⟨W4.heap.size, 1, none⟩) (by show W4.heap.size < W12.heap.size; omega)).trans kbr_1W12
           have kx0_0W13 := (bC.cell (p := ⟨W6.heap.size, 0, none⟩) (by show W6.heap.size < W12.heap.size; omega)).trans kx0_0W12
           have kx0_1W13 := (bC.cell (p := ⟨W6.heap.size, 1, none⟩) (by show W6.heap.size < W12.heap.size; omega)).trans kx0_1W12
           have kbg_0W13 := (bC.cell (p := ⟨W8.heap.size, 0, none⟩) (by show W8.heap.size < W12.heap.size; omega)).trans kbg_0W12
           have kbg_1W13 := (bC.cell (p := ⟨W8.heap.size, 1, none⟩) (by show W8.heap.size < W12.heap.size; omega)).trans kbg_1W12
           have A0W13 := sl.hid (A0W12.out.chg (sl.Chg.ofBelow (lo := 0) bC) (.inr (Nat.zero_le _)))
           have OrW13 := sl.hid (OrW12.out.chg (sl.Chg.ofBelow (lo := 0) bC) (.inr (.inr (Nat.zero_le _))))
           have Ox0W13 := sl.hid (Ox0W12.out.chg (sl.Chg.ofBelow (lo := 0) bC) (.inr (.inr (Nat.zero_le _))))
           have OgW13 := sl.hid (OgW12.out.chg (sl.Chg.ofBelow (lo := 0) bC) (.inr (.inr (Nat.zero_le _))))
           have CW13 := sl.hid (CW12.out.trans (bC.mono (by show w.heap.size ≤ W12.heap.size; omega)))
           clear HJ0 bC kp0_0W12 kp0_1W12 kbr_0W12 kbr_1W12 kx0_0W12 kx0_1W12 kbg_0W12 kbg_1W12 A0W12 OrW12 Ox0W12 OgW12 CW12))
    go_wp2_with fail
    refine (ct.markC a0 xs0 _ _ _ 1 W13 Ox0W13.out HQ0.out HT0.out (by omega) (by omega)).mono ?_
    rintro e W14 ⟨km14, rfl, hkm14, c14⟩
    have hkd14 : decide (km14 < 0) = false := by simp; omega
    clear Ox0W13
    have hzW14 : W13.heap.size ≤ W14.heap.size := c14.size
    have kp0_0W14 := (World.cell?_of_block (w := W13) (w' := W14) (a := ⟨w.heap.size, 0, none⟩) (c14.block (w.heap.size) (by omega) (by omega))).trans kp0_0W13
    have kp0_1W14 := (World.cell?_of_block (w := W13) (w' := W14) (a := ⟨w.heap.size, 1, none⟩) (c14.block (w.heap.size) (by omega) (by omega))).trans kp0_1W13
    have kbr_0W14 := (World.cell?_of_block (w := W13) (w' := W14) (a := ⟨W4.heap.size, 0, none⟩) (c14.block (W4.heap.size) (by omega) (by omega))).trans kbr_0W13
    have kbr_1W14 := (World.cell?_of_block (w := W13) (w' := W14) (a := ⟨W4.heap.size, 1, none⟩) (c14.block (W4.heap.size) (by omega) (by omega))).trans kbr_1W13
    have kbg_0W14 := (World.cell?_of_block (w := W13) (w' := W14) (a := ⟨W8.heap.size, 0, none⟩) (c14.block (W8.heap.size) (by omega) (by omega))).trans kbg_0W13
    have kbg_1W14 := (World.cell?_of_block (w := W13) (w' := W14) (a := ⟨W8.heap.size, 1, none⟩) (c14.block (W8.heap.size) (by omega) (by omega))).trans kbg_1W13
    have A0W14 := sl.hid (A0W13.out.chg c14 (by omega))
    have OrW14 := sl.hid (OrW13.out.chg c14 (by omega))
    have OgW14 := sl.hid (OgW13.out.chg c14 (by omega))
    have CW14 := sl.hid (CW13.out.trans (c14.below (by omega) (by omega)))
    clear c14 kp0_0W13 kp0_1W13 kbr_0W13 kbr_1W13 kbg_0W13 kbg_1W13 A0W13 OrW13 OgW13 CW13
    go_wp2_with fail
    refine (ct.eqCS sr zr _ _ _ _ W14 OgW14.out.infs OrW14.out.infs hr).mono ?_
    rintro e W15 ⟨rfl, b15⟩
    have hzW15 : W14.heap.size ≤ W15.heap.size := b15.size
    have kp0_0W15 := (b15.cell (p := ⟨w.heap.size, 0, none⟩) (by show w.heap.size < W14.heap.size; omega)).trans kp0_0W14
    have kp0_1W15 := (b15.cell (p := ⟨w.heap.size, 1, none⟩) (by show w.heap.size < W14.heap.size; omega)).trans kp0_1W14
    have kbr_0W15 := (b15.cell (p := ⟨W4.heap.size, 0, none⟩) (by show W4.heap.size < W14.heap.size; omega)).trans kbr_0W14
    have kbr_1W15 := (b15.cell (p := ⟨W4.heap.size, 1, none⟩) (by show W4.heap.size < W14.heap.size; omega)).trans kbr_1W14
    have kbg_0W15 := (b15.cell (p := ⟨W8.heap.size, 0, none⟩) (by show W8.heap.size < W14.heap.size; omega)).trans kbg_0W14
    have kbg_1W15 := (b15.cell (p := ⟨W8.heap.size, 1, none⟩) (by show W8.heap.size < W14.heap.size; omega)).trans kbg_1W14
    have A0W15 := sl.hid (A0W14.out.chg (sl.Chg.ofBelow (lo := 0) b15) (.inr (Nat.zero_le _)))
    have OrW15 := sl.hid (OrW14.out.chg (sl.Chg.ofBelow (lo := 0) b15) (.inr (.inr (Nat.zero_le _))))
    have OgW15 := sl.hid (OgW14.out.chg (sl.Chg.ofBelow (lo := 0) b15) (.inr (.inr (Nat.zero_le _))))
    have CW15 := sl.hid (CW14.out.trans (b15.mono (by show w.heap.size ≤ W14.heap.size; omega)))
    clear b15 kp0_0W14 kp0_1W14 kbr_0W14 kbr_1W14 kbg_0W14 kbg_1W14 A0W14 OrW14 OgW14 CW14
    go_wp2_with fail
    refine (ct.markCF sr zr _ _ _ 1 W15 OgW15.out hr htt (by omega) (by omega)).mono ?_
    rintro e W16 ⟨rfl, o16, c16⟩
    have hzW16 : W15.heap.size ≤ W16.heap.size := c16.size
    have kp0_0W16 := (World.cell?_of_block (w := W15) (w' := W16) (a := ⟨w.heap.size, 0, none⟩) (c16.block (w.heap.size) (by omega) (by omega))).trans kp0_0W15
    have kp0_1W16 := (World.cell?_of_block (w := W15) (w' := W16) (a := ⟨w.heap.size, 1, none⟩) (c16.block (w.heap.size) (by omega) (by omega))).trans kp0_1W15
    have kbr_0W16 := (World.cell?_of_block (w := W15) (w' := W16) (a := ⟨W4.heap.size, 0, none⟩) (c16.block (W4.heap.size) (by omega) (by omega))).trans kbr_0W15
    have kbr_1W16 := (World.cell?_of_block (w := W15) (w' := W16) (a := ⟨W4.heap.size, 1, none⟩) (c16.block (W4.heap.size) (by omega) (by omega))).trans kbr_1W15
    have kbg_0W16 := (World.cell?_of_block (w := W15) (w' := W16) (a := ⟨W8.heap.size, 0, none⟩) (c16.block (W8.heap.size) (by omega) (by omega))).trans kbg_0W15
    have kbg_1W16 := (World.cell?_of_block (w := W15) (w' := W16) (a := ⟨W8.heap.size, 1, none⟩) (c16.block (W8.heap.size) (by omega) (by omega))).trans kbg_1W15
    have A0W16 := sl.hid (A0W15.out.chg c16 (by omega))
    have OrW16 := sl.hid (OrW15.out.chg c16 (by omega))
    have CW16 := sl.hid (CW15.out.trans (c16.below (by omega) (by omega)))
    clear c16 kp0_0W15 kp0_1W15 kbr_0W15 kbr_1W15 kbg_0W15 kbg_1W15 A0W15 OrW15 CW15
    have On16 := sl.hid o16
    clear o16 OgW15
    go_wp2_with fail
    refine (ct.heldC sr zr _ _ 1 W16 On16.out.infs hr htt (by omega) (by omega)).mono ?_
    rintro e W17 ⟨rfl, b17⟩
    have hzW17 : W16.heap.size ≤ W17.heap.size := b17.size
    have kp0_0W17 := (b17.cell (p := ⟨w.heap.size, 0, none⟩) (by show w.heap.size < W16.heap.size; omega)).trans kp0_0W16
    have kp0_1W17 := (b17.cell (p := ⟨w.heap.size, 1, none⟩) (by show w.heap.size < W16.heap.size; omega)).trans kp0_1W16
    have kbr_0W17 := (b17.cell (p := ⟨W4.heap.size, 0, none⟩) (by show W4.heap.size < W16.heap.size; omega)).trans kbr_0W16
    have kbr_1W17 := (b17.cell (p := ⟨W4.heap.size, 1, none⟩) (by show W4.heap.size < W16.heap.size; omega)).trans kbr_1W16
    have kbg_0W17 := (b17.cell (p := ⟨W8.heap.size, 0, none⟩) (by show W8.heap.size < W16.heap.size; omega)).trans kbg_0W16
    have kbg_1W17 := (b17.cell (p := ⟨W8.heap.size, 1, none⟩) (by show W8.heap.size < W16.heap.size; omega)).trans kbg_1W16
    have A0W17 := sl.hid (A0W16.out.chg (sl.Chg.ofBelow (lo := 0) b17) (.inr (Nat.zero_le _)))
    have OrW17 := sl.hid (OrW16.out.chg (sl.Chg.ofBelow (lo := 0) b17) (.inr (.inr (Nat.zero_le _))))
    have OgW17 := sl.hid (On16.out.chg (sl.Chg.ofBelow (lo := 0) b17) (.inr (.inr (Nat.zero_le _))))
    have CW17 := sl.hid (CW16.out.trans (b17.mono (by show w.heap.size ≤ W16.heap.size; omega)))
    clear b17 kp0_0W16 kp0_1W16 kbr_0W16 kbr_1W16 kbg_0W16 kbg_1W16 A0W16 OrW16 On16 CW16
    go_wp2_with fail
    refine (ct.toC a0 xs0 f0_0 _ W17 A0W17.out (by omega) HQ0.out).mono ?_
    rintro e W18 ⟨f0_0_18, rfl, o18, b18⟩
    obtain ⟨ao18_0, ln18_0, cp18_0, rfl⟩ := ct.cval o18
    have On18 := sl.hid o18
    clear o18
    have hzW18 : W17.heap.size ≤ W18.heap.size := b18.size
    have kp0_0W18 := (b18.cell (p := ⟨w.heap.size, 0, none⟩) (by show w.heap.size < W17.heap.size; omega)).trans kp0_0W17
    have kp0_1W18 := (b18.cell (p := ⟨w.heap.size, 1, none⟩) (by show w.heap.size < W17.heap.size; omega)).trans kp0_1W17
    have kbr_0W18 := (b18.cell (p := ⟨W4.heap.size, 0, none⟩) (by show W4.heap.size < W17.heap.size; omega)).trans kbr_0W17
    have kbr_1W18 := (b18.cell (p := ⟨W4.heap.size, 1, none⟩) (by show W4.heap.size < W17.heap.size; omega)).trans kbr_1W17
    have kbg_0W18 := (b18.cell (p := ⟨W8.heap.size, 0, none⟩) (by show W8.heap.size < W17.heap.size; omega)).trans kbg_0W17
    have kbg_1W18 := (b18.cell (p := ⟨W8.heap.size, 1, none⟩) (by show W8.heap.size < W17.heap.size; omega)).trans kbg_1W17
    have A0W18 := sl.hid (A0W17.out.chg (sl.Chg.ofBelow (lo := 0) b18) (.inr (Nat.zero_le _)))
    have OrW18 := sl.hid (OrW17.out.chg (sl.Chg.ofBelow (lo := 0) b18) (.inr (.inr (Nat.zero_le _))))
    have OgW18 := sl.hid (OgW17.out.chg (sl.Chg.ofBelow (lo := 0) b18) (.inr (.inr (Nat.zero_le _))))
    have CW18 := sl.hid (CW17.out.trans (b18.mono (by show w.heap.size ≤ W17.heap.size; omega)))
    clear b18 kp0_0W17 kp0_1W17 kbr_0W17 kbr_1W17 kbg_0W17 kbg_1W17 A0W17 OrW17 OgW17 CW17
    go_wp2_with fail
    refine (IP.out _ W18 _ CW18.out On18.out.infsN (by omega)).mono ?_
    rintro e W19 ⟨ao19, cap19, rfl, o19, b19⟩
    have hzW19 : W18.heap.size ≤ W19.heap.size := b19.size
    have kp0_0W19 := (b19.cell (p := ⟨w.heap.size, 0, none⟩) (by show w.heap.size < W18.heap.size; omega)).trans kp0_0W18
    have kp0_1W19 := (b19.cell (p := ⟨w.heap.size, 1, none⟩) (by show w.heap.size < W18.heap.size; omega)).trans kp0_1W18
    have kbr_0W19 := (b19.cell (p := ⟨W4.heap.size, 0, none⟩) (by show W4.heap.size < W18.heap.size; omega)).trans kbr_0W18
    have kbr_1W19 := (b19.cell (p := ⟨W4.heap.size, 1, none⟩) (by show W4.heap.size < W18.heap.size; omega)).trans kbr_1W18
    have kbg_0W19 := (b19.cell (p := ⟨W8.heap.size, 0, none⟩) (by show W8.heap.size < W18.heap.size; omega)).trans kbg_0W18
    have kbg_1W19 := (b19.cell (p := ⟨W8.heap.size, 1, none⟩) (by show W8.heap.size < W18.heap.size; omega)).trans kbg_1W18
    have A0W19 := sl.hid (A0W18.out.chg (sl.Chg.ofBelow (lo := 0) b19) (.inr (Nat.zero_le _)))
    have OrW19 := sl.hid (OrW18.out.chg (sl.Chg.ofBelow (lo := 0) b19) (.inr (.inr (Nat.zero_le _))))
    have OgW19 := sl.hid (OgW18.out.chg (sl.Chg.ofBelow (lo := 0) b19) (.inr (.inr (Nat.zero_le _))))
    have Oz0W19 := sl.hid (On18.out.chg (sl.Chg.ofBelow (lo := 0) b19) (.inr (.inr (Nat.zero_le _))))
    have CW19 := sl.hid (CW18.out.trans (b19.mono (by show w.heap.size ≤ W18.heap.size; omega)))
    have Ovh := sl.hid o19
    clear o19
    clear b19 kp0_0W18 kp0_1W18 kbr_0W18 kbr_1W18 kbg_0W18 kbg_1W18 A0W18 OrW18 OgW18 On18 CW18
    have bE : Below W19.heap.size W19 (W19.alloc (.cells #[.int .i64 sr, .slice ao19 zr.length cap19] 28)) := (Below.refl _ _).alloc (Nat.le_refl _) _
    have kbh_0W20 : (W19.alloc (.cells #[.int .i64 sr, .slice ao19 zr.length cap19] 28)).cell? ⟨W19.heap.size, 0, none⟩ = some (.int .i64 sr) := World.cell?_alloc_at _ _ _ _ rfl
    have kbh_1W20 : (W19.alloc (.cells #[.int .i64 sr, .slice ao19 zr.length cap19] 28)).cell? ⟨W19.heap.size, 1, none⟩ = some (.slice ao19 zr.length cap19) := World.cell?_alloc_at _ _ _ _ rfl
    have hsW20 : W19.heap.size < (W19.alloc (.cells #[.int .i64 sr, .slice ao19 zr.length cap19] 28)).heap.size := by simp
    have hzW20 : W19.heap.size ≤ (W19.alloc (.cells #[.int .i64 sr, .slice ao19 zr.length cap19] 28)).heap.size := bE.size
    have kp0_0W20 := (bE.cell (p := ⟨w.heap.size, 0, none⟩) (by show w.heap.size < W19.heap.size; omega)).trans kp0_0W19
    have kp0_1W20 := (bE.cell (p := ⟨w.heap.size, 1, none⟩) (by show w.heap.size < W19.heap.size; omega)).trans kp0_1W19
    have kbr_0W20 := (bE.cell (p := ⟨W4.heap.size, 0, none⟩) (by show W4.heap.size < W19.heap.size; omega)).trans kbr_0W19
    have kbr_1W20 := (bE.cell (p := ⟨W4.heap.size, 1, none⟩) (by show W4.heap.size < W19.heap.size; omega)).trans kbr_1W19
    have kbg_0W20 := (bE.cell (p := ⟨W8.heap.size, 0, none⟩) (by show W8.heap.size < W19.heap.size; omega)).trans kbg_0W19
    have kbg_1W20 := (bE.cell (p := ⟨W8.heap.size, 1, none⟩) (by show W8.heap.size < W19.heap.size; omega)).trans kbg_1W19
    have A0W20 := sl.hid (A0W19.out.chg (sl.Chg.ofBelow (lo := 0) bE) (.inr (Nat.zero_le _)))
    have OrW20 := sl.hid (OrW19.out.chg (sl.Chg.ofBelow (lo := 0) bE) (.inr (.inr (Nat.zero_le _))))
    have OgW20 := sl.hid (OgW19.out.chg (sl.Chg.ofBelow (lo := 0) bE) (.inr (.inr (Nat.zero_le _))))
    have Oz0W20 := sl.hid (Oz0W19.out.chg (sl.Chg.ofBelow (lo := 0) bE) (.inr (.inr (Nat.zero_le _))))
    have OhW20 := sl.hid (Ovh.out.chg (sl.Chg.ofBelow (lo := 0) bE) (.inr (.inr (Nat.zero_le _))))
    have CW20 := sl.hid (CW19.out.trans (bE.mono (by show w.heap.size ≤ W19.heap.size; omega)))
    clear bE kp0_0W19 kp0_1W19 kbr_0W19 kbr_1W19 kbg_0W19 kbg_1W19 A0W19 OrW19 OgW19 Oz0W19 Ovh CW19
    go_wp2_with fail
    generalize (W19.alloc (.cells #[.int .i64 sr, .slice ao19 zr.length cap19] 28)) = W20 at *
    refine (ct.eqCS sr zr _ _ _ _ W20 OhW20.out.infs OrW20.out.infs hr).mono ?_
    rintro e W21 ⟨rfl, b21⟩
    have hzW21 : W20.heap.size ≤ W21.heap.size := b21.size
    have kp0_0W21 := (b21.cell (p := ⟨w.heap.size, 0, none⟩) (by show w.heap.size < W20.heap.size; omega)).trans kp0_0W20
    have kp0_1W21 := (b21.cell (p := ⟨w.heap.size, 1, none⟩) (by show w.heap.size < W20.heap.size; omega)).trans kp0_1W20
    have kbr_0W21 := (b21.cell (p := ⟨W4.heap.size, 0, none⟩) (by show W4.heap.size < W20.heap.size; omega)).trans kbr_0W20
    have kbr_1W21 := (b21.cell (p := ⟨W4.heap.size, 1, none⟩) (by show W4.heap.size < W20.heap.size; omega)).trans kbr_1W20
    have kbg_0W21 := (b21.cell (p := ⟨W8.heap.size, 0, none⟩) (by show W8.heap.size < W20.heap.size; omega)).trans kbg_0W20
    have kbg_1W21 := (b21.cell (p := ⟨W8.heap.size, 1, none⟩) (by show W8.heap.size < W20.heap.size; omega)).trans kbg_1W20
    have kbh_0W21 := (b21.cell (p := ⟨W19.heap.size, 0, none⟩) (by show W19.heap.size < W20.heap.size; omega)).trans kbh_0W20
    have kbh_1W21 := (b21.cell (p := ⟨W19.heap.size, 1, none⟩) (by show W19.heap.size < W20.heap.size; omega)).trans kbh_1W20
    have A0W21 := sl.hid (A0W20.out.chg (sl.Chg.ofBelow (lo := 0) b21) (.inr (Nat.zero_le _)))
    have OrW21 := sl.hid (OrW20.out.chg (sl.Chg.ofBelow (lo := 0) b21) (.inr (.inr (Nat.zero_le _))))
    have OgW21 := sl.hid (OgW20.out.chg (sl.Chg.ofBelow (lo := 0) b21) (.inr (.inr (Nat.zero_le _))))
    have OhW21 := sl.hid (OhW20.out.chg (sl.Chg.ofBelow (lo := 0) b21) (.inr (.inr (Nat.zero_le _))))
    have CW21 := sl.hid (CW20.out.trans (b21.mono (by show w.heap.size ≤ W20.heap.size; omega)))
    clear b21 kp0_0W20 kp0_1W20 kbr_0W20 kbr_1W20 kbg_0W20 kbg_1W20 kbh_0W20 kbh_1W20 A0W20 OrW20 OgW20 OhW20 CW20
    go_wp2_with fail
    refine (ct.heldC sr zr _ _ 1 W21 OgW21.out.infs hr htt (by omega) (by omega)).mono ?_
    rintro e W22 ⟨rfl, b22⟩
    have hzW22 : W21.heap.size ≤ W22.heap.size := b22.size
    have kp0_0W22 := (b22.cell (p := ⟨w.heap.size, 0, none⟩) (by show w.heap.size < W21.heap.size; omega)).trans kp0_0W21
    have kp0_1W22 := (b22.cell (p := ⟨w.heap.size, 1, none⟩) (by show w.heap.size < W21.heap.size; omega)).trans kp0_1W21
    have kbr_0W22 := (b22.cell (p := ⟨W4.heap.size, 0, none⟩) (by show W4.heap.size < W21.heap.size; omega)).trans kbr_0W21
    have kbr_1W22 := (b22.cell (p := ⟨W4.heap.size, 1, none⟩) (by show W4.heap.size < W21.heap.size; omega)).trans kbr_1W21
    have kbg_0W22 := (b22.cell (p := ⟨W8.heap.size, 0, none⟩) (by show W8.heap.size < W21.heap.size; omega)).trans kbg_0W21
    have kbg_1W22 := (b22.cell (p := ⟨W8.heap.size, 1, none⟩) (by show W8.heap.size < W21.heap.size; omega)).trans kbg_1W21
    have kbh_0W22 := (b22.cell (p := ⟨W19.heap.size, 0, none⟩) (by show W19.heap.size < W21.heap.size; omega)).trans kbh_0W21
    have kbh_1W22 := (b22.cell (p := ⟨W19.heap.size, 1, none⟩) (by show W19.heap.size < W21.heap.size; omega)).trans kbh_1W21
    have A0W22 := sl.hid (A0W21.out.chg (sl.Chg.ofBelow (lo := 0) b22) (.inr (Nat.zero_le _)))
    have OrW22 := sl.hid (OrW21.out.chg (sl.Chg.ofBelow (lo := 0) b22) (.inr (.inr (Nat.zero_le _))))
    have OgW22 := sl.hid (OgW21.out.chg (sl.Chg.ofBelow (lo := 0) b22) (.inr (.inr (Nat.zero_le _))))
    have OhW22 := sl.hid (OhW21.out.chg (sl.Chg.ofBelow (lo := 0) b22) (.inr (.inr (Nat.zero_le _))))
    have CW22 := sl.hid (CW21.out.trans (b22.mono (by show w.heap.size ≤ W21.heap.size; omega)))
    clear b22 kp0_0W21 kp0_1W21 kbr_0W21 kbr_1W21 kbg_0W21 kbg_1W21 kbh_0W21 kbh_1W21 A0W21 OrW21 OgW21 OhW21 CW21
    go_wp2
    go_ret
    exact ⟨rfl, CW22.out⟩
end Go.Proofs.YtbbnheiibkcgiabDoor.wrepeatChart
