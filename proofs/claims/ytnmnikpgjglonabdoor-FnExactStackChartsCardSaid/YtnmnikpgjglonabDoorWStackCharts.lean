/-
  The walk of the law of StackCharts.
-/
import Derived.Test.YtnmnikpgjglonabDoorChm
import Derived.Test.YtnmnikpgjglonabDoorCto
import Derived.Test.YtnmnikpgjglonabDoorMkh
import Derived.Deep.RegionHeld3
namespace Go.Proofs.YtnmnikpgjglonabDoor.wstackCharts
open Go.RowKit
set_option linter.unusedVariables false

set_option maxRecDepth 100000 in
set_option maxHeartbeats 20000000 in
theorem law (a0 : Int) (f0_0 : Value) (xs0 : List ro.V) (a1 : Int) (f1_0 : Value) (xs1 : List ro.V) (w : World) (hi0 : ct.CIn w f0_0 xs0) (ha0 : -9223372036854775808 ≤ a0 ∧ a0 ≤ 9223372036854775807) (hi1 : ct.CIn w f1_0 xs1) (ha1 : -9223372036854775808 ≤ a1 ∧ a1 ≤ 9223372036854775807) (hTb : stb.Tab w) :
    Calls Tryd.prog 6 #[.agg #[.int .i64 a0, f0_0], .agg #[.int .i64 a1, f1_0]] w fun e w' => e = .returned (.bool true) ∧ Below w.heap.size w w' := by
  have HTb := sl.hid hTb
  clear hTb
  have HI0 := sl.hid hi0.rd
  have HI1 := sl.hid hi1.rd
  have HZ0 := sl.hid (fun W B h => ct.szC1 a0 xs0 f0_0 B (1048576) W h hi0.len hi0.short (by omega) (by omega))
  rcases ct.szC_pos (xs := xs0) (left := 1048576) (by omega) with hzc0 | hzc0
  · rw [hzc0] at HZ0
    clear hzc0 hi0 hi1 ha0 ha1
    go_enter Tryd.func6, Tryd.ntmps6
    go_wp2_with fail
    have bE : Below w.heap.size w ((w.alloc (.cells #[.int .i64 a0, f0_0] 36)).alloc (.cells #[.int .i64 a1, f1_0] 36)) := (((Below.refl w.heap.size w).alloc (by simp) _).alloc (by simp) _)
    have hzW0 : w.heap.size + 2 ≤ ((w.alloc (.cells #[.int .i64 a0, f0_0] 36)).alloc (.cells #[.int .i64 a1, f1_0] 36)).heap.size := by simp
    have kp0_0W0 : ((w.alloc (.cells #[.int .i64 a0, f0_0] 36)).alloc (.cells #[.int .i64 a1, f1_0] 36)).cell? ⟨w.heap.size, 0, none⟩ = some (.int .i64 a0) := (World.cell?_alloc_past _ _ _ (by first | (simp; done) | (simp; omega))).trans (World.cell?_alloc_at _ _ _ _ (by simp))
    have kp0_1W0 : ((w.alloc (.cells #[.int .i64 a0, f0_0] 36)).alloc (.cells #[.int .i64 a1, f1_0] 36)).cell? ⟨w.heap.size, 1, none⟩ = some (f0_0) := (World.cell?_alloc_past _ _ _ (by first | (simp; done) | (simp; omega))).trans (World.cell?_alloc_at _ _ _ _ (by simp))
    have kp1_0W0 : ((w.alloc (.cells #[.int .i64 a0, f0_0] 36)).alloc (.cells #[.int .i64 a1, f1_0] 36)).cell? ⟨w.heap.size + 1, 0, none⟩ = some (.int .i64 a1) := World.cell?_alloc_at _ _ _ _ (by simp)
    have kp1_1W0 : ((w.alloc (.cells #[.int .i64 a0, f0_0] 36)).alloc (.cells #[.int .i64 a1, f1_0] 36)).cell? ⟨w.heap.size + 1, 1, none⟩ = some (f1_0) := World.cell?_alloc_at _ _ _ _ (by simp)
    have A0W0 := sl.hid (HI0.out.chg (sl.Chg.ofBelow (lo := 0) bE) (.inr (Nat.zero_le _)))
    have A1W0 := sl.hid (HI1.out.chg (sl.Chg.ofBelow (lo := 0) bE) (.inr (Nat.zero_le _)))
    have CW0 := sl.hid bE
    clear bE HI0 HI1
    generalize ((w.alloc (.cells #[.int .i64 a0, f0_0] 36)).alloc (.cells #[.int .i64 a1, f1_0] 36)) = W0 at *
    go_wp2_with fail
    refine (HZ0.out W0 _ A0W0.out).mono ?_
    rintro e W1 ⟨rfl, b1⟩
    have hzW1 : W0.heap.size ≤ W1.heap.size := b1.size
    have kp0_0W1 := (b1.cell (p := ⟨w.heap.size, 0, none⟩) (by show w.heap.size < W0.heap.size; omega)).trans kp0_0W0
    have kp0_1W1 := (b1.cell (p := ⟨w.heap.size, 1, none⟩) (by show w.heap.size < W0.heap.size; omega)).trans kp0_1W0
    have kp1_0W1 := (b1.cell (p := ⟨w.heap.size + 1, 0, none⟩) (by show w.heap.size + 1 < W0.heap.size; omega)).trans kp1_0W0
    have kp1_1W1 := (b1.cell (p := ⟨w.heap.size + 1, 1, none⟩) (by show w.heap.size + 1 < W0.heap.size; omega)).trans kp1_1W0
    have A0W1 := sl.hid (A0W0.out.chg (sl.Chg.ofBelow (lo := 0) b1) (.inr (Nat.zero_le _)))
    have A1W1 := sl.hid (A1W0.out.chg (sl.Chg.ofBelow (lo := 0) b1) (.inr (Nat.zero_le _)))
    have CW1 := sl.hid (CW0.out.trans (b1.mono (by show w.heap.size ≤ W0.heap.size; omega)))
    clear b1 kp0_0W0 kp0_1W0 kp1_0W0 kp1_1W0 A0W0 A1W0 CW0
    go_wp2
    go_ret
    exact ⟨rfl, CW1.out⟩
  · have HQ0 := sl.hid (ct.szC_small (by omega) (by omega) hzc0)
    have HT0 := sl.hid (ct.tot_of (by omega) (by omega) hzc0)
    have hzl0 := (ct.szC_bnd (xs := xs0) (left := 1048576) (by omega) hzc0).1
    generalize ct.szC 1048576 xs0 = z0 at *
    have HZ1 := sl.hid (fun W B h => ct.szC1 a1 xs1 f1_0 B (z0) W h hi1.len hi1.short (by omega) (by omega))
    rcases ct.szC_pos (xs := xs1) (left := z0) (by omega) with hzc1 | hzc1
    · rw [hzc1] at HZ1
      clear hzc1 hi0 hi1 ha0 ha1
      go_enter Tryd.func6, Tryd.ntmps6
      go_wp2_with fail
      have bE : Below w.heap.size w ((w.alloc (.cells #[.int .i64 a0, f0_0] 36)).alloc (.cells #[.int .i64 a1, f1_0] 36)) := (((Below.refl w.heap.size w).alloc (by simp) _).alloc (by simp) _)
      have hzW0 : w.heap.size + 2 ≤ ((w.alloc (.cells #[.int .i64 a0, f0_0] 36)).alloc (.cells #[.int .i64 a1, f1_0] 36)).heap.size := by simp
      have kp0_0W0 : ((w.alloc (.cells #[.int .i64 a0, f0_0] 36)).alloc (.cells #[.int .i64 a1, f1_0] 36)).cell? ⟨w.heap.size, 0, none⟩ = some (.int .i64 a0) := (World.cell?_alloc_past _ _ _ (by first | (simp; done) | (simp; omega))).trans (World.cell?_alloc_at _ _ _ _ (by simp))
      have kp0_1W0 : ((w.alloc (.cells #[.int .i64 a0, f0_0] 36)).alloc (.cells #[.int .i64 a1, f1_0] 36)).cell? ⟨w.heap.size, 1, none⟩ = some (f0_0) := (World.cell?_alloc_past _ _ _ (by first | (simp; done) | (simp; omega))).trans (World.cell?_alloc_at _ _ _ _ (by simp))
      have kp1_0W0 : ((w.alloc (.cells #[.int .i64 a0, f0_0] 36)).alloc (.cells #[.int .i64 a1, f1_0] 36)).cell? ⟨w.heap.size + 1, 0, none⟩ = some (.int .i64 a1) := World.cell?_alloc_at _ _ _ _ (by simp)
      have kp1_1W0 : ((w.alloc (.cells #[.int .i64 a0, f0_0] 36)).alloc (.cells #[.int .i64 a1, f1_0] 36)).cell? ⟨w.heap.size + 1, 1, none⟩ = some (f1_0) := World.cell?_alloc_at _ _ _ _ (by simp)
      have A0W0 := sl.hid (HI0.out.chg (sl.Chg.ofBelow (lo := 0) bE) (.inr (Nat.zero_le _)))
      have A1W0 := sl.hid (HI1.out.chg (sl.Chg.ofBelow (lo := 0) bE) (.inr (Nat.zero_le _)))
      have CW0 := sl.hid bE
      clear bE HI0 HI1
      generalize ((w.alloc (.cells #[.int .i64 a0, f0_0] 36)).alloc (.cells #[.int .i64 a1, f1_0] 36)) = W0 at *
      go_wp2_with fail
      refine (HZ0.out W0 _ A0W0.out).mono ?_
      rintro e W2 ⟨rfl, b2⟩
      have hzW2 : W0.heap.size ≤ W2.heap.size := b2.size
      have kp0_0W2 := (b2.cell (p := ⟨w.heap.size, 0, none⟩) (by show w.heap.size < W0.heap.size; omega)).trans kp0_0W0
      have kp0_1W2 := (b2.cell (p := ⟨w.heap.size, 1, none⟩) (by show w.heap.size < W0.heap.size; omega)).trans kp0_1W0
      have kp1_0W2 := (b2.cell (p := ⟨w.heap.size + 1, 0, none⟩) (by show w.heap.size + 1 < W0.heap.size; omega)).trans kp1_0W0
      have kp1_1W2 := (b2.cell (p := ⟨w.heap.size + 1, 1, none⟩) (by show w.heap.size + 1 < W0.heap.size; omega)).trans kp1_1W0
      have A0W2 := sl.hid (A0W0.out.chg (sl.Chg.ofBelow (lo := 0) b2) (.inr (Nat.zero_le _)))
      have A1W2 := sl.hid (A1W0.out.chg (sl.Chg.ofBelow (lo := 0) b2) (.inr (Nat.zero_le _)))
      have CW2 := sl.hid (CW0.out.trans (b2.mono (by show w.heap.size ≤ W0.heap.size; omega)))
      clear b2 kp0_0W0 kp0_1W0 kp1_0W0 kp1_1W0 A0W0 A1W0 CW0
      go_wp2_with fail
      refine (HZ1.out W2 _ A1W2.out).mono ?_
      rintro e W3 ⟨rfl, b3⟩
      have hzW3 : W2.heap.size ≤ W3.heap.size := b3.size
      have kp0_0W3 := (b3.cell (p := ⟨w.heap.size, 0, none⟩) (by show w.heap.size < W2.heap.size; omega)).trans kp0_0W2
      have kp0_1W3 := (b3.cell (p := ⟨w.heap.size, 1, none⟩) (by show w.heap.size < W2.heap.size; omega)).trans kp0_1W2
      have kp1_0W3 := (b3.cell (p := ⟨w.heap.size + 1, 0, none⟩) (by show w.heap.size + 1 < W2.heap.size; omega)).trans kp1_0W2
      have kp1_1W3 := (b3.cell (p := ⟨w.heap.size + 1, 1, none⟩) (by show w.heap.size + 1 < W2.heap.size; omega)).trans kp1_1W2
      have A0W3 := sl.hid (A0W2.out.chg (sl.Chg.ofBelow (lo := 0) b3) (.inr (Nat.zero_le _)))
      have A1W3 := sl.hid (A1W2.out.chg (sl.Chg.ofBelow (lo := 0) b3) (.inr (Nat.zero_le _)))
      have CW3 := sl.hid (CW2.out.trans (b3.mono (by show w.heap.size ≤ W2.heap.size; omega)))
      clear b3 kp0_0W2 kp0_1W2 kp1_0W2 kp1_1W2 A0W2 A1W2 CW2
      go_wp2
      go_ret
      exact ⟨rfl, CW3.out⟩
    · have HQ1 := sl.hid (ct.szC_small (by omega) (by omega) hzc1)
      have HT1 := sl.hid (ct.tot_of (by omega) (by omega) hzc1)
      have hzl1 := (ct.szC_bnd (xs := xs1) (left := z0) (by omega) hzc1).1
      generalize ct.szC z0 xs1 = z1 at *
      have SP : Hid (∀ (g0_0 : Value) (g1_0 : Value) (W : World) (B0 : Nat) (B1 : Nat), cm.InfsN W B0 g0_0 xs0 → B0 ≤ W.heap.size → cm.InfsN W B1 g1_0 xs1 → B1 ≤ W.heap.size → Calls Tryd.prog 25 #[.agg #[.int .i64 a0, g0_0], .agg #[.int .i64 a1, g1_0]] W fun e w' => ∃ ao cap, e = .returned (.tuple #[.agg #[.int .i64 (cy.skC a0 xs0 a1 xs1), .slice ao (cy.skR a0 xs0 a1 xs1).length cap], .int .i64 (cy.skK a0 xs0 a1 xs1)]) ∧ ro.IOwn w' W.heap.size w'.heap.size (.slice ao (cy.skR a0 xs0 a1 xs1).length cap) (cy.skR a0 xs0 a1 xs1) ∧ Below W.heap.size W w') := sl.hid (fun g0_0 g1_0 W B0 B1 j0 l0 j1 l1 => cy.specSK a0 xs0 a1 xs1 g0_0 g1_0 B0 B1 W j0 l0 j1 l1 HQ0.out HQ1.out )
      have IP : Hid (∀ (g0_0 : Value) (g1_0 : Value) (W : World) (B0 : Nat) (B1 : Nat), Below w.heap.size w W → cm.InfsN W B0 g0_0 xs0 → B0 ≤ W.heap.size → cm.InfsN W B1 g1_0 xs1 → B1 ≤ W.heap.size → Calls Tryd.prog 26 #[.agg #[.int .i64 a0, g0_0], .agg #[.int .i64 a1, g1_0]] W fun e w' => ∃ ao cap, e = .returned (.tuple #[.agg #[.int .i64 (cy.skC a0 xs0 a1 xs1), .slice ao (cy.skR a0 xs0 a1 xs1).length cap], .int .i64 (cy.skK a0 xs0 a1 xs1)]) ∧ ro.IOwn w' W.heap.size w'.heap.size (.slice ao (cy.skR a0 xs0 a1 xs1).length cap) (cy.skR a0 xs0 a1 xs1) ∧ Below W.heap.size W w') := sl.hid (fun g0_0 g1_0 W B0 B1 bw j0 l0 j1 l1 => cy.implSK a0 xs0 a1 xs1 g0_0 g1_0 B0 B1 W j0 l0 j1 l1 HQ0.out HQ1.out  (stb.carry HTb.out bw))
      obtain ⟨hr, htt⟩ := cy.sk_tot a0 xs0 a1 xs1
      generalize cy.skR a0 xs0 a1 xs1 = zr at *
      generalize cy.skC a0 xs0 a1 xs1 = sr at *
      generalize cy.skK a0 xs0 a1 xs1 = q1 at *
      clear hi0 hi1 ha0 ha1
      go_enter Tryd.func6, Tryd.ntmps6
      go_wp2_with fail
      have bE : Below w.heap.size w ((w.alloc (.cells #[.int .i64 a0, f0_0] 36)).alloc (.cells #[.int .i64 a1, f1_0] 36)) := (((Below.refl w.heap.size w).alloc (by simp) _).alloc (by simp) _)
      have hzW0 : w.heap.size + 2 ≤ ((w.alloc (.cells #[.int .i64 a0, f0_0] 36)).alloc (.cells #[.int .i64 a1, f1_0] 36)).heap.size := by simp
      have kp0_0W0 : ((w.alloc (.cells #[.int .i64 a0, f0_0] 36)).alloc (.cells #[.int .i64 a1, f1_0] 36)).cell? ⟨w.heap.size, 0, none⟩ = some (.int .i64 a0) := (World.cell?_alloc_past _ _ _ (by first | (simp; done) | (simp; omega))).trans (World.cell?_alloc_at _ _ _ _ (by simp))
      have kp0_1W0 : ((w.alloc (.cells #[.int .i64 a0, f0_0] 36)).alloc (.cells #[.int .i64 a1, f1_0] 36)).cell? ⟨w.heap.size, 1, none⟩ = some (f0_0) := (World.cell?_alloc_past _ _ _ (by first | (simp; done) | (simp; omega))).trans (World.cell?_alloc_at _ _ _ _ (by simp))
      have kp1_0W0 : ((w.alloc (.cells #[.int .i64 a0, f0_0] 36)).alloc (.cells #[.int .i64 a1, f1_0] 36)).cell? ⟨w.heap.size + 1, 0, none⟩ = some (.int .i64 a1) := World.cell?_alloc_at _ _ _ _ (by simp)
      have kp1_1W0 : ((w.alloc (.cells #[.int .i64 a0, f0_0] 36)).alloc (.cells #[.int .i64 a1, f1_0] 36)).cell? ⟨w.heap.size + 1, 1, none⟩ = some (f1_0) := World.cell?_alloc_at _ _ _ _ (by simp)
      have A0W0 := sl.hid (HI0.out.chg (sl.Chg.ofBelow (lo := 0) bE) (.inr (Nat.zero_le _)))
      have A1W0 := sl.hid (HI1.out.chg (sl.Chg.ofBelow (lo := 0) bE) (.inr (Nat.zero_le _)))
      have CW0 := sl.hid bE
      clear bE HI0 HI1
      generalize ((w.alloc (.cells #[.int .i64 a0, f0_0] 36)).alloc (.cells #[.int .i64 a1, f1_0] 36)) = W0 at *
      go_wp2_with fail
      refine (HZ0.out W0 _ A0W0.out).mono ?_
      rintro e W4 ⟨rfl, b4⟩
      have hzW4 : W0.heap.size ≤ W4.heap.size := b4.size
      have kp0_0W4 := (b4.cell (p := ⟨w.heap.size, 0, none⟩) (by show w.heap.size < W0.heap.size; omega)).trans kp0_0W0
      have kp0_1W4 := (b4.cell (p := ⟨w.heap.size, 1, none⟩) (by show w.heap.size < W0.heap.size; omega)).trans kp0_1W0
      have kp1_0W4 := (b4.cell (p := ⟨w.heap.size + 1, 0, none⟩) (by show w.heap.size + 1 < W0.heap.size; omega)).trans kp1_0W0
      have kp1_1W4 := (b4.cell (p := ⟨w.heap.size + 1, 1, none⟩) (by show w.heap.size + 1 < W0.heap.size; omega)).trans kp1_1W0
      have A0W4 := sl.hid (A0W0.out.chg (sl.Chg.ofBelow (lo := 0) b4) (.inr (Nat.zero_le _)))
      have A1W4 := sl.hid (A1W0.out.chg (sl.Chg.ofBelow (lo := 0) b4) (.inr (Nat.zero_le _)))
      have CW4 := sl.hid (CW0.out.trans (b4.mono (by show w.heap.size ≤ W0.heap.size; omega)))
      clear b4 kp0_0W0 kp0_1W0 kp1_0W0 kp1_1W0 A0W0 A1W0 CW0
      go_wp2_with fail
      refine (HZ1.out W4 _ A1W4.out).mono ?_
      rintro e W5 ⟨rfl, b5⟩
      have hzW5 : W4.heap.size ≤ W5.heap.size := b5.size
      have kp0_0W5 := (b5.cell (p := ⟨w.heap.size, 0, none⟩) (by show w.heap.size < W4.heap.size; omega)).trans kp0_0W4
      have kp0_1W5 := (b5.cell (p := ⟨w.heap.size, 1, none⟩) (by show w.heap.size < W4.heap.size; omega)).trans kp0_1W4
      have kp1_0W5 := (b5.cell (p := ⟨w.heap.size + 1, 0, none⟩) (by show w.heap.size + 1 < W4.heap.size; omega)).trans kp1_0W4
      have kp1_1W5 := (b5.cell (p := ⟨w.heap.size + 1, 1, none⟩) (by show w.heap.size + 1 < W4.heap.size; omega)).trans kp1_1W4
      have A0W5 := sl.hid (A0W4.out.chg (sl.Chg.ofBelow (lo := 0) b5) (.inr (Nat.zero_le _)))
      have A1W5 := sl.hid (A1W4.out.chg (sl.Chg.ofBelow (lo := 0) b5) (.inr (Nat.zero_le _)))
      have CW5 := sl.hid (CW4.out.trans (b5.mono (by show w.heap.size ≤ W4.heap.size; omega)))
      clear b5 kp0_0W4 kp0_1W4 kp1_0W4 kp1_1W4 A0W4 A1W4 CW4
      go_wp2_with fail
      have bD := (Below.refl W5.heap.size W5).drew
      have A0dW5 := sl.hid (A0W5.out.chg (sl.Chg.ofBelow (lo := 0) bD) (.inr (Nat.zero_le _)))
      have A1dW5 := sl.hid (A1W5.out.chg (sl.Chg.ofBelow (lo := 0) bD) (.inr (Nat.zero_le _)))
      have CdW5 := sl.hid (CW5.out.drew)
      clear bD A0W5 A1W5 CW5
      go_region_held3 (fun w' => w'.cell? ⟨w.heap.size, 0, none⟩ = some (.int .i64 a0) ∧ w'.cell? ⟨w.heap.size, 1, none⟩ = some (f0_0) ∧ w'.cell? ⟨w.heap.size + 1, 0, none⟩ = some (.int .i64 a1) ∧ w'.cell? ⟨w.heap.size + 1, 1, none⟩ = some (f1_0)) (go_keep)
        (first
          | (go_at_call_of 20 (Value.agg #[.int .i64 a0, f0_0])
             have hchk := HIc1
             refine (ct.toC a0 xs0 f0_0 _ _ A0W6.out (by show w.heap.size ≤ W6.heap.size; omega) HQ0.out).mono ?_
             rintro e W7 ⟨fc0_0, rfl, oc0, bB⟩
             have HJ0 := sl.hid oc0.infsN
             have HJ1 := sl.hid ((HIc1.out.chg (sl.Chg.ofBelow (lo := 0) bB) (.inr (Nat.zero_le _))).mono bB.size)
             have hzW7 : W6.heap.size ≤ W7.heap.size := bB.size
             have kp0_0W7 := (bB.cell (p := ⟨w.heap.size, 0, none⟩) (by show w.heap.size < W6.heap.size; omega)).trans kp0_0W6
             have kp0_1W7 := (bB.cell (p := ⟨w.heap.size, 1, none⟩) (by show w.heap.size < W6.heap.size; omega)).trans kp0_1W6
             have kp1_0W7 := (bB.cell (p := ⟨w.heap.size + 1, 0, none⟩) (by show w.heap.size + 1 < W6.heap.size; omega)).trans kp1_0W6
             have kp1_1W7 := (bB.cell (p := ⟨w.heap.size + 1, 1, none⟩) (by show w.heap.size + 1 < W6.heap.size; omega)).trans kp1_1W6
             have A0W7 := sl.hid (A0W6.out.chg (sl.Chg.ofBelow (lo := 0) bB) (.inr (Nat.zero_le _)))
             have A1W7 := sl.hid (A1W6.out.chg (sl.Chg.ofBelow (lo := 0) bB) (.inr (Nat.zero_le _)))
             have CW7 := sl.hid (CW6.out.trans (bB.mono (by show w.heap.size ≤ W6.heap.size; omega)))
             clear oc0 HIc1 hchk bB kp0_0W6 kp0_1W6 kp1_0W6 kp1_1W6 A0W6 A1W6 CW6)
          | (go_at_call_of 20 (Value.agg #[.int .i64 a1, f1_0])
             have hchk := HIc0
             refine (ct.toC a1 xs1 f1_0 _ _ A1W6.out (by show w.heap.size ≤ W6.heap.size; omega) HQ1.out).mono ?_
             rintro e W7 ⟨fc1_0, rfl, oc1, bB⟩
             have HJ1 := sl.hid oc1.infsN
             have HJ0 := sl.hid ((HIc0.out.chg (sl.Chg.ofBelow (lo := 0) bB) (.inr (Nat.zero_le _))).mono bB.size)
             have hzW7 : W6.heap.size ≤ W7.heap.size := bB.size
             have kp0_0W7 := (bB.cell (p := ⟨w.heap.size, 0, none⟩) (by show w.heap.size < W6.heap.size; omega)).trans kp0_0W6
             have kp0_1W7 := (bB.cell (p := ⟨w.heap.size, 1, none⟩) (by show w.heap.size < W6.heap.size; omega)).trans kp0_1W6
             have kp1_0W7 := (bB.cell (p := ⟨w.heap.size + 1, 0, none⟩) (by show w.heap.size + 1 < W6.heap.size; omega)).trans kp1_0W6
             have kp1_1W7 := (bB.cell (p := ⟨w.heap.size + 1, 1, none⟩) (by show w.heap.size + 1 < W6.heap.size; omega)).trans kp1_1W6
             have A0W7 := sl.hid (A0W6.out.chg (sl.Chg.ofBelow (lo := 0) bB) (.inr (Nat.zero_le _)))
             have A1W7 := sl.hid (A1W6.out.chg (sl.Chg.ofBelow (lo := 0) bB) (.inr (Nat.zero_le _)))
             have CW7 := sl.hid (CW6.out.trans (bB.mono (by show w.heap.size ≤ W6.heap.size; omega)))
             clear oc1 HIc0 hchk bB kp0_0W6 kp0_1W6 kp1_0W6 kp1_1W6 A0W6 A1W6 CW6)
          | (go_at_call_of 20 (Value.agg #[.int .i64 a0, f0_0])
             refine (ct.toC a0 xs0 f0_0 _ _ A0dW5.out (by show w.heap.size ≤ W5.heap.size; omega) HQ0.out).mono ?_
             rintro e W6 ⟨fc0_0, rfl, oc0, bA⟩
             have HIc0 := sl.hid oc0.infsN
             have hzW6 : W5.heap.size ≤ W6.heap.size := bA.size
             have kp0_0W6 := (bA.cell (p := ⟨w.heap.size, 0, none⟩) (by show w.heap.size < W5.heap.size; omega)).trans kp0_0W5
             have kp0_1W6 := (bA.cell (p := ⟨w.heap.size, 1, none⟩) (by show w.heap.size < W5.heap.size; omega)).trans kp0_1W5
             have kp1_0W6 := (bA.cell (p := ⟨w.heap.size + 1, 0, none⟩) (by show w.heap.size + 1 < W5.heap.size; omega)).trans kp1_0W5
             have kp1_1W6 := (bA.cell (p := ⟨w.heap.size + 1, 1, none⟩) (by show w.heap.size + 1 < W5.heap.size; omega)).trans kp1_1W5
             have A0W6 := sl.hid (A0dW5.out.chg (sl.Chg.ofBelow (lo := 0) bA) (.inr (Nat.zero_le _)))
             have A1W6 := sl.hid (A1dW5.out.chg (sl.Chg.ofBelow (lo := 0) bA) (.inr (Nat.zero_le _)))
             have CW6 := sl.hid (CdW5.out.trans (bA.mono (by show w.heap.size ≤ W5.heap.size; omega)))
             clear oc0 bA kp0_0W5 kp0_1W5 kp1_0W5 kp1_1W5 A0dW5 A1dW5 CdW5)
          | (go_at_call_of 20 (Value.agg #[.int .i64 a1, f1_0])
             refine (ct.toC a1 xs1 f1_0 _ _ A1dW5.out (by show w.heap.size ≤ W5.heap.size; omega) HQ1.out).mono ?_
             rintro e W6 ⟨fc1_0, rfl, oc1, bA⟩
             have HIc1 := sl.hid oc1.infsN
             have hzW6 : W5.heap.size ≤ W6.heap.size := bA.size
             have kp0_0W6 := (bA.cell (p := ⟨w.heap.size, 0, none⟩) (by show w.heap.size < W5.heap.size; omega)).trans kp0_0W5
             have kp0_1W6 := (bA.cell (p := ⟨w.heap.size, 1, none⟩) (by show w.heap.size < W5.heap.size; omega)).trans kp0_1W5
             have kp1_0W6 := (bA.cell (p := ⟨w.heap.size + 1, 0, none⟩) (by show w.heap.size + 1 < W5.heap.size; omega)).trans kp1_0W5
             have kp1_1W6 := (bA.cell (p := ⟨w.heap.size + 1, 1, none⟩) (by show w.heap.size + 1 < W5.heap.size; omega)).trans kp1_1W5
             have A0W6 := sl.hid (A0dW5.out.chg (sl.Chg.ofBelow (lo := 0) bA) (.inr (Nat.zero_le _)))
             have A1W6 := sl.hid (A1dW5.out.chg (sl.Chg.ofBelow (lo := 0) bA) (.inr (Nat.zero_le _)))
             have CW6 := sl.hid (CdW5.out.trans (bA.mono (by show w.heap.size ≤ W5.heap.size; omega)))
             clear oc1 bA kp0_0W5 kp0_1W5 kp1_0W5 kp1_1W5 A0dW5 A1dW5 CdW5)
          | (go_at_call 25
             refine (SP.out _ _ W7 _ _ HJ0.out (by omega) HJ1.out (by omega)).mono ?_
             rintro e W8 ⟨vr, rfl, oC, bC⟩
             have hzW8 : W7.heap.size ≤ W8.heap.size := bC.size
             have kp0_0W8 := (bC.cell (p := ⟨w.heap.size, 0, none⟩) (by show w.heap.size < W7.heap.size; omega)).trans kp0_0W7
             have kp0_1W8 := (bC.cell (p := ⟨w.heap.size, 1, none⟩) (by show w.heap.size < W7.heap.size; omega)).trans kp0_1W7
             have kp1_0W8 := (bC.cell (p := ⟨w.heap.size + 1, 0, none⟩) (by show w.heap.size + 1 < W7.heap.size; omega)).trans kp1_0W7
             have kp1_1W8 := (bC.cell (p := ⟨w.heap.size + 1, 1, none⟩) (by show w.heap.size + 1 < W7.heap.size; omega)).trans kp1_1W7
             have A0W8 := sl.hid (A0W7.out.chg (sl.Chg.ofBelow (lo := 0) bC) (.inr (Nat.zero_le _)))
             have A1W8 := sl.hid (A1W7.out.chg (sl.Chg.ofBelow (lo := 0) bC) (.inr (Nat.zero_le _)))
             have CW8 := sl.hid (CW7.out.trans (bC.mono (by show w.heap.size ≤ W7.heap.size; omega)))
             have Ovr := sl.hid oC
             clear oC
             clear HJ0 HJ1 bC kp0_0W7 kp0_1W7 kp1_0W7 kp1_1W7 A0W7 A1W7 CW7))
      all_goals
        go_wp2_with fail
        refine (ct.toC a0 xs0 f0_0 _ W8 A0W8.out (by omega) HQ0.out).mono ?_
        rintro e W9 ⟨f0_0_9, rfl, o9, b9⟩
        obtain ⟨ao9_0, ln9_0, cp9_0, rfl⟩ := ct.cval o9
        have On9 := sl.hid o9
        clear o9
        have hzW9 : W8.heap.size ≤ W9.heap.size := b9.size
        have kp0_0W9 := (b9.cell (p := ⟨w.heap.size, 0, none⟩) (by show w.heap.size < W8.heap.size; omega)).trans kp0_0W8
        have kp0_1W9 := (b9.cell (p := ⟨w.heap.size, 1, none⟩) (by show w.heap.size < W8.heap.size; omega)).trans kp0_1W8
        have kp1_0W9 := (b9.cell (p := ⟨w.heap.size + 1, 0, none⟩) (by show w.heap.size + 1 < W8.heap.size; omega)).trans kp1_0W8
        have kp1_1W9 := (b9.cell (p := ⟨w.heap.size + 1, 1, none⟩) (by show w.heap.size + 1 < W8.heap.size; omega)).trans kp1_1W8
        have A0W9 := sl.hid (A0W8.out.chg (sl.Chg.ofBelow (lo := 0) b9) (.inr (Nat.zero_le _)))
        have A1W9 := sl.hid (A1W8.out.chg (sl.Chg.ofBelow (lo := 0) b9) (.inr (Nat.zero_le _)))
        have OrW9 := sl.hid (Ovr.out.chg (sl.Chg.ofBelow (lo := 0) b9) (.inr (.inr (Nat.zero_le _))))
        have CW9 := sl.hid (CW8.out.trans (b9.mono (by show w.heap.size ≤ W8.heap.size; omega)))
        clear b9 kp0_0W8 kp0_1W8 kp1_0W8 kp1_1W8 A0W8 A1W8 Ovr CW8
        have bE : Below W9.heap.size W9 (W9.alloc (.cells #[.int .i64 a0, .slice ao9_0 ln9_0 cp9_0] 40)) := (Below.refl _ _).alloc (Nat.le_refl _) _
        have kx0_0W10 : (W9.alloc (.cells #[.int .i64 a0, .slice ao9_0 ln9_0 cp9_0] 40)).cell? ⟨W9.heap.size, 0, none⟩ = some (.int .i64 a0) := World.cell?_alloc_at _ _ _ _ rfl
        have kx0_1W10 : (W9.alloc (.cells #[.int .i64 a0, .slice ao9_0 ln9_0 cp9_0] 40)).cell? ⟨W9.heap.size, 1, none⟩ = some (.slice ao9_0 ln9_0 cp9_0) := World.cell?_alloc_at _ _ _ _ rfl
        have hsW10 : W9.heap.size < (W9.alloc (.cells #[.int .i64 a0, .slice ao9_0 ln9_0 cp9_0] 40)).heap.size := by simp
        have hzW10 : W9.heap.size ≤ (W9.alloc (.cells #[.int .i64 a0, .slice ao9_0 ln9_0 cp9_0] 40)).heap.size := bE.size
        have kp0_0W10 := (bE.cell (p := ⟨w.heap.size, 0, none⟩) (by show w.heap.size < W9.heap.size; omega)).trans kp0_0W9
        have kp0_1W10 := (bE.cell (p := ⟨w.heap.size, 1, none⟩) (by show w.heap.size < W9.heap.size; omega)).trans kp0_1W9
        have kp1_0W10 := (bE.cell (p := ⟨w.heap.size + 1, 0, none⟩) (by show w.heap.size + 1 < W9.heap.size; omega)).trans kp1_0W9
        have kp1_1W10 := (bE.cell (p := ⟨w.heap.size + 1, 1, none⟩) (by show w.heap.size + 1 < W9.heap.size; omega)).trans kp1_1W9
        have A0W10 := sl.hid (A0W9.out.chg (sl.Chg.ofBelow (lo := 0) bE) (.inr (Nat.zero_le _)))
        have A1W10 := sl.hid (A1W9.out.chg (sl.Chg.ofBelow (lo := 0) bE) (.inr (Nat.zero_le _)))
        have OrW10 := sl.hid (OrW9.out.chg (sl.Chg.ofBelow (lo := 0) bE) (.inr (.inr (Nat.zero_le _))))
        have Ox0W10 := sl.hid (On9.out.chg (sl.Chg.ofBelow (lo := 0) bE) (.inr (.inr (Nat.zero_le _))))
        have CW10 := sl.hid (CW9.out.trans (bE.mono (by show w.heap.size ≤ W9.heap.size; omega)))
        clear bE kp0_0W9 kp0_1W9 kp1_0W9 kp1_1W9 A0W9 A1W9 OrW9 On9 CW9
        go_wp2_with fail
        generalize (W9.alloc (.cells #[.int .i64 a0, .slice ao9_0 ln9_0 cp9_0] 40)) = W10 at *
        refine (ct.toC a1 xs1 f1_0 _ W10 A1W10.out (by omega) HQ1.out).mono ?_
        rintro e W11 ⟨f1_0_11, rfl, o11, b11⟩
        obtain ⟨ao11_0, ln11_0, cp11_0, rfl⟩ := ct.cval o11
        have On11 := sl.hid o11
        clear o11
        have hzW11 : W10.heap.size ≤ W11.heap.size := b11.size
        have kp0_0W11 := (b11.cell (p := ⟨w.heap.size, 0, none⟩) (by show w.heap.size < W10.heap.size; omega)).trans kp0_0W10
        have kp0_1W11 := (b11.cell (p := ⟨w.heap.size, 1, none⟩) (by show w.heap.size < W10.heap.size; omega)).trans kp0_1W10
        have kp1_0W11 := (b11.cell (p := ⟨w.heap.size + 1, 0, none⟩) (by show w.heap.size + 1 < W10.heap.size; omega)).trans kp1_0W10
        have kp1_1W11 := (b11.cell (p := ⟨w.heap.size + 1, 1, none⟩) (by show w.heap.size + 1 < W10.heap.size; omega)).trans kp1_1W10
        have kx0_0W11 := (b11.cell (p := ⟨W9.heap.size, 0, none⟩) (by show W9.heap.size < W10.heap.size; omega)).trans kx0_0W10
        have kx0_1W11 := (b11.cell (p := ⟨W9.heap.size, 1, none⟩) (by show W9.heap.size < W10.heap.size; omega)).trans kx0_1W10
        have A0W11 := sl.hid (A0W10.out.chg (sl.Chg.ofBelow (lo := 0) b11) (.inr (Nat.zero_le _)))
        have A1W11 := sl.hid (A1W10.out.chg (sl.Chg.ofBelow (lo := 0) b11) (.inr (Nat.zero_le _)))
        have OrW11 := sl.hid (OrW10.out.chg (sl.Chg.ofBelow (lo := 0) b11) (.inr (.inr (Nat.zero_le _))))
        have Ox0W11 := sl.hid (Ox0W10.out.chg (sl.Chg.ofBelow (lo := 0) b11) (.inr (.inr (Nat.zero_le _))))
        have CW11 := sl.hid (CW10.out.trans (b11.mono (by show w.heap.size ≤ W10.heap.size; omega)))
        clear b11 kp0_0W10 kp0_1W10 kp1_0W10 kp1_1W10 kx0_0W10 kx0_1W10 A0W10 A1W10 OrW10 Ox0W10 CW10
        have bE : Below W11.heap.size W11 (W11.alloc (.cells #[.int .i64 a1, .slice ao11_0 ln11_0 cp11_0] 40)) := (Below.refl _ _).alloc (Nat.le_refl _) _
        have kx1_0W12 : (W11.alloc (.cells #[.int .i64 a1, .slice ao11_0 ln11_0 cp11_0] 40)).cell? ⟨W11.heap.size, 0, none⟩ = some (.int .i64 a1) := World.cell?_alloc_at _ _ _ _ rfl
        have kx1_1W12 : (W11.alloc (.cells #[.int .i64 a1, .slice ao11_0 ln11_0 cp11_0] 40)).cell? ⟨W11.heap.size, 1, none⟩ = some (.slice ao11_0 ln11_0 cp11_0) := World.cell?_alloc_at _ _ _ _ rfl
        have hsW12 : W11.heap.size < (W11.alloc (.cells #[.int .i64 a1, .slice ao11_0 ln11_0 cp11_0] 40)).heap.size := by simp
        have hzW12 : W11.heap.size ≤ (W11.alloc (.cells #[.int .i64 a1, .slice ao11_0 ln11_0 cp11_0] 40)).heap.size := bE.size
        have kp0_0W12 := (bE.cell (p := ⟨w.heap.size, 0, none⟩) (by show w.heap.size < W11.heap.size; omega)).trans kp0_0W11
        have kp0_1W12 := (bE.cell (p := ⟨w.heap.size, 1, none⟩) (by show w.heap.size < W11.heap.size; omega)).trans kp0_1W11
        have kp1_0W12 := (bE.cell (p := ⟨w.heap.size + 1, 0, none⟩) (by show w.heap.size + 1 < W11.heap.size; omega)).trans kp1_0W11
        have kp1_1W12 := (bE.cell (p := ⟨w.heap.size + 1, 1, none⟩) (by show w.heap.size + 1 < W11.heap.size; omega)).trans kp1_1W11
        have kx0_0W12 := (bE.cell (p := ⟨W9.heap.size, 0, none⟩) (by show W9.heap.size < W11.heap.size; omega)).trans kx0_0W11
        have kx0_1W12 := (bE.cell (p := ⟨W9.heap.size, 1, none⟩) (by show W9.heap.size < W11.heap.size; omega)).trans kx0_1W11
        have A0W12 := sl.hid (A0W11.out.chg (sl.Chg.ofBelow (lo := 0) bE) (.inr (Nat.zero_le _)))
        have A1W12 := sl.hid (A1W11.out.chg (sl.Chg.ofBelow (lo := 0) bE) (.inr (Nat.zero_le _)))
        have OrW12 := sl.hid (OrW11.out.chg (sl.Chg.ofBelow (lo := 0) bE) (.inr (.inr (Nat.zero_le _))))
        have Ox0W12 := sl.hid (Ox0W11.out.chg (sl.Chg.ofBelow (lo := 0) bE) (.inr (.inr (Nat.zero_le _))))
        have Ox1W12 := sl.hid (On11.out.chg (sl.Chg.ofBelow (lo := 0) bE) (.inr (.inr (Nat.zero_le _))))
        have CW12 := sl.hid (CW11.out.trans (bE.mono (by show w.heap.size ≤ W11.heap.size; omega)))
        clear bE kp0_0W11 kp0_1W11 kp1_0W11 kp1_1W11 kx0_0W11 kx0_1W11 A0W11 A1W11 OrW11 Ox0W11 On11 CW11
        go_wp2_with fail
        generalize (W11.alloc (.cells #[.int .i64 a1, .slice ao11_0 ln11_0 cp11_0] 40)) = W12 at *
        refine (IP.out _ _ W12 _ _ CW12.out Ox0W12.out.infsN (by omega) Ox1W12.out.infsN (by omega)).mono ?_
        rintro e W13 ⟨ao13, cap13, rfl, o13, b13⟩
        have hzW13 : W12.heap.size ≤ W13.heap.size := b13.size
        have kp0_0W13 := (b13.cell (p := ⟨w.heap.size, 0, none⟩) (by show w.heap.size < W12.heap.size; omega)).trans kp0_0W12
        have kp0_1W13 := (b13.cell (p := ⟨w.heap.size, 1, none⟩) (by show w.heap.size < W12.heap.size; omega)).trans kp0_1W12
        have kp1_0W13 := (b13.cell (p := ⟨w.heap.size + 1, 0, none⟩) (by show w.heap.size + 1 < W12.heap.size; omega)).trans kp1_0W12
        have kp1_1W13 := (b13.cell (p := ⟨w.heap.size + 1, 1, none⟩) (by show w.heap.size + 1 < W12.heap.size; omega)).trans kp1_1W12
        have kx0_0W13 := (b13.cell (p := ⟨W9.heap.size, 0, none⟩) (by show W9.heap.size < W12.heap.size; omega)).trans kx0_0W12
        have kx0_1W13 := (b13.cell (p := ⟨W9.heap.size, 1, none⟩) (by show W9.heap.size < W12.heap.size; omega)).trans kx0_1W12
        have kx1_0W13 := (b13.cell (p := ⟨W11.heap.size, 0, none⟩) (by show W11.heap.size < W12.heap.size; omega)).trans kx1_0W12
        have kx1_1W13 := (b13.cell (p := ⟨W11.heap.size, 1, none⟩) (by show W11.heap.size < W12.heap.size; omega)).trans kx1_1W12
        have A0W13 := sl.hid (A0W12.out.chg (sl.Chg.ofBelow (lo := 0) b13) (.inr (Nat.zero_le _)))
        have A1W13 := sl.hid (A1W12.out.chg (sl.Chg.ofBelow (lo := 0) b13) (.inr (Nat.zero_le _)))
        have OrW13 := sl.hid (OrW12.out.chg (sl.Chg.ofBelow (lo := 0) b13) (.inr (.inr (Nat.zero_le _))))
        have Ox0W13 := sl.hid (Ox0W12.out.chg (sl.Chg.ofBelow (lo := 0) b13) (.inr (.inr (Nat.zero_le _))))
        have Ox1W13 := sl.hid (Ox1W12.out.chg (sl.Chg.ofBelow (lo := 0) b13) (.inr (.inr (Nat.zero_le _))))
        have CW13 := sl.hid (CW12.out.trans (b13.mono (by show w.heap.size ≤ W12.heap.size; omega)))
        have Ovg := sl.hid o13
        clear o13
        clear b13 kp0_0W12 kp0_1W12 kp1_0W12 kp1_1W12 kx0_0W12 kx0_1W12 kx1_0W12 kx1_1W12 A0W12 A1W12 OrW12 Ox0W12 Ox1W12 CW12
        have bE : Below W13.heap.size W13 (W13.alloc (.cells #[.int .i64 sr, .slice ao13 zr.length cap13] 40)) := (Below.refl _ _).alloc (Nat.le_refl _) _
        have kbg_0W14 : (W13.alloc (.cells #[.int .i64 sr, .slice ao13 zr.length cap13] 40)).cell? ⟨W13.heap.size, 0, none⟩ = some (.int .i64 sr) := World.cell?_alloc_at _ _ _ _ rfl
        have kbg_1W14 : (W13.alloc (.cells #[.int .i64 sr, .slice ao13 zr.length cap13] 40)).cell? ⟨W13.heap.size, 1, none⟩ = some (.slice ao13 zr.length cap13) := World.cell?_alloc_at _ _ _ _ rfl
        have hsW14 : W13.heap.size < (W13.alloc (.cells #[.int .i64 sr, .slice ao13 zr.length cap13] 40)).heap.size := by simp
        have hzW14 : W13.heap.size ≤ (W13.alloc (.cells #[.int .i64 sr, .slice ao13 zr.length cap13] 40)).heap.size := bE.size
        have kp0_0W14 := (bE.cell (p := ⟨w.heap.size, 0, none⟩) (by show w.heap.size < W13.heap.size; omega)).trans kp0_0W13
        have kp0_1W14 := (bE.cell (p := ⟨w.heap.size, 1, none⟩) (by show w.heap.size < W13.heap.size; omega)).trans kp0_1W13
        have kp1_0W14 := (bE.cell (p := ⟨w.heap.size + 1, 0, none⟩) (by show w.heap.size + 1 < W13.heap.size; omega)).trans kp1_0W13
        have kp1_1W14 := (bE.cell (p := ⟨w.heap.size + 1, 1, none⟩) (by show w.heap.size + 1 < W13.heap.size; omega)).trans kp1_1W13
        have kx0_0W14 := (bE.cell (p := ⟨W9.heap.size, 0, none⟩) (by show W9.heap.size < W13.heap.size; omega)).trans kx0_0W13
        have kx0_1W14 := (bE.cell (p := ⟨W9.heap.size, 1, none⟩) (by show W9.heap.size < W13.heap.size; omega)).trans kx0_1W13
        have kx1_0W14 := (bE.cell (p := ⟨W11.heap.size, 0, none⟩) (by show W11.heap.size < W13.heap.size; omega)).trans kx1_0W13
        have kx1_1W14 := (bE.cell (p := ⟨W11.heap.size, 1, none⟩) (by show W11.heap.size < W13.heap.size; omega)).trans kx1_1W13
        have A0W14 := sl.hid (A0W13.out.chg (sl.Chg.ofBelow (lo := 0) bE) (.inr (Nat.zero_le _)))
        have A1W14 := sl.hid (A1W13.out.chg (sl.Chg.ofBelow (lo := 0) bE) (.inr (Nat.zero_le _)))
        have OrW14 := sl.hid (OrW13.out.chg (sl.Chg.ofBelow (lo := 0) bE) (.inr (.inr (Nat.zero_le _))))
        have Ox0W14 := sl.hid (Ox0W13.out.chg (sl.Chg.ofBelow (lo := 0) bE) (.inr (.inr (Nat.zero_le _))))
        have Ox1W14 := sl.hid (Ox1W13.out.chg (sl.Chg.ofBelow (lo := 0) bE) (.inr (.inr (Nat.zero_le _))))
        have OgW14 := sl.hid (Ovg.out.chg (sl.Chg.ofBelow (lo := 0) bE) (.inr (.inr (Nat.zero_le _))))
        have CW14 := sl.hid (CW13.out.trans (bE.mono (by show w.heap.size ≤ W13.heap.size; omega)))
        clear bE kp0_0W13 kp0_1W13 kp1_0W13 kp1_1W13 kx0_0W13 kx0_1W13 kx1_0W13 kx1_1W13 A0W13 A1W13 OrW13 Ox0W13 Ox1W13 Ovg CW13
        go_wp2_with fail
        generalize (W13.alloc (.cells #[.int .i64 sr, .slice ao13 zr.length cap13] 40)) = W14 at *
        refine (ct.eqCS sr zr _ _ _ _ W14 OgW14.out.infs OrW14.out.infs hr).mono ?_
        rintro e W15 ⟨rfl, b15⟩
        have hzW15 : W14.heap.size ≤ W15.heap.size := b15.size
        have kp0_0W15 := (b15.cell (p := ⟨w.heap.size, 0, none⟩) (by show w.heap.size < W14.heap.size; omega)).trans kp0_0W14
        have kp0_1W15 := (b15.cell (p := ⟨w.heap.size, 1, none⟩) (by show w.heap.size < W14.heap.size; omega)).trans kp0_1W14
        have kp1_0W15 := (b15.cell (p := ⟨w.heap.size + 1, 0, none⟩) (by show w.heap.size + 1 < W14.heap.size; omega)).trans kp1_0W14
        have kp1_1W15 := (b15.cell (p := ⟨w.heap.size + 1, 1, none⟩) (by show w.heap.size + 1 < W14.heap.size; omega)).trans kp1_1W14
        have kx0_0W15 := (b15.cell (p := ⟨W9.heap.size, 0, none⟩) (by show W9.heap.size < W14.heap.size; omega)).trans kx0_0W14
        have kx0_1W15 := (b15.cell (p := ⟨W9.heap.size, 1, none⟩) (by show W9.heap.size < W14.heap.size; omega)).trans kx0_1W14
        have kx1_0W15 := (b15.cell (p := ⟨W11.heap.size, 0, none⟩) (by show W11.heap.size < W14.heap.size; omega)).trans kx1_0W14
        have kx1_1W15 := (b15.cell (p := ⟨W11.heap.size, 1, none⟩) (by show W11.heap.size < W14.heap.size; omega)).trans kx1_1W14
        have kbg_0W15 := (b15.cell (p := ⟨W13.heap.size, 0, none⟩) (by show W13.heap.size < W14.heap.size; omega)).trans kbg_0W14
        have kbg_1W15 := (b15.cell (p := ⟨W13.heap.size, 1, none⟩) (by show W13.heap.size < W14.heap.size; omega)).trans kbg_1W14
        have A0W15 := sl.hid (A0W14.out.chg (sl.Chg.ofBelow (lo := 0) b15) (.inr (Nat.zero_le _)))
        have A1W15 := sl.hid (A1W14.out.chg (sl.Chg.ofBelow (lo := 0) b15) (.inr (Nat.zero_le _)))
        have OrW15 := sl.hid (OrW14.out.chg (sl.Chg.ofBelow (lo := 0) b15) (.inr (.inr (Nat.zero_le _))))
        have Ox0W15 := sl.hid (Ox0W14.out.chg (sl.Chg.ofBelow (lo := 0) b15) (.inr (.inr (Nat.zero_le _))))
        have Ox1W15 := sl.hid (Ox1W14.out.chg (sl.Chg.ofBelow (lo := 0) b15) (.inr (.inr (Nat.zero_le _))))
        have OgW15 := sl.hid (OgW14.out.chg (sl.Chg.ofBelow (lo := 0) b15) (.inr (.inr (Nat.zero_le _))))
        have CW15 := sl.hid (CW14.out.trans (b15.mono (by show w.heap.size ≤ W14.heap.size; omega)))
        clear b15 kp0_0W14 kp0_1W14 kp1_0W14 kp1_1W14 kx0_0W14 kx0_1W14 kx1_0W14 kx1_1W14 kbg_0W14 kbg_1W14 A0W14 A1W14 OrW14 Ox0W14 Ox1W14 OgW14 CW14
        go_wp2_with fail
        have bD := (Below.refl W15.heap.size W15).drew
        have A0dW15 := sl.hid (A0W15.out.chg (sl.Chg.ofBelow (lo := 0) bD) (.inr (Nat.zero_le _)))
        have A1dW15 := sl.hid (A1W15.out.chg (sl.Chg.ofBelow (lo := 0) bD) (.inr (Nat.zero_le _)))
        have OrdW15 := sl.hid (OrW15.out.chg (sl.Chg.ofBelow (lo := 0) bD) (.inr (.inr (Nat.zero_le _))))
        have Ox0dW15 := sl.hid (Ox0W15.out.chg (sl.Chg.ofBelow (lo := 0) bD) (.inr (.inr (Nat.zero_le _))))
        have Ox1dW15 := sl.hid (Ox1W15.out.chg (sl.Chg.ofBelow (lo := 0) bD) (.inr (.inr (Nat.zero_le _))))
        have OgdW15 := sl.hid (OgW15.out.chg (sl.Chg.ofBelow (lo := 0) bD) (.inr (.inr (Nat.zero_le _))))
        have CdW15 := sl.hid (CW15.out.drew)
        clear bD A0W15 A1W15 OrW15 Ox0W15 Ox1W15 OgW15 CW15
        go_region_held3 (fun w' => w'.cell? ⟨w.heap.size, 0, none⟩ = some (.int .i64 a0) ∧ w'.cell? ⟨w.heap.size, 1, none⟩ = some (f0_0) ∧ w'.cell? ⟨W9.heap.size, 0, none⟩ = some (.int .i64 a0) ∧ w'.cell? ⟨W9.heap.size, 1, none⟩ = some (.slice ao9_0 ln9_0 cp9_0)) (go_keep)
          (first
            | (go_at_call 20
               refine (ct.toC a0 xs0 f0_0 _ _ A0dW15.out (by show w.heap.size ≤ W15.heap.size; omega) HQ0.out).mono ?_
               rintro e W17 ⟨fc0_0, rfl, oc0, bB⟩
               have HJ0 := sl.hid oc0.infs
               have hzW17 : W15.heap.size ≤ W17.heap.size := bB.size
               have kp0_0W17 := (bB.cell (p := ⟨w.heap.size, 0, none⟩) (by show w.heap.size < W15.heap.size; omega)).trans kp0_0W15
               have kp0_1W17 := (bB.cell (p := ⟨w.heap.size, 1, none⟩) (by show w.heap.size < W15.heap.size; omega)).trans kp0_1W15
               have kp1_0W17 := (bB.cell (p := ⟨w.heap.size + 1, 0, none⟩) (by show w.heap.size + 1 < W15.heap.size; omega)).trans kp1_0W15
               have kp1_1W17 := (bB.cell (p := ⟨w.heap.size + 1, 1, none⟩) (by show w.heap.size + 1 < W15.heap.size; omega)).trans kp1_1W15
               have kx0_0W17 := (bB.cell (p := ⟨W9.heap.size, 0, none⟩) (by show W9.heap.size < W15.heap.size; omega)).trans kx0_0W15
               have kx0_1W17 := (bB.cell (p := ⟨W9.heap.size, 1, none⟩) (by show W9.heap.size < W15.heap.size; omega)).trans kx0_1W15
               have kx1_0W17 := (bB.cell (p := ⟨W11.heap.size, 0, none⟩) (by show W11.heap.size < W15.heap.size; omega)).trans kx1_0W15
               have kx1_1W17 := (bB.cell (p := ⟨W11.heap.size, 1, none⟩) (by show W11.heap.size < W15.heap.size; omega)).trans kx1_1W15
               have kbg_0W17 := (bB.cell (p := ⟨W13.heap.size, 0, none⟩) (by show W13.heap.size < W15.heap.size; omega)).trans kbg_0W15
               have kbg_1W17 := (bB.cell (p := ⟨W13.heap.size, 1, none⟩) (by show W13.heap.size < W15.heap.size; omega)).trans kbg_1W15
               have A0W17 := sl.hid (A0dW15.out.chg (sl.Chg.ofBelow (lo := 0) bB) (.inr (Nat.zero_le _)))
               have A1W17 := sl.hid (A1dW15.out.chg (sl.Chg.ofBelow (lo := 0) bB) (.inr (Nat.zero_le _)))
               have OrW17 := sl.hid (OrdW15.out.chg (sl.Chg.ofBelow (lo := 0) bB) (.inr (.inr (Nat.zero_le _))))
               have Ox0W17 := sl.hid (Ox0dW15.out.chg (sl.Chg.ofBelow (lo := 0) bB) (.inr (.inr (Nat.zero_le _))))
               have Ox1W17 := sl.hid (Ox1dW15.out.chg (sl.Chg.ofBelow (lo := 0) bB) (.inr (.inr (Nat.zero_le _))))
               have OgW17 := sl.hid (OgdW15.out.chg (sl.Chg.ofBelow (lo := 0) bB) (.inr (.inr (Nat.zero_le _))))
               have CW17 := sl.hid (CdW15.out.trans (bB.mono (by show w.heap.size ≤ W15.heap.size; omega)))
               clear oc0 bB kp0_0W15 kp0_1W15 kp1_0W15 kp1_1W15 kx0_0W15 kx0_1W15 kx1_0W15 kx1_1W15 kbg_0W15 kbg_1W15 A0dW15 A1dW15 OrdW15 Ox0dW15 Ox1dW15 OgdW15 CdW15)
            | (go_at_call 22
               refine (ct.eqCS a0 xs0 _ _ _ _ W17 Ox0W17.out.infs HJ0.out HQ0.out).mono ?_
               rintro e W18 ⟨rfl, bC⟩
               have hzW18 : W17.heap.size ≤ W18.heap.size := bC.size
               have kp0_0W18 := (bC.cell (p := ⟨w.heap.size, 0, none⟩) (by show w.heap.size < W17.heap.size; omega)).trans kp0_0W17
               have kp0_1W18 := (bC.cell (p := ⟨w.heap.size, 1, none⟩) (by show w.heap.size < W17.heap.size; omega)).trans kp0_1W17
               have kp1_0W18 := (bC.cell (p := ⟨w.heap.size + 1, 0, none⟩) (by show w.heap.size + 1 < W17.heap.size; omega)).trans kp1_0W17
               have kp1_1W18 := (bC.cell (p := ⟨w.heap.size + 1, 1, none⟩) (by show w.heap.size + 1 < W17.heap.size; omega)).trans kp1_1W17
               have kx0_0W18 := (bC.cell (p := ⟨W9.heap.size, 0, none⟩) (by show W9.heap.size < W17.heap.size; omega)).trans kx0_0W17
               have kx0_1W18 := (bC.cell (p := ⟨W9.heap.size, 1, none⟩) (by show W9.heap.size < W17.heap.size; omega)).trans kx0_1W17
               have kx1_0W18 := (bC.cell (p := ⟨W11.heap.size, 0, none⟩) (by show W11.heap.size < W17.heap.size; omega)).trans kx1_0W17
               have kx1_1W18 := (bC.cell (p := ⟨W11.heap.size, 1, none⟩) (by show W11.heap.size < W17.heap.size; omega)).trans kx1_1W17
               have kbg_0W18 := (bC.cell (p := ⟨W13.heap.size, 0, none⟩) (by show W13.heap.size < W17.heap.size; omega)).trans kbg_0W17
               have kbg_1W18 := (bC.cell (p := ⟨W13.heap.size, 1, none⟩) (by show W13.heap.size < W17.heap.size; omega)).trans kbg_1W17
               have A0W18 := sl.hid (A0W17.out.chg (sl.Chg.ofBelow (lo := 0) bC) (.inr (Nat.zero_le _)))
               have A1W18 := sl.hid (A1W17.out.chg (sl.Chg.ofBelow (lo := 0) bC) (.inr (Nat.zero_le _)))
               have OrW18 := sl.hid (OrW17.out.chg (sl.Chg.ofBelow (lo := 0) bC) (.inr (.inr (Nat.zero_le _))))
               have Ox0W18 := sl.hid (Ox0W17.out.chg (sl.Chg.ofBelow (lo := 0) bC) (.inr (.inr (Nat.zero_le _))))
               have Ox1W18 := sl.hid (Ox1W17.out.chg (sl.Chg.ofBelow (lo := 0) bC) (.inr (.inr (Nat.zero_le _))))
               have OgW18 := sl.hid (OgW17.out.chg (sl.Chg.ofBelow (lo := 0) bC) (.inr (.inr (Nat.zero_le _))))
               have CW18 := sl.hid (CW17.out.trans (bC.mono (by show w.heap.size ≤ W17.heap.size; omega)))
               clear HJ0 bC kp0_0W17 kp0_1W17 kp1_0W17 kp1_1W17 kx0_0W17 kx0_1W17 kx1_0W17 kx1_1W17 kbg_0W17 kbg_1W17 A0W17 A1W17 OrW17 Ox0W17 Ox1W17 OgW17 CW17))
        go_wp2_with fail
        have bD := (Below.refl W18.heap.size W18).drew
        have A0dW18 := sl.hid (A0W18.out.chg (sl.Chg.ofBelow (lo := 0) bD) (.inr (Nat.zero_le _)))
        have A1dW18 := sl.hid (A1W18.out.chg (sl.Chg.ofBelow (lo := 0) bD) (.inr (Nat.zero_le _)))
        have OrdW18 := sl.hid (OrW18.out.chg (sl.Chg.ofBelow (lo := 0) bD) (.inr (.inr (Nat.zero_le _))))
        have Ox0dW18 := sl.hid (Ox0W18.out.chg (sl.Chg.ofBelow (lo := 0) bD) (.inr (.inr (Nat.zero_le _))))
        have Ox1dW18 := sl.hid (Ox1W18.out.chg (sl.Chg.ofBelow (lo := 0) bD) (.inr (.inr (Nat.zero_le _))))
        have OgdW18 := sl.hid (OgW18.out.chg (sl.Chg.ofBelow (lo := 0) bD) (.inr (.inr (Nat.zero_le _))))
        have CdW18 := sl.hid (CW18.out.drew)
        clear bD A0W18 A1W18 OrW18 Ox0W18 Ox1W18 OgW18 CW18
        go_region_held3 (fun w' => w'.cell? ⟨w.heap.size + 1, 0, none⟩ = some (.int .i64 a1) ∧ w'.cell? ⟨w.heap.size + 1, 1, none⟩ = some (f1_0) ∧ w'.cell? ⟨W11.heap.size, 0, none⟩ = some (.int .i64 a1) ∧ w'.cell? ⟨W11.heap.size, 1, none⟩ = some (.slice ao11_0 ln11_0 cp11_0)) (go_keep)
          (first
            | (go_at_call 20
               refine (ct.toC a1 xs1 f1_0 _ _ A1dW18.out (by show w.heap.size ≤ W18.heap.size; omega) HQ1.out).mono ?_
               rintro e W20 ⟨fc1_0, rfl, oc1, bB⟩
               have HJ1 := sl.hid oc1.infs
               have hzW20 : W18.heap.size ≤ W20.heap.size := bB.size
               have kp0_0W20 := (bB.cell (p := ⟨w.heap.size, 0, none⟩) (by show w.heap.size < W18.heap.size; omega)).trans kp0_0W18
               have kp0_1W20 := (bB.cell (p := ⟨w.heap.size, 1, none⟩) (by show w.heap.size < W18.heap.size; omega)).trans kp0_1W18
               have kp1_0W20 := (bB.cell (p := ⟨w.heap.size + 1, 0, none⟩) (by show w.heap.size + 1 < W18.heap.size; omega)).trans kp1_0W18
               have kp1_1W20 := (bB.cell (p := ⟨w.heap.size + 1, 1, none⟩) (by show w.heap.size + 1 < W18.heap.size; omega)).trans kp1_1W18
               have kx0_0W20 := (bB.cell (p := ⟨W9.heap.size, 0, none⟩) (by show W9.heap.size < W18.heap.size; omega)).trans kx0_0W18
               have kx0_1W20 := (bB.cell (p := ⟨W9.heap.size, 1, none⟩) (by show W9.heap.size < W18.heap.size; omega)).trans kx0_1W18
               have kx1_0W20 := (bB.cell (p := ⟨W11.heap.size, 0, none⟩) (by show W11.heap.size < W18.heap.size; omega)).trans kx1_0W18
               have kx1_1W20 := (bB.cell (p := ⟨W11.heap.size, 1, none⟩) (by show W11.heap.size < W18.heap.size; omega)).trans kx1_1W18
               have kbg_0W20 := (bB.cell (p := ⟨W13.heap.size, 0, none⟩) (by show W13.heap.size < W18.heap.size; omega)).trans kbg_0W18
               have kbg_1W20 := (bB.cell (p := ⟨W13.heap.size, 1, none⟩) (by show W13.heap.size < W18.heap.size; omega)).trans kbg_1W18
               have A0W20 := sl.hid (A0dW18.out.chg (sl.Chg.ofBelow (lo := 0) bB) (.inr (Nat.zero_le _)))
               have A1W20 := sl.hid (A1dW18.out.chg (sl.Chg.ofBelow (lo := 0) bB) (.inr (Nat.zero_le _)))
               have OrW20 := sl.hid (OrdW18.out.chg (sl.Chg.ofBelow (lo := 0) bB) (.inr (.inr (Nat.zero_le _))))
               have Ox0W20 := sl.hid (Ox0dW18.out.chg (sl.Chg.ofBelow (lo := 0) bB) (.inr (.inr (Nat.zero_le _))))
               have Ox1W20 := sl.hid (Ox1dW18.out.chg (sl.Chg.ofBelow (lo := 0) bB) (.inr (.inr (Nat.zero_le _))))
               have OgW20 := sl.hid (OgdW18.out.chg (sl.Chg.ofBelow (lo := 0) bB) (.inr (.inr (Nat.zero_le _))))
               have CW20 := sl.hid (CdW18.out.trans (bB.mono (by show w.heap.size ≤ W18.heap.size; omega)))
               clear oc1 bB kp0_0W18 kp0_1W18 kp1_0W18 kp1_1W18 kx0_0W18 kx0_1W18 kx1_0W18 kx1_1W18 kbg_0W18 kbg_1W18 A0dW18 A1dW18 OrdW18 Ox0dW18 Ox1dW18 OgdW18 CdW18)
            | (go_at_call 22
               refine (ct.eqCS a1 xs1 _ _ _ _ W20 Ox1W20.out.infs HJ1.out HQ1.out).mono ?_
               rintro e W21 ⟨rfl, bC⟩
               have hzW21 : W20.heap.size ≤ W21.heap.size := bC.size
               have kp0_0W21 := (bC.cell (p := ⟨w.heap.size, 0, none⟩) (by show w.heap.size < W20.heap.size; omega)).trans kp0_0W20
               have kp0_1W21 := (bC.cell (p := ⟨w.heap.size, 1, none⟩) (by show w.heap.size < W20.heap.size; omega)).trans kp0_1W20
               have kp1_0W21 := (bC.cell (p := ⟨w.heap.size + 1, 0, none⟩) (by show w.heap.size + 1 < W20.heap.size; omega)).trans kp1_0W20
               have kp1_1W21 := (bC.cell (p := ⟨w.heap.size + 1, 1, none⟩) (by show w.heap.size + 1 < W20.heap.size; omega)).trans kp1_1W20
               have kx0_0W21 := (bC.cell (p := ⟨W9.heap.size, 0, none⟩) (by show W9.heap.size < W20.heap.size; omega)).trans kx0_0W20
               have kx0_1W21 := (bC.cell (p := ⟨W9.heap.size, 1, none⟩) (by show W9.heap.size < W20.heap.size; omega)).trans kx0_1W20
               have kx1_0W21 := (bC.cell (p := ⟨W11.heap.size, 0, none⟩) (by show W11.heap.size < W20.heap.size; omega)).trans kx1_0W20
               have kx1_1W21 := (bC.cell (p := ⟨W11.heap.size, 1, none⟩) (by show W11.heap.size < W20.heap.size; omega)).trans kx1_1W20
               have kbg_0W21 := (bC.cell (p := ⟨W13.heap.size, 0, none⟩) (by show W13.heap.size < W20.heap.size; omega)).trans kbg_0W20
               have kbg_1W21 := (bC.cell (p := ⟨W13.heap.size, 1, none⟩) (by show W13.heap.size < W20.heap.size; omega)).trans kbg_1W20
               have A0W21 := sl.hid (A0W20.out.chg (sl.Chg.ofBelow (lo := 0) bC) (.inr (Nat.zero_le _)))
               have A1W21 := sl.hid (A1W20.out.chg (sl.Chg.ofBelow (lo := 0) bC) (.inr (Nat.zero_le _)))
               have OrW21 := sl.hid (OrW20.out.chg (sl.Chg.ofBelow (lo := 0) bC) (.inr (.inr (Nat.zero_le _))))
               have Ox0W21 := sl.hid (Ox0W20.out.chg (sl.Chg.ofBelow (lo := 0) bC) (.inr (.inr (Nat.zero_le _))))
               have Ox1W21 := sl.hid (Ox1W20.out.chg (sl.Chg.ofBelow (lo := 0) bC) (.inr (.inr (Nat.zero_le _))))
               have OgW21 := sl.hid (OgW20.out.chg (sl.Chg.ofBelow (lo := 0) bC) (.inr (.inr (Nat.zero_le _))))
               have CW21 := sl.hid (CW20.out.trans (bC.mono (by show w.heap.size ≤ W20.heap.size; omega)))
               clear HJ1 bC kp0_0W20 kp0_1W20 kp1_0W20 kp1_1W20 kx0_0W20 kx0_1W20 kx1_0W20 kx1_1W20 kbg_0W20 kbg_1W20 A0W20 A1W20 OrW20 Ox0W20 Ox1W20 OgW20 CW20))
        go_wp2_with fail
        refine (ct.markC a0 xs0 _ _ _ 1 W21 Ox0W21.out HQ0.out HT0.out (by omega) (by omega)).mono ?_
        rintro e W22 ⟨km22, rfl, hkm22, c22⟩
        have hkd22 : decide (km22 < 0) = false := by simp; omega
        clear Ox0W21
        have hzW22 : W21.heap.size ≤ W22.heap.size := c22.size
        have kp0_0W22 := (World.cell?_of_block (w := W21) (w' := W22) (a := ⟨w.heap.size, 0, none⟩) (c22.block (w.heap.size) (by omega) (by omega))).trans kp0_0W21
        have kp0_1W22 := (World.cell?_of_block (w := W21) (w' := W22) (a := ⟨w.heap.size, 1, none⟩) (c22.block (w.heap.size) (by omega) (by omega))).trans kp0_1W21
        have kp1_0W22 := (World.cell?_of_block (w := W21) (w' := W22) (a := ⟨w.heap.size + 1, 0, none⟩) (c22.block (w.heap.size + 1) (by omega) (by omega))).trans kp1_0W21
        have kp1_1W22 := (World.cell?_of_block (w := W21) (w' := W22) (a := ⟨w.heap.size + 1, 1, none⟩) (c22.block (w.heap.size + 1) (by omega) (by omega))).trans kp1_1W21
        have kx1_0W22 := (World.cell?_of_block (w := W21) (w' := W22) (a := ⟨W11.heap.size, 0, none⟩) (c22.block (W11.heap.size) (by omega) (by omega))).trans kx1_0W21
        have kx1_1W22 := (World.cell?_of_block (w := W21) (w' := W22) (a := ⟨W11.heap.size, 1, none⟩) (c22.block (W11.heap.size) (by omega) (by omega))).trans kx1_1W21
        have kbg_0W22 := (World.cell?_of_block (w := W21) (w' := W22) (a := ⟨W13.heap.size, 0, none⟩) (c22.block (W13.heap.size) (by omega) (by omega))).trans kbg_0W21
        have kbg_1W22 := (World.cell?_of_block (w := W21) (w' := W22) (a := ⟨W13.heap.size, 1, none⟩) (c22.block (W13.heap.size) (by omega) (by omega))).trans kbg_1W21
        have A0W22 := sl.hid (A0W21.out.chg c22 (by omega))
        have A1W22 := sl.hid (A1W21.out.chg c22 (by omega))
        have OrW22 := sl.hid (OrW21.out.chg c22 (by omega))
        have Ox1W22 := sl.hid (Ox1W21.out.chg c22 (by omega))
        have OgW22 := sl.hid (OgW21.out.chg c22 (by omega))
        have CW22 := sl.hid (CW21.out.trans (c22.below (by omega) (by omega)))
        clear c22 kp0_0W21 kp0_1W21 kp1_0W21 kp1_1W21 kx1_0W21 kx1_1W21 kbg_0W21 kbg_1W21 A0W21 A1W21 OrW21 Ox1W21 OgW21 CW21
        go_wp2_with fail
        refine (ct.markC a1 xs1 _ _ _ 1 W22 Ox1W22.out HQ1.out HT1.out (by omega) (by omega)).mono ?_
        rintro e W23 ⟨km23, rfl, hkm23, c23⟩
        have hkd23 : decide (km23 < 0) = false := by simp; omega
        clear Ox1W22
        have hzW23 : W22.heap.size ≤ W23.heap.size := c23.size
        have kp0_0W23 := (World.cell?_of_block (w := W22) (w' := W23) (a := ⟨w.heap.size, 0, none⟩) (c23.block (w.heap.size) (by omega) (by omega))).trans kp0_0W22
        have kp0_1W23 := (World.cell?_of_block (w := W22) (w' := W23) (a := ⟨w.heap.size, 1, none⟩) (c23.block (w.heap.size) (by omega) (by omega))).trans kp0_1W22
        have kp1_0W23 := (World.cell?_of_block (w := W22) (w' := W23) (a := ⟨w.heap.size + 1, 0, none⟩) (c23.block (w.heap.size + 1) (by omega) (by omega))).trans kp1_0W22
        have kp1_1W23 := (World.cell?_of_block (w := W22) (w' := W23) (a := ⟨w.heap.size + 1, 1, none⟩) (c23.block (w.heap.size + 1) (by omega) (by omega))).trans kp1_1W22
        have kbg_0W23 := (World.cell?_of_block (w := W22) (w' := W23) (a := ⟨W13.heap.size, 0, none⟩) (c23.block (W13.heap.size) (by omega) (by omega))).trans kbg_0W22
        have kbg_1W23 := (World.cell?_of_block (w := W22) (w' := W23) (a := ⟨W13.heap.size, 1, none⟩) (c23.block (W13.heap.size) (by omega) (by omega))).trans kbg_1W22
        have A0W23 := sl.hid (A0W22.out.chg c23 (by omega))
        have A1W23 := sl.hid (A1W22.out.chg c23 (by omega))
        have OrW23 := sl.hid (OrW22.out.chg c23 (by omega))
        have OgW23 := sl.hid (OgW22.out.chg c23 (by omega))
        have CW23 := sl.hid (CW22.out.trans (c23.below (by omega) (by omega)))
        clear c23 kp0_0W22 kp0_1W22 kp1_0W22 kp1_1W22 kbg_0W22 kbg_1W22 A0W22 A1W22 OrW22 OgW22 CW22
        go_wp2_with fail
        refine (ct.eqCS sr zr _ _ _ _ W23 OgW23.out.infs OrW23.out.infs hr).mono ?_
        rintro e W24 ⟨rfl, b24⟩
        have hzW24 : W23.heap.size ≤ W24.heap.size := b24.size
        have kp0_0W24 := (b24.cell (p := ⟨w.heap.size, 0, none⟩) (by show w.heap.size < W23.heap.size; omega)).trans kp0_0W23
        have kp0_1W24 := (b24.cell (p := ⟨w.heap.size, 1, none⟩) (by show w.heap.size < W23.heap.size; omega)).trans kp0_1W23
        have kp1_0W24 := (b24.cell (p := ⟨w.heap.size + 1, 0, none⟩) (by show w.heap.size + 1 < W23.heap.size; omega)).trans kp1_0W23
        have kp1_1W24 := (b24.cell (p := ⟨w.heap.size + 1, 1, none⟩) (by show w.heap.size + 1 < W23.heap.size; omega)).trans kp1_1W23
        have kbg_0W24 := (b24.cell (p := ⟨W13.heap.size, 0, none⟩) (by show W13.heap.size < W23.heap.size; omega)).trans kbg_0W23
        have kbg_1W24 := (b24.cell (p := ⟨W13.heap.size, 1, none⟩) (by show W13.heap.size < W23.heap.size; omega)).trans kbg_1W23
        have A0W24 := sl.hid (A0W23.out.chg (sl.Chg.ofBelow (lo := 0) b24) (.inr (Nat.zero_le _)))
        have A1W24 := sl.hid (A1W23.out.chg (sl.Chg.ofBelow (lo := 0) b24) (.inr (Nat.zero_le _)))
        have OrW24 := sl.hid (OrW23.out.chg (sl.Chg.ofBelow (lo := 0) b24) (.inr (.inr (Nat.zero_le _))))
        have OgW24 := sl.hid (OgW23.out.chg (sl.Chg.ofBelow (lo := 0) b24) (.inr (.inr (Nat.zero_le _))))
        have CW24 := sl.hid (CW23.out.trans (b24.mono (by show w.heap.size ≤ W23.heap.size; omega)))
        clear b24 kp0_0W23 kp0_1W23 kp1_0W23 kp1_1W23 kbg_0W23 kbg_1W23 A0W23 A1W23 OrW23 OgW23 CW23
        go_wp2_with fail
        refine (ct.markCF sr zr _ _ _ 1 W24 OgW24.out hr htt (by omega) (by omega)).mono ?_
        rintro e W25 ⟨rfl, o25, c25⟩
        have hzW25 : W24.heap.size ≤ W25.heap.size := c25.size
        have kp0_0W25 := (World.cell?_of_block (w := W24) (w' := W25) (a := ⟨w.heap.size, 0, none⟩) (c25.block (w.heap.size) (by omega) (by omega))).trans kp0_0W24
        have kp0_1W25 := (World.cell?_of_block (w := W24) (w' := W25) (a := ⟨w.heap.size, 1, none⟩) (c25.block (w.heap.size) (by omega) (by omega))).trans kp0_1W24
        have kp1_0W25 := (World.cell?_of_block (w := W24) (w' := W25) (a := ⟨w.heap.size + 1, 0, none⟩) (c25.block (w.heap.size + 1) (by omega) (by omega))).trans kp1_0W24
        have kp1_1W25 := (World.cell?_of_block (w := W24) (w' := W25) (a := ⟨w.heap.size + 1, 1, none⟩) (c25.block (w.heap.size + 1) (by omega) (by omega))).trans kp1_1W24
        have kbg_0W25 := (World.cell?_of_block (w := W24) (w' := W25) (a := ⟨W13.heap.size, 0, none⟩) (c25.block (W13.heap.size) (by omega) (by omega))).trans kbg_0W24
        have kbg_1W25 := (World.cell?_of_block (w := W24) (w' := W25) (a := ⟨W13.heap.size, 1, none⟩) (c25.block (W13.heap.size) (by omega) (by omega))).trans kbg_1W24
        have A0W25 := sl.hid (A0W24.out.chg c25 (by omega))
        have A1W25 := sl.hid (A1W24.out.chg c25 (by omega))
        have OrW25 := sl.hid (OrW24.out.chg c25 (by omega))
        have CW25 := sl.hid (CW24.out.trans (c25.below (by omega) (by omega)))
        clear c25 kp0_0W24 kp0_1W24 kp1_0W24 kp1_1W24 kbg_0W24 kbg_1W24 A0W24 A1W24 OrW24 CW24
        have On25 := sl.hid o25
        clear o25 OgW24
        go_wp2_with fail
        refine (ct.heldC sr zr _ _ 1 W25 On25.out.infs hr htt (by omega) (by omega)).mono ?_
        rintro e W26 ⟨rfl, b26⟩
        have hzW26 : W25.heap.size ≤ W26.heap.size := b26.size
        have kp0_0W26 := (b26.cell (p := ⟨w.heap.size, 0, none⟩) (by show w.heap.size < W25.heap.size; omega)).trans kp0_0W25
        have kp0_1W26 := (b26.cell (p := ⟨w.heap.size, 1, none⟩) (by show w.heap.size < W25.heap.size; omega)).trans kp0_1W25
        have kp1_0W26 := (b26.cell (p := ⟨w.heap.size + 1, 0, none⟩) (by show w.heap.size + 1 < W25.heap.size; omega)).trans kp1_0W25
        have kp1_1W26 := (b26.cell (p := ⟨w.heap.size + 1, 1, none⟩) (by show w.heap.size + 1 < W25.heap.size; omega)).trans kp1_1W25
        have kbg_0W26 := (b26.cell (p := ⟨W13.heap.size, 0, none⟩) (by show W13.heap.size < W25.heap.size; omega)).trans kbg_0W25
        have kbg_1W26 := (b26.cell (p := ⟨W13.heap.size, 1, none⟩) (by show W13.heap.size < W25.heap.size; omega)).trans kbg_1W25
        have A0W26 := sl.hid (A0W25.out.chg (sl.Chg.ofBelow (lo := 0) b26) (.inr (Nat.zero_le _)))
        have A1W26 := sl.hid (A1W25.out.chg (sl.Chg.ofBelow (lo := 0) b26) (.inr (Nat.zero_le _)))
        have OrW26 := sl.hid (OrW25.out.chg (sl.Chg.ofBelow (lo := 0) b26) (.inr (.inr (Nat.zero_le _))))
        have OgW26 := sl.hid (On25.out.chg (sl.Chg.ofBelow (lo := 0) b26) (.inr (.inr (Nat.zero_le _))))
        have CW26 := sl.hid (CW25.out.trans (b26.mono (by show w.heap.size ≤ W25.heap.size; omega)))
        clear b26 kp0_0W25 kp0_1W25 kp1_0W25 kp1_1W25 kbg_0W25 kbg_1W25 A0W25 A1W25 OrW25 On25 CW25
        go_wp2_with fail
        have bD := (Below.refl W26.heap.size W26).drew
        have A0dW26 := sl.hid (A0W26.out.chg (sl.Chg.ofBelow (lo := 0) bD) (.inr (Nat.zero_le _)))
        have A1dW26 := sl.hid (A1W26.out.chg (sl.Chg.ofBelow (lo := 0) bD) (.inr (Nat.zero_le _)))
        have OrdW26 := sl.hid (OrW26.out.chg (sl.Chg.ofBelow (lo := 0) bD) (.inr (.inr (Nat.zero_le _))))
        have OgdW26 := sl.hid (OgW26.out.chg (sl.Chg.ofBelow (lo := 0) bD) (.inr (.inr (Nat.zero_le _))))
        have CdW26 := sl.hid (CW26.out.drew)
        clear bD A0W26 A1W26 OrW26 OgW26 CW26
        go_region_held3 (fun w' => w'.cell? ⟨w.heap.size, 0, none⟩ = some (.int .i64 a0) ∧ w'.cell? ⟨w.heap.size, 1, none⟩ = some (f0_0) ∧ w'.cell? ⟨w.heap.size + 1, 0, none⟩ = some (.int .i64 a1) ∧ w'.cell? ⟨w.heap.size + 1, 1, none⟩ = some (f1_0)) (go_keep)
          (first
            | (go_at_call_of 20 (Value.agg #[.int .i64 a0, f0_0])
               have hchk := HIc1
               refine (ct.toC a0 xs0 f0_0 _ _ A0W27.out (by show w.heap.size ≤ W27.heap.size; omega) HQ0.out).mono ?_
               rintro e W28 ⟨fc0_0, rfl, oc0, bB⟩
               have HJ0 := sl.hid oc0.infsN
               have HJ1 := sl.hid ((HIc1.out.chg (sl.Chg.ofBelow (lo := 0) bB) (.inr (Nat.zero_le _))).mono bB.size)
               have hzW28 : W27.heap.size ≤ W28.heap.size := bB.size
               have kp0_0W28 := (bB.cell (p := ⟨w.heap.size, 0, none⟩) (by show w.heap.size < W27.heap.size; omega)).trans kp0_0W27
               have kp0_1W28 := (bB.cell (p := ⟨w.heap.size, 1, none⟩) (by show w.heap.size < W27.heap.size; omega)).trans kp0_1W27
               have kp1_0W28 := (bB.cell (p := ⟨w.heap.size + 1, 0, none⟩) (by show w.heap.size + 1 < W27.heap.size; omega)).trans kp1_0W27
               have kp1_1W28 := (bB.cell (p := ⟨w.heap.size + 1, 1, none⟩) (by show w.heap.size + 1 < W27.heap.size; omega)).trans kp1_1W27
               have kbg_0W28 := (bB.cell (p := ⟨W13.heap.size, 0, none⟩) (by show W13.heap.size < W27.heap.size; omega)).trans kbg_0W27
               have kbg_1W28 := (bB.cell (p := ⟨W13.heap.size, 1, none⟩) (by show W13.heap.size < W27.heap.size; omega)).trans kbg_1W27
               have A0W28 := sl.hid (A0W27.out.chg (sl.Chg.ofBelow (lo := 0) bB) (.inr (Nat.zero_le _)))
               have A1W28 := sl.hid (A1W27.out.chg (sl.Chg.ofBelow (lo := 0) bB) (.inr (Nat.zero_le _)))
               have OrW28 := sl.hid (OrW27.out.chg (sl.Chg.ofBelow (lo := 0) bB) (.inr (.inr (Nat.zero_le _))))
               have OgW28 := sl.hid (OgW27.out.chg (sl.Chg.ofBelow (lo := 0) bB) (.inr (.inr (Nat.zero_le _))))
               have CW28 := sl.hid (CW27.out.trans (bB.mono (by show w.heap.size ≤ W27.heap.size; omega)))
               clear oc0 HIc1 hchk bB kp0_0W27 kp0_1W27 kp1_0W27 kp1_1W27 kbg_0W27 kbg_1W27 A0W27 A1W27 OrW27 OgW27 CW27)
            | (go_at_call_of 20 (Value.agg #[.int .i64 a1, f1_0])
               have hchk := HIc0
               refine (ct.toC a1 xs1 f1_0 _ _ A1W27.out (by show w.heap.size ≤ W27.heap.size; omega) HQ1.out).mono ?_
               rintro e W28 ⟨fc1_0, rfl, oc1, bB⟩
               have HJ1 := sl.hid oc1.infsN
               have HJ0 := sl.hid ((HIc0.out.chg (sl.Chg.ofBelow (lo := 0) bB) (.inr (Nat.zero_le _))).mono bB.size)
               have hzW28 : W27.heap.size ≤ W28.heap.size := bB.size
               have kp0_0W28 := (bB.cell (p := ⟨w.heap.size, 0, none⟩) (by show w.heap.size < W27.heap.size; omega)).trans kp0_0W27
               have kp0_1W28 := (bB.cell (p := ⟨w.heap.size, 1, none⟩) (by show w.heap.size < W27.heap.size; omega)).trans kp0_1W27
               have kp1_0W28 := (bB.cell (p := ⟨w.heap.size + 1, 0, none⟩) (by show w.heap.size + 1 < W27.heap.size; omega)).trans kp1_0W27
               have kp1_1W28 := (bB.cell (p := ⟨w.heap.size + 1, 1, none⟩) (by show w.heap.size + 1 < W27.heap.size; omega)).trans kp1_1W27
               have kbg_0W28 := (bB.cell (p := ⟨W13.heap.size, 0, none⟩) (by show W13.heap.size < W27.heap.size; omega)).trans kbg_0W27
               have kbg_1W28 := (bB.cell (p := ⟨W13.heap.size, 1, none⟩) (by show W13.heap.size < W27.heap.size; omega)).trans kbg_1W27
               have A0W28 := sl.hid (A0W27.out.chg (sl.Chg.ofBelow (lo := 0) bB) (.inr (Nat.zero_le _)))
               have A1W28 := sl.hid (A1W27.out.chg (sl.Chg.ofBelow (lo := 0) bB) (.inr (Nat.zero_le _)))
               have OrW28 := sl.hid (OrW27.out.chg (sl.Chg.ofBelow (lo := 0) bB) (.inr (.inr (Nat.zero_le _))))
               have OgW28 := sl.hid (OgW27.out.chg (sl.Chg.ofBelow (lo := 0) bB) (.inr (.inr (Nat.zero_le _))))
               have CW28 := sl.hid (CW27.out.trans (bB.mono (by show w.heap.size ≤ W27.heap.size; omega)))
               clear oc1 HIc0 hchk bB kp0_0W27 kp0_1W27 kp1_0W27 kp1_1W27 kbg_0W27 kbg_1W27 A0W27 A1W27 OrW27 OgW27 CW27)
            | (go_at_call_of 20 (Value.agg #[.int .i64 a0, f0_0])
               refine (ct.toC a0 xs0 f0_0 _ _ A0dW26.out (by show w.heap.size ≤ W26.heap.size; omega) HQ0.out).mono ?_
               rintro e W27 ⟨fc0_0, rfl, oc0, bA⟩
               have HIc0 := sl.hid oc0.infsN
               have hzW27 : W26.heap.size ≤ W27.heap.size := bA.size
               have kp0_0W27 := (bA.cell (p := ⟨w.heap.size, 0, none⟩) (by show w.heap.size < W26.heap.size; omega)).trans kp0_0W26
               have kp0_1W27 := (bA.cell (p := ⟨w.heap.size, 1, none⟩) (by show w.heap.size < W26.heap.size; omega)).trans kp0_1W26
               have kp1_0W27 := (bA.cell (p := ⟨w.heap.size + 1, 0, none⟩) (by show w.heap.size + 1 < W26.heap.size; omega)).trans kp1_0W26
               have kp1_1W27 := (bA.cell (p := ⟨w.heap.size + 1, 1, none⟩) (by show w.heap.size + 1 < W26.heap.size; omega)).trans kp1_1W26
               have kbg_0W27 := (bA.cell (p := ⟨W13.heap.size, 0, none⟩) (by show W13.heap.size < W26.heap.size; omega)).trans kbg_0W26
               have kbg_1W27 := (bA.cell (p := ⟨W13.heap.size, 1, none⟩) (by show W13.heap.size < W26.heap.size; omega)).trans kbg_1W26
               have A0W27 := sl.hid (A0dW26.out.chg (sl.Chg.ofBelow (lo := 0) bA) (.inr (Nat.zero_le _)))
               have A1W27 := sl.hid (A1dW26.out.chg (sl.Chg.ofBelow (lo := 0) bA) (.inr (Nat.zero_le _)))
               have OrW27 := sl.hid (OrdW26.out.chg (sl.Chg.ofBelow (lo := 0) bA) (.inr (.inr (Nat.zero_le _))))
               have OgW27 := sl.hid (OgdW26.out.chg (sl.Chg.ofBelow (lo := 0) bA) (.inr (.inr (Nat.zero_le _))))
               have CW27 := sl.hid (CdW26.out.trans (bA.mono (by show w.heap.size ≤ W26.heap.size; omega)))
               clear oc0 bA kp0_0W26 kp0_1W26 kp1_0W26 kp1_1W26 kbg_0W26 kbg_1W26 A0dW26 A1dW26 OrdW26 OgdW26 CdW26)
            | (go_at_call_of 20 (Value.agg #[.int .i64 a1, f1_0])
               refine (ct.toC a1 xs1 f1_0 _ _ A1dW26.out (by show w.heap.size ≤ W26.heap.size; omega) HQ1.out).mono ?_
               rintro e W27 ⟨fc1_0, rfl, oc1, bA⟩
               have HIc1 := sl.hid oc1.infsN
               have hzW27 : W26.heap.size ≤ W27.heap.size := bA.size
               have kp0_0W27 := (bA.cell (p := ⟨w.heap.size, 0, none⟩) (by show w.heap.size < W26.heap.size; omega)).trans kp0_0W26
               have kp0_1W27 := (bA.cell (p := ⟨w.heap.size, 1, none⟩) (by show w.heap.size < W26.heap.size; omega)).trans kp0_1W26
               have kp1_0W27 := (bA.cell (p := ⟨w.heap.size + 1, 0, none⟩) (by show w.heap.size + 1 < W26.heap.size; omega)).trans kp1_0W26
               have kp1_1W27 := (bA.cell (p := ⟨w.heap.size + 1, 1, none⟩) (by show w.heap.size + 1 < W26.heap.size; omega)).trans kp1_1W26
               have kbg_0W27 := (bA.cell (p := ⟨W13.heap.size, 0, none⟩) (by show W13.heap.size < W26.heap.size; omega)).trans kbg_0W26
               have kbg_1W27 := (bA.cell (p := ⟨W13.heap.size, 1, none⟩) (by show W13.heap.size < W26.heap.size; omega)).trans kbg_1W26
               have A0W27 := sl.hid (A0dW26.out.chg (sl.Chg.ofBelow (lo := 0) bA) (.inr (Nat.zero_le _)))
               have A1W27 := sl.hid (A1dW26.out.chg (sl.Chg.ofBelow (lo := 0) bA) (.inr (Nat.zero_le _)))
               have OrW27 := sl.hid (OrdW26.out.chg (sl.Chg.ofBelow (lo := 0) bA) (.inr (.inr (Nat.zero_le _))))
               have OgW27 := sl.hid (OgdW26.out.chg (sl.Chg.ofBelow (lo := 0) bA) (.inr (.inr (Nat.zero_le _))))
               have CW27 := sl.hid (CdW26.out.trans (bA.mono (by show w.heap.size ≤ W26.heap.size; omega)))
               clear oc1 bA kp0_0W26 kp0_1W26 kp1_0W26 kp1_1W26 kbg_0W26 kbg_1W26 A0dW26 A1dW26 OrdW26 OgdW26 CdW26)
            | (go_at_call 26
               refine (IP.out _ _ W28 _ _ CW28.out HJ0.out (by omega) HJ1.out (by omega)).mono ?_
               rintro e W29 ⟨vh, rfl, oC, bC⟩
               have hzW29 : W28.heap.size ≤ W29.heap.size := bC.size
               have kp0_0W29 := (bC.cell (p := ⟨w.heap.size, 0, none⟩) (by show w.heap.size < W28.heap.size; omega)).trans kp0_0W28
               have kp0_1W29 := (bC.cell (p := ⟨w.heap.size, 1, none⟩) (by show w.heap.size < W28.heap.size; omega)).trans kp0_1W28
               have kp1_0W29 := (bC.cell (p := ⟨w.heap.size + 1, 0, none⟩) (by show w.heap.size + 1 < W28.heap.size; omega)).trans kp1_0W28
               have kp1_1W29 := (bC.cell (p := ⟨w.heap.size + 1, 1, none⟩) (by show w.heap.size + 1 < W28.heap.size; omega)).trans kp1_1W28
               have kbg_0W29 := (bC.cell (p := ⟨W13.heap.size, 0, none⟩) (by show W13.heap.size < W28.heap.size; omega)).trans kbg_0W28
               have kbg_1W29 := (bC.cell (p := ⟨W13.heap.size, 1, none⟩) (by show W13.heap.size < W28.heap.size; omega)).trans kbg_1W28
               have A0W29 := sl.hid (A0W28.out.chg (sl.Chg.ofBelow (lo := 0) bC) (.inr (Nat.zero_le _)))
               have A1W29 := sl.hid (A1W28.out.chg (sl.Chg.ofBelow (lo := 0) bC) (.inr (Nat.zero_le _)))
               have OrW29 := sl.hid (OrW28.out.chg (sl.Chg.ofBelow (lo := 0) bC) (.inr (.inr (Nat.zero_le _))))
               have OgW29 := sl.hid (OgW28.out.chg (sl.Chg.ofBelow (lo := 0) bC) (.inr (.inr (Nat.zero_le _))))
               have CW29 := sl.hid (CW28.out.trans (bC.mono (by show w.heap.size ≤ W28.heap.size; omega)))
               have Ovh := sl.hid oC
               clear oC
               clear HJ0 HJ1 bC kp0_0W28 kp0_1W28 kp1_0W28 kp1_1W28 kbg_0W28 kbg_1W28 A0W28 A1W28 OrW28 OgW28 CW28))
        all_goals
          go_wp2_with fail
          refine (ct.eqCS sr zr _ _ _ _ W29 Ovh.out.infs OrW29.out.infs hr).mono ?_
          rintro e W30 ⟨rfl, b30⟩
          have hzW30 : W29.heap.size ≤ W30.heap.size := b30.size
          have kp0_0W30 := (b30.cell (p := ⟨w.heap.size, 0, none⟩) (by show w.heap.size < W29.heap.size; omega)).trans kp0_0W29
          have kp0_1W30 := (b30.cell (p := ⟨w.heap.size, 1, none⟩) (by show w.heap.size < W29.heap.size; omega)).trans kp0_1W29
          have kp1_0W30 := (b30.cell (p := ⟨w.heap.size + 1, 0, none⟩) (by show w.heap.size + 1 < W29.heap.size; omega)).trans kp1_0W29
          have kp1_1W30 := (b30.cell (p := ⟨w.heap.size + 1, 1, none⟩) (by show w.heap.size + 1 < W29.heap.size; omega)).trans kp1_1W29
          have kbg_0W30 := (b30.cell (p := ⟨W13.heap.size, 0, none⟩) (by show W13.heap.size < W29.heap.size; omega)).trans kbg_0W29
          have kbg_1W30 := (b30.cell (p := ⟨W13.heap.size, 1, none⟩) (by show W13.heap.size < W29.heap.size; omega)).trans kbg_1W29
          have A0W30 := sl.hid (A0W29.out.chg (sl.Chg.ofBelow (lo := 0) b30) (.inr (Nat.zero_le _)))
          have A1W30 := sl.hid (A1W29.out.chg (sl.Chg.ofBelow (lo := 0) b30) (.inr (Nat.zero_le _)))
          have OrW30 := sl.hid (OrW29.out.chg (sl.Chg.ofBelow (lo := 0) b30) (.inr (.inr (Nat.zero_le _))))
          have OgW30 := sl.hid (OgW29.out.chg (sl.Chg.ofBelow (lo := 0) b30) (.inr (.inr (Nat.zero_le _))))
          have OhW30 := sl.hid (Ovh.out.chg (sl.Chg.ofBelow (lo := 0) b30) (.inr (.inr (Nat.zero_le _))))
          have CW30 := sl.hid (CW29.out.trans (b30.mono (by show w.heap.size ≤ W29.heap.size; omega)))
          clear b30 kp0_0W29 kp0_1W29 kp1_0W29 kp1_1W29 kbg_0W29 kbg_1W29 A0W29 A1W29 OrW29 OgW29 Ovh CW29
          go_wp2_with fail
          refine (ct.heldC sr zr _ _ 1 W30 OgW30.out.infs hr htt (by omega) (by omega)).mono ?_
          rintro e W31 ⟨rfl, b31⟩
          have hzW31 : W30.heap.size ≤ W31.heap.size := b31.size
          have kp0_0W31 := (b31.cell (p := ⟨w.heap.size, 0, none⟩) (by show w.heap.size < W30.heap.size; omega)).trans kp0_0W30
          have kp0_1W31 := (b31.cell (p := ⟨w.heap.size, 1, none⟩) (by show w.heap.size < W30.heap.size; omega)).trans kp0_1W30
          have kp1_0W31 := (b31.cell (p := ⟨w.heap.size + 1, 0, none⟩) (by show w.heap.size + 1 < W30.heap.size; omega)).trans kp1_0W30
          have kp1_1W31 := (b31.cell (p := ⟨w.heap.size + 1, 1, none⟩) (by show w.heap.size + 1 < W30.heap.size; omega)).trans kp1_1W30
          have kbg_0W31 := (b31.cell (p := ⟨W13.heap.size, 0, none⟩) (by show W13.heap.size < W30.heap.size; omega)).trans kbg_0W30
          have kbg_1W31 := (b31.cell (p := ⟨W13.heap.size, 1, none⟩) (by show W13.heap.size < W30.heap.size; omega)).trans kbg_1W30
          have A0W31 := sl.hid (A0W30.out.chg (sl.Chg.ofBelow (lo := 0) b31) (.inr (Nat.zero_le _)))
          have A1W31 := sl.hid (A1W30.out.chg (sl.Chg.ofBelow (lo := 0) b31) (.inr (Nat.zero_le _)))
          have OrW31 := sl.hid (OrW30.out.chg (sl.Chg.ofBelow (lo := 0) b31) (.inr (.inr (Nat.zero_le _))))
          have OgW31 := sl.hid (OgW30.out.chg (sl.Chg.ofBelow (lo := 0) b31) (.inr (.inr (Nat.zero_le _))))
          have OhW31 := sl.hid (OhW30.out.chg (sl.Chg.ofBelow (lo := 0) b31) (.inr (.inr (Nat.zero_le _))))
          have CW31 := sl.hid (CW30.out.trans (b31.mono (by show w.heap.size ≤ W30.heap.size; omega)))
          clear b31 kp0_0W30 kp0_1W30 kp1_0W30 kp1_1W30 kbg_0W30 kbg_1W30 A0W30 A1W30 OrW30 OgW30 OhW30 CW30
          go_wp2
          go_ret
          exact ⟨rfl, CW31.out⟩
end Go.Proofs.YtnmnikpgjglonabDoor.wstackCharts
