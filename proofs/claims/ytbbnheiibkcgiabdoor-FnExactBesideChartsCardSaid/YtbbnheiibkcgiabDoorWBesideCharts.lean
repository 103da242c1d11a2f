/-
  The walk of the law of BesideCharts.
-/
import Derived.Test.YtbbnheiibkcgiabDoorBqm
import Derived.Test.YtbbnheiibkcgiabDoorMkh
import Derived.Deep.RegionHeld3
import Derived.Deep.CutRange
namespace Go.Proofs.YtbbnheiibkcgiabDoor.wbesideCharts
open Go.RowKit
set_option linter.unusedVariables false

set_option maxRecDepth 100000 in
set_option maxHeartbeats 20000000 in
theorem law (a0 : Int) (f0_0 : Value) (xs0 : List ro.V) (a1 : Int) (f1_0 : Value) (xs1 : List ro.V) (w : World) (hi0 : ct.CIn w f0_0 xs0) (ha0 : -9223372036854775808 ≤ a0 ∧ a0 ≤ 9223372036854775807) (hi1 : ct.CIn w f1_0 xs1) (ha1 : -9223372036854775808 ≤ a1 ∧ a1 ≤ 9223372036854775807) (hTb : stb.Tab w) :
    Calls Tryd.prog 4 #[.agg #[.int .i64 a0, f0_0], .agg #[.int .i64 a1, f1_0]] w fun e w' => e = .returned (.bool true) ∧ Below w.heap.size w w' := by
  have HTb := sl.hid hTb
  clear hTb
  have HI0 := sl.hid hi0.rd
  have HI1 := sl.hid hi1.rd
  have HZ0 := sl.hid (fun W B h => ct.szC1 a0 xs0 f0_0 B (1048576) W h hi0.len hi0.short (by omega) (by omega))
  rcases ct.szC_pos (xs := xs0) (left := 1048576) (by omega) with hzc0 | hzc0
  · rw [hzc0] at HZ0
    clear hzc0 hi0 hi1 ha0 ha1
    go_enter Tryd.func4, Tryd.ntmps4
    go_wp2_with fail
    have bE : Below w.heap.size w ((w.alloc (.cells #[.int .i64 a0, f0_0] 24)).alloc (.cells #[.int .i64 a1, f1_0] 24)) := (((Below.refl w.heap.size w).alloc (by simp) _).alloc (by simp) _)
    have hzW0 : w.heap.size + 2 ≤ ((w.alloc (.cells #[.int .i64 a0, f0_0] 24)).alloc (.cells #[.int .i64 a1, f1_0] 24)).heap.size := by simp
    have kp0_0W0 : ((w.alloc (.cells #[.int .i64 a0, f0_0] 24)).alloc (.cells #[.int .i64 a1, f1_0] 24)).cell? ⟨w.heap.size, 0, none⟩ = some (.int .i64 a0) := (World.cell?_alloc_past _ _ _ (by first | (simp; done) | (simp; omega))).trans (World.cell?_alloc_at _ _ _ _ (by simp))
    have kp0_1W0 : ((w.alloc (.cells #[.int .i64 a0, f0_0] 24)).alloc (.cells #[.int .i64 a1, f1_0] 24)).cell? ⟨w.heap.size, 1, none⟩ = some (f0_0) := (World.cell?_alloc_past _ _ _ (by first | (simp; done) | (simp; omega))).trans (World.cell?_alloc_at _ _ _ _ (by simp))
    have kp1_0W0 : ((w.alloc (.cells #[.int .i64 a0, f0_0] 24)).alloc (.cells #[.int .i64 a1, f1_0] 24)).cell? ⟨w.heap.size + 1, 0, none⟩ = some (.int .i64 a1) := World.cell?_alloc_at _ _ _ _ (by simp)
    have kp1_1W0 : ((w.alloc (.cells #[.int .i64 a0, f0_0] 24)).alloc (.cells #[.int .i64 a1, f1_0] 24)).cell? ⟨w.heap.size + 1, 1, none⟩ = some (f1_0) := World.cell?_alloc_at _ _ _ _ (by simp)
    have A0W0 := sl.hid (HI0.out.chg (sl.Chg.ofBelow (lo := 0) bE) (.inr (Nat.zero_le _)))
    have A1W0 := sl.hid (HI1.out.chg (sl.Chg.ofBelow (lo := 0) bE) (.inr (Nat.zero_le _)))
    have CW0 := sl.hid bE
    clear bE HI0 HI1
    generalize ((w.alloc (.cells #[.int .i64 a0, f0_0] 24)).alloc (.cells #[.int .i64 a1, f1_0] 24)) = W0 at *
    go_wp2_with fail
    refine (HZ0.out W0 _ A0W0.out).mono ?_
    rintro e W1 ⟨rfl, b1⟩
    have hzW1 : W0.heap.size ≤ W1.heap.size := b1.size
    have kp0_0W1 := (b1.cell (p := ⟨w.heap.size, 0, none⟩) (by show w.heap.size < W0.heap.size; omega)).trans kp0_0W0
    have kp0_1W1 := (b1.cell (p := ⟨w.heap.size, 1, none⟩) (by show w.heap.size < W0.heap.size; omega)).trans kp0_1W0
    have kp1_0W1 := (b1.cell (p := ⟨w.heap.size + 1, 0, none⟩) (by show w.heap.size + 1 < W0.heap.size; omega)).trans kp1_0W0
    have kp1_1W1 := (b1.cell (p := ⟨w.heap.size + 1, 1, none⟩) (by show w.heap.size + 1 < W0.heap.size; omega)).trans kp1_1W0
    have A0W1 := sl.hid (A0W0.out.chg (sl.Chg.ofBelow (lo := 0) b1) (.inr (Nat.zero_le _)))
    have A1W1 := sl.hid (A1W0.out.chg (sl.Chg.ofBelow (lo := 0) b1) (.inr (Nat.zero_le _)))
    have CW1 := sl.hid (CW0.out.trans (b1.mono (by show w.heap.size ≤ W0.heap.size; omega)))
    clear b1 kp0_0W0 kp0_1W0 kp1_0W0 kp1_1W0 A0W0 A1W0 CW0
    go_wp2
    go_ret
    exact ⟨rfl, CW1.out⟩
  · have HQ0 := sl.hid (ct.szC_small (by omega) (by omega) hzc0)
    have HT0 := sl.hid (ct.tot_of (by omega) (by omega) hzc0)
    have hzl0 := (ct.szC_bnd (xs := xs0) (left := 1048576) (by omega) hzc0).1
    generalize ct.szC 1048576 xs0 = z0 at *
    have HZ1 := sl.hid (fun W B h => ct.szC1 a1 xs1 f1_0 B (z0) W h hi1.len hi1.short (by omega) (by omega))
    rcases ct.szC_pos (xs := xs1) (left := z0) (by omega) with hzc1 | hzc1
    · rw [hzc1] at HZ1
      clear hzc1 hi0 hi1 ha0 ha1
      go_enter Tryd.func4, Tryd.ntmps4
      go_wp2_with fail
      have bE : Below w.heap.size w ((w.alloc (.cells #[.int .i64 a0, f0_0] 24)).alloc (.cells #[.int .i64 a1, f1_0] 24)) := (((Below.refl w.heap.size w).alloc (by simp) _).alloc (by simp) _)
      have hzW0 : w.heap.size + 2 ≤ ((w.alloc (.cells #[.int .i64 a0, f0_0] 24)).alloc (.cells #[.int .i64 a1, f1_0] 24)).heap.size := by simp
      have kp0_0W0 : ((w.alloc (.cells #[.int .i64 a0, f0_0] 24)).alloc (.cells #[.int .i64 a1, f1_0] 24)).cell? ⟨w.heap.size, 0, none⟩ = some (.int .i64 a0) := (World.cell?_alloc_past _ _ _ (by first | (simp; done) | (simp; omega))).trans (World.cell?_alloc_at _ _ _ _ (by simp))
      have kp0_1W0 : ((w.alloc (.cells #[.int .i64 a0, f0_0] 24)).alloc (.cells #[.int .i64 a1, f1_0] 24)).cell? ⟨w.heap.size, 1, none⟩ = some (f0_0) := (World.cell?_alloc_past _ _ _ (by first | (simp; done) | (simp; omega))).trans (World.cell?_alloc_at _ _ _ _ (by simp))
      have kp1_0W0 : ((w.alloc (.cells #[.int .i64 a0, f0_0] 24)).alloc (.cells #[.int .i64 a1, f1_0] 24)).cell? ⟨w.heap.size + 1, 0, none⟩ = some (.int .i64 a1) := World.cell?_alloc_at _ _ _ _ (by simp)
      have kp1_1W0 : ((w.alloc (.cells #[.int .i64 a0, f0_0] 24)).alloc (.cells #[.int .i64 a1, f1_0] 24)).cell? ⟨w.heap.size + 1, 1, none⟩ = some (f1_0) := World.cell?_alloc_at _ _ _ _ (by simp)
      have A0W0 := sl.hid (HI0.out.chg (sl.Chg.ofBelow (lo := 0) bE) (.inr (Nat.zero_le _)))
      have A1W0 := sl.hid (HI1.out.chg (sl.Chg.ofBelow (lo := 0) bE) (.inr (Nat.zero_le _)))
      have CW0 := sl.hid bE
      clear bE HI0 HI1
      generalize ((w.alloc (.cells #[.int .i64 a0, f0_0] 24)).alloc (.cells #[.int .i64 a1, f1_0] 24)) = W0 at *
      go_wp2_with fail
      refine (HZ0.out W0 _ A0W0.out).mono ?_
      rintro e W2 ⟨rfl, b2⟩
      have hzW2 : W0.heap.size ≤ W2.heap.size := b2.size
      have kp0_0W2 := (b2.cell (p := ⟨w.heap.size, 0, none⟩) (by show w.heap.size < W0.heap.size; omega)).trans kp0_0W0
      have kp0_1W2 := (b2.cell (p := ⟨w.heap.size, 1, none⟩) (by show w.heap.size < W0.heap.size; omega)).trans kp0_1W0
      have kp1_0W2 := (b2.cell (p := ⟨w.heap.size + 1, 0, none⟩) (by show w.heap.size + 1 < W0.heap.size; omega)).trans kp1_0W0
      have kp1_1W2 := (b2.cell (p := ⟨w.heap.size + 1, 1, none⟩) (by show w.heap.size + 1 < W0.heap.size; omega)).trans kp1_1W0
      have A0W2 := sl.hid (A0W0.out.chg (sl.Chg.ofBelow (lo := 0) b2) (.inr (Nat.zero_le _)))
      have A1W2 := sl.hid (A1W0.out.chg (sl.Chg.ofBelow (lo := 0) b2) (.inr (Nat.zero_le _)))
      have CW2 := sl.hid (CW0.out.trans (b2.mono (by show w.heap.size ≤ W0.heap.size; omega)))
      clear b2 kp0_0W0 kp0_1W0 kp1_0W0 kp1_1W0 A0W0 A1W0 CW0
      go_wp2_with fail
      refine (HZ1.out W2 _ A1W2.out).mono ?_
      rintro e W3 ⟨rfl, b3⟩
      have hzW3 : W2.heap.size ≤ W3.heap.size := b3.size
      have kp0_0W3 := (b3.cell (p := ⟨w.heap.size, 0, none⟩) (by show w.heap.size < W2.heap.size; omega)).trans kp0_0W2
      have kp0_1W3 := (b3.cell (p := ⟨w.heap.size, 1, none⟩) (by show w.heap.size < W2.heap.size; omega)).trans kp0_1W2
      have kp1_0W3 := (b3.cell (p := ⟨w.heap.size + 1, 0, none⟩) (by show w.heap.size + 1 < W2.heap.size; omega)).trans kp1_0W2
      have kp1_1W3 := (b3.cell (p := ⟨w.heap.size + 1, 1, none⟩) (by show w.heap.size + 1 < W2.heap.size; omega)).trans kp1_1W2
      have A0W3 := sl.hid (A0W2.out.chg (sl.Chg.ofBelow (lo := 0) b3) (.inr (Nat.zero_le _)))
      have A1W3 := sl.hid (A1W2.out.chg (sl.Chg.ofBelow (lo := 0) b3) (.inr (Nat.zero_le _)))
      have CW3 := sl.hid (CW2.out.trans (b3.mono (by show w.heap.size ≤ W2.heap.size; omega)))
      clear b3 kp0_0W2 kp0_1W2 kp1_0W2 kp1_1W2 A0W2 A1W2 CW2
      go_wp2
      go_ret
      exact ⟨rfl, CW3.out⟩
    · have HQ1 := sl.hid (ct.szC_small (by omega) (by omega) hzc1)
      have HT1 := sl.hid (ct.tot_of (by omega) (by omega) hzc1)
      have hzl1 := (ct.szC_bnd (xs := xs1) (left := z0) (by omega) hzc1).1
      generalize ct.szC z0 xs1 = z1 at *
      have SP : Hid (∀ (g0_0 : Value) (g1_0 : Value) (W : World) (B0 : Nat) (B1 : Nat), cm.InfsN W B0 g0_0 xs0 → B0 ≤ W.heap.size → cm.InfsN W B1 g1_0 xs1 → B1 ≤ W.heap.size → Calls Tryd.prog 12 #[.agg #[.int .i64 a0, g0_0], .agg #[.int .i64 a1, g1_0]] W fun e w' => ∃ ao cap, e = .returned (.tuple #[.agg #[.int .i64 (cy.bsC a0 xs0 a1 xs1), .slice ao (cy.bsR a0 xs0 a1 xs1).length cap], .int .i64 (cy.bsK a0 xs0 a1 xs1)]) ∧ ro.IOwn w' W.heap.size w'.heap.size (.slice ao (cy.bsR a0 xs0 a1 xs1).length cap) (cy.bsR a0 xs0 a1 xs1) ∧ Below W.heap.size W w') := sl.hid (fun g0_0 g1_0 W B0 B1 j0 l0 j1 l1 => cj.sBS a0 xs0 a1 xs1 g0_0 g1_0 B0 B1 W j0 l0 j1 l1 HQ0.out HQ1.out )
      have IP : Hid (∀ (g0_0 : Value) (g1_0 : Value) (W : World) (B0 : Nat) (B1 : Nat), Below w.heap.size w W → cm.InfsN W B0 g0_0 xs0 → B0 ≤ W.heap.size → cm.InfsN W B1 g1_0 xs1 → B1 ≤ W.heap.size → Calls Tryd.prog 13 #[.agg #[.int .i64 a0, g0_0], .agg #[.int .i64 a1, g1_0]] W fun e w' => ∃ ao cap, e = .returned (.tuple #[.agg #[.int .i64 (cy.bsC a0 xs0 a1 xs1), .slice ao (cy.bsR a0 xs0 a1 xs1).length cap], .int .i64 (cy.bsK a0 xs0 a1 xs1)]) ∧ ro.IOwn w' W.heap.size w'.heap.size (.slice ao (cy.bsR a0 xs0 a1 xs1).length cap) (cy.bsR a0 xs0 a1 xs1) ∧ Below W.heap.size W w') := sl.hid (fun g0_0 g1_0 W B0 B1 bw j0 l0 j1 l1 => cj.iBS a0 xs0 a1 xs1 g0_0 g1_0 B0 B1 W j0 l0 j1 l1 HQ0.out HQ1.out  (stb.carry HTb.out bw))
      obtain ⟨hr, htt⟩ := cy.bs_tot a0 xs0 a1 xs1
      generalize cy.bsR a0 xs0 a1 xs1 = zr at *
      generalize cy.bsC a0 xs0 a1 xs1 = sr at *
      generalize cy.bsK a0 xs0 a1 xs1 = q1 at *
      clear hi0 hi1 ha0 ha1
      go_enter Tryd.func4, Tryd.ntmps4
      go_wp2_with fail
      have bE : Below w.heap.size w ((w.alloc (.cells #[.int .i64 a0, f0_0] 24)).alloc (.cells #[.int .i64 a1, f1_0] 24)) := (((Below.refl w.heap.size w).alloc (by simp) _).alloc (by simp) _)
      have hzW0 : w.heap.size + 2 ≤ ((w.alloc (.cells #[.int .i64 a0, f0_0] 24)).alloc (.cells #[.int .i64 a1, f1_0] 24)).heap.size := by simp
      have kp0_0W0 : ((w.alloc (.cells #[.int .i64 a0, f0_0] 24)).alloc (.cells #[.int .i64 a1, f1_0] 24)).cell? ⟨w.heap.size, 0, none⟩ = some (.int .i64 a0) := (World.cell?_alloc_past _ _ _ (by first | (simp; done) | (simp; omega))).trans (World.cell?_alloc_at _ _ _ _ (by simp))
      have kp0_1W0 : ((w.alloc (.cells #[.int .i64 a0, f0_0] 24)).alloc (.cells #[.int .i64 a1, f1_0] 24)).cell? ⟨w.heap.size, 1, none⟩ = some (f0_0) := (World.cell?_alloc_past _ _ _ (by first | (simp; done) | (simp; omega))).trans (World.cell?_alloc_at _ _ _ _ (by simp))
      have kp1_0W0 : ((w.alloc (.cells #[.int .i64 a0, f0_0] 24)).alloc (.cells #[.int .i64 a1, f1_0] 24)).cell? ⟨w.heap.size + 1, 0, none⟩ = some (.int .i64 a1) := World.cell?_alloc_at _ _ _ _ (by simp)
      have kp1_1W0 : ((w.alloc (.cells #[.int .i64 a0, f0_0] 24)).alloc (.cells #[.int .i64 a1, f1_0] 24)).cell? ⟨w.heap.size + 1, 1, none⟩ = some (f1_0) := World.cell?_alloc_at _ _ _ _ (by simp)
      have A0W0 := sl.hid (HI0.out.chg (sl.Chg.ofBelow (lo := 0) bE) (.inr (Nat.zero_le _)))
      have A1W0 := sl.hid (HI1.out.chg (sl.Chg.ofBelow (lo := 0) bE) (.inr (Nat.zero_le _)))
      have CW0 := sl.hid bE
      clear bE HI0 HI1
      generalize ((w.alloc (.cells #[.int .i64 a0, f0_0] 24)).alloc (.cells #[.int .i64 a1, f1_0] 24)) = W0 at *
      go_wp2_with fail
      refine (HZ0.out W0 _ A0W0.out).mono ?_
      rintro e W4 ⟨rfl, b4⟩
      have hzW4 : W0.heap.size ≤ W4.heap.size := b4.size
      have kp0_0W4 := (b4.cell (p := ⟨w.heap.size, 0, none⟩) (by show w.heap.size < W0.heap.size; omega)).trans kp0_0W0
      have kp0_1W4 := (b4.cell (p := ⟨w.heap.size, 1, none⟩) (by show w.heap.size < W0.heap.size; omega)).trans kp0_1W0
      have kp1_0W4 := (b4.cell (p := ⟨w.heap.size + 1, 0, none⟩) (by show w.heap.size + 1 < W0.heap.size; omega)).trans kp1_0W0
      have kp1_1W4 := (b4.cell (p := ⟨w.heap.size + 1, 1, none⟩) (by show w.heap.size + 1 < W0.heap.size; omega)).trans kp1_1W0
      have A0W4 := sl.hid (A0W0.out.chg (sl.Chg.ofBelow (lo := 0) b4) (.inr (Nat.zero_le _)))
      have A1W4 := sl.hid (A1W0.out.chg (sl.Chg.ofBelow (lo := 0) b4) (.inr (Nat.zero_le _)))
      have CW4 := sl.hid (CW0.out.trans (b4.mono (by show w.heap.size ≤ W0.heap.size; omega)))
      clear b4 kp0_0W0 kp0_1W0 kp1_0W0 kp1_1W0 A0W0 A1W0 CW0
      go_wp2_with fail
      refine (HZ1.out W4 _ A1W4.out).mono ?_
      rintro e W5 ⟨rfl, b5⟩
      have hzW5 : W4.heap.size ≤ W5.heap.size := b5.size
      have kp0_0W5 := (b5.cell (p := ⟨w.heap.size, 0, none⟩) (by show w.heap.size < W4.heap.size; omega)).trans kp0_0W4
      have kp0_1W5 := (b5.cell (p := ⟨w.heap.size, 1, none⟩) (by show w.heap.size < W4.heap.size; omega)).trans kp0_1W4
      have kp1_0W5 := (b5.cell (p := ⟨w.heap.size + 1, 0, none⟩) (by show w.heap.size + 1 < W4.heap.size; omega)).trans kp1_0W4
      have kp1_1W5 := (b5.cell (p := ⟨w.heap.size + 1, 1, none⟩) (by show w.heap.size + 1 < W4.heap.size; omega)).trans kp1_1W4
      have A0W5 := sl.hid (A0W4.out.chg (sl.Chg.ofBelow (lo := 0) b5) (.inr (Nat.zero_le _)))
      have A1W5 := sl.hid (A1W4.out.chg (sl.Chg.ofBelow (lo := 0) b5) (.inr (Nat.zero_le _)))
      have CW5 := sl.hid (CW4.out.trans (b5.mono (by show w.heap.size ≤ W4.heap.size; omega)))
      clear b5 kp0_0W4 kp0_1W4 kp1_0W4 kp1_1W4 A0W4 A1W4 CW4
      go_upto_region 8 with fail
      have HKW5 : Hid (cj.Kc w W5 a0 a1 f0_0 xs0 f1_0 xs1 W5) := sl.hid ⟨⟨A0W5.out, A1W5.out, Nat.le_refl _, Below.refl _ _⟩, by omega, kp0_0W5, kp0_1W5, kp1_0W5, kp1_1W5⟩
      have TB0W5 : Hid (∀ W : World, cj.Kc w W5 a0 a1 f0_0 xs0 f1_0 xs1 W → Calls Tryd.prog 7 #[.agg #[.int .i64 a0, f0_0]] W fun e W' => ∃ f', e = .returned (.agg #[.int .i64 a0, f']) ∧ cj.Ic W' f' xs0 ∧ (∃ ao cap, f' = .slice ao xs0.length cap) ∧ Below W.heap.size W W') := sl.hid (fun W k => cj.toCq a0 _ xs0 HQ0.out W _ k.1.1 (by have := k.1.2.2.1; have := k.2.1; omega))
      have TB1W5 : Hid (∀ W : World, cj.Kc w W5 a0 a1 f0_0 xs0 f1_0 xs1 W → Calls Tryd.prog 7 #[.agg #[.int .i64 a1, f1_0]] W fun e W' => ∃ f', e = .returned (.agg #[.int .i64 a1, f']) ∧ cj.Ic W' f' xs1 ∧ (∃ ao cap, f' = .slice ao xs1.length cap) ∧ Below W.heap.size W W') := sl.hid (fun W k => cj.toCq a1 _ xs1 HQ1.out W _ k.1.2.1 (by have := k.1.2.2.1; have := k.2.1; omega))
      have JPW5 : Hid (∀ (W : World) (u0 u1 : Value), cj.Ic W u0 xs0 → cj.Ic W u1 xs1 → cj.Kc w W5 a0 a1 f0_0 xs0 f1_0 xs1 W → Calls Tryd.prog 12 #[.agg #[.int .i64 a0, u0], .agg #[.int .i64 a1, u1]] W fun e W' => ∃ ao cap, e = .returned (.tuple #[.agg #[.int .i64 sr, .slice ao zr.length cap], .int .i64 q1]) ∧ ro.IOwn W' W.heap.size W'.heap.size (.slice ao zr.length cap) zr ∧ Below W.heap.size W W') := sl.hid (fun W u0 u1 i0 i1 k => by
        obtain ⟨C0, l0, i0⟩ := i0
        obtain ⟨C1, l1, i1⟩ := i1
        refine (SP.out u0 u1 W C0 C1 i0 l0 i1 l1).mono ?_
        rintro e W2 ⟨ao, cap, rfl, o, b⟩
        exact ⟨ao, cap, rfl, o, b⟩)
      have hl0W5 : w.heap.size < W5.heap.size := by omega
      have hl1W5 : w.heap.size + 1 < W5.heap.size := by omega
      go_cut [6, 7] from 27 to 34 (fun p q wc => ∃ (g : Nat) (ao : Option Addr) (cap : Nat), p = .pointer (some ⟨g, 0, none⟩) ∧ q = .int .i64 q1 ∧ cj.Rc W5 sr zr g ao cap wc)
      case first =>
        go_region_held3 (fun w' => w'.cell? ⟨w.heap.size, 0, none⟩ = some (.int .i64 a0) ∧ w'.cell? ⟨w.heap.size, 1, none⟩ = some (f0_0) ∧ w'.cell? ⟨w.heap.size + 1, 0, none⟩ = some (.int .i64 a1) ∧ w'.cell? ⟨w.heap.size + 1, 1, none⟩ = some (f1_0)) (first | (go_keep; done) | (refine ⟨(cj.keep2 (by omega)).trans ?_, (cj.keep2 (by omega)).trans ?_, (cj.keep2 (by omega)).trans ?_, (cj.keep2 (by omega)).trans ?_⟩ <;> assumption)) (first
          | (go_at_call_of 7 (Value.agg #[.int .i64 a0, f0_0])
             have hchk := HIc1
             refine (TB0W5.out _ ?_).mono ?_
             · (first | exact HKA.out | exact HKA.out.drew | exact HKA.out.alloc _ | exact (HKA.out.alloc _).drew | exact (HKA.out.drew).alloc _)
             rintro e Y2 ⟨fc0, rfl, ic0, ⟨aoc0, capc0, rfl⟩, bB⟩
             have HKB := sl.hid ((show cj.Kc w W5 a0 a1 f0_0 xs0 f1_0 xs1 _ from by (first | exact HKA.out | exact HKA.out.drew | exact HKA.out.alloc _ | exact (HKA.out.alloc _).drew | exact (HKA.out.drew).alloc _)).below bB)
             have HJ0 := sl.hid ic0
             have HJ1 := sl.hid ((show cj.Ic _ (.slice aoc1 xs1.length capc1) xs1 from by (first | exact HIc1.out | exact HIc1.out.drew | exact HIc1.out.alloc _ | exact (HIc1.out.alloc _).drew | exact (HIc1.out.drew).alloc _)).below bB)
             obtain ⟨hcB, hfB⟩ := br.bcell bB
             have hzB := bB.size
             obtain ⟨pB0, pB1, pB2, pB3⟩ := HKB.out.2.2
             try simp at hcB
             try simp at hfB
             try simp at hzB
             have hl0B : w.heap.size < Y2.heap.size := by omega
             have hl1B : w.heap.size + 1 < Y2.heap.size := by omega
             have hyB : Y1.heap.size ≤ Y2.heap.size := by first | exact hzB | omega
             try have qB0 : W5.heap.size < Y2.heap.size := by omega
             try have qB1 : Y1.heap.size < Y2.heap.size := by omega
             clear ic0 HIc1 bB hchk)
          | (go_at_call_of 7 (Value.agg #[.int .i64 a1, f1_0])
             have hchk := HIc0
             refine (TB1W5.out _ ?_).mono ?_
             · (first | exact HKA.out | exact HKA.out.drew | exact HKA.out.alloc _ | exact (HKA.out.alloc _).drew | exact (HKA.out.drew).alloc _)
             rintro e Y2 ⟨fc1, rfl, ic1, ⟨aoc1, capc1, rfl⟩, bB⟩
             have HKB := sl.hid ((show cj.Kc w W5 a0 a1 f0_0 xs0 f1_0 xs1 _ from by (first | exact HKA.out | exact HKA.out.drew | exact HKA.out.alloc _ | exact (HKA.out.alloc _).drew | exact (HKA.out.drew).alloc _)).below bB)
             have HJ1 := sl.hid ic1
             have HJ0 := sl.hid ((show cj.Ic _ (.slice aoc0 xs0.length capc0) xs0 from by (first | exact HIc0.out | exact HIc0.out.drew | exact HIc0.out.alloc _ | exact (HIc0.out.alloc _).drew | exact (HIc0.out.drew).alloc _)).below bB)
             obtain ⟨hcB, hfB⟩ := br.bcell bB
             have hzB := bB.size
             obtain ⟨pB0, pB1, pB2, pB3⟩ := HKB.out.2.2
             try simp at hcB
             try simp at hfB
             try simp at hzB
             have hl0B : w.heap.size < Y2.heap.size := by omega
             have hl1B : w.heap.size + 1 < Y2.heap.size := by omega
             have hyB : Y1.heap.size ≤ Y2.heap.size := by first | exact hzB | omega
             try have qB0 : W5.heap.size < Y2.heap.size := by omega
             try have qB1 : Y1.heap.size < Y2.heap.size := by omega
             clear ic1 HIc0 bB hchk)
          | (go_at_call_of 7 (Value.agg #[.int .i64 a0, f0_0])
             refine (TB0W5.out _ ?_).mono ?_
             · (first | exact HKW5.out | exact HKW5.out.drew | exact HKW5.out.alloc _ | exact (HKW5.out.alloc _).drew | exact (HKW5.out.drew).alloc _)
             rintro e Y1 ⟨fc0, rfl, ic0, ⟨aoc0, capc0, rfl⟩, bA⟩
             have HKA := sl.hid ((show cj.Kc w W5 a0 a1 f0_0 xs0 f1_0 xs1 _ from by (first | exact HKW5.out | exact HKW5.out.drew | exact HKW5.out.alloc _ | exact (HKW5.out.alloc _).drew | exact (HKW5.out.drew).alloc _)).below bA)
             have HIc0 := sl.hid ic0
             obtain ⟨hcA, hfA⟩ := br.bcell bA
             have hzA := bA.size
             obtain ⟨pA0, pA1, pA2, pA3⟩ := HKA.out.2.2
             try simp at hcA
             try simp at hfA
             try simp at hzA
             have hl0A : w.heap.size < Y1.heap.size := by omega
             have hl1A : w.heap.size + 1 < Y1.heap.size := by omega
             have hyA : W5.heap.size ≤ Y1.heap.size := by first | exact hzA | omega
             try have qA0 : W5.heap.size < Y1.heap.size := by omega
             clear ic0 bA)
          | (go_at_call_of 7 (Value.agg #[.int .i64 a1, f1_0])
             refine (TB1W5.out _ ?_).mono ?_
             · (first | exact HKW5.out | exact HKW5.out.drew | exact HKW5.out.alloc _ | exact (HKW5.out.alloc _).drew | exact (HKW5.out.drew).alloc _)
             rintro e Y1 ⟨fc1, rfl, ic1, ⟨aoc1, capc1, rfl⟩, bA⟩
             have HKA := sl.hid ((show cj.Kc w W5 a0 a1 f0_0 xs0 f1_0 xs1 _ from by (first | exact HKW5.out | exact HKW5.out.drew | exact HKW5.out.alloc _ | exact (HKW5.out.alloc _).drew | exact (HKW5.out.drew).alloc _)).below bA)
             have HIc1 := sl.hid ic1
             obtain ⟨hcA, hfA⟩ := br.bcell bA
             have hzA := bA.size
             obtain ⟨pA0, pA1, pA2, pA3⟩ := HKA.out.2.2
             try simp at hcA
             try simp at hfA
             try simp at hzA
             have hl0A : w.heap.size < Y1.heap.size := by omega
             have hl1A : w.heap.size + 1 < Y1.heap.size := by omega
             have hyA : W5.heap.size ≤ Y1.heap.size := by first | exact hzA | omega
             try have qA0 : W5.heap.size < Y1.heap.size := by omega
             clear ic1 bA)
          | (go_at_call 12
             refine (JPW5.out _ _ _ ?_ ?_ ?_).mono ?_
             · (first | exact HJ0.out | exact HJ0.out.drew | exact HJ0.out.alloc _ | exact (HJ0.out.alloc _).drew | exact (HJ0.out.drew).alloc _)
             · (first | exact HJ1.out | exact HJ1.out.drew | exact HJ1.out.alloc _ | exact (HJ1.out.alloc _).drew | exact (HJ1.out.drew).alloc _)
             · (first | exact HKB.out | exact HKB.out.drew | exact HKB.out.alloc _ | exact (HKB.out.alloc _).drew | exact (HKB.out.drew).alloc _)
             rintro e Y3 ⟨aor, capr, rfl, oR, bC⟩
             have HKC := sl.hid ((show cj.Kc w W5 a0 a1 f0_0 xs0 f1_0 xs1 _ from by (first | exact HKB.out | exact HKB.out.drew | exact HKB.out.alloc _ | exact (HKB.out.alloc _).drew | exact (HKB.out.drew).alloc _)).below bC)
             have HO := sl.hid oR
             obtain ⟨hcC, hfC⟩ := br.bcell bC
             have hzC := bC.size
             obtain ⟨pC0, pC1, pC2, pC3⟩ := HKC.out.2.2
             try simp at hcC
             try simp at hfC
             try simp at hzC
             have hl0C : w.heap.size < Y3.heap.size := by omega
             have hl1C : w.heap.size + 1 < Y3.heap.size := by omega
             have hyC : Y2.heap.size ≤ Y3.heap.size := by first | exact hzC | omega
             try have qC0 : W5.heap.size < Y3.heap.size := by omega
             try have qC1 : Y1.heap.size < Y3.heap.size := by omega
             try have qC2 : Y2.heap.size < Y3.heap.size := by omega
             clear oR bC)
          )
        all_goals
          go_wp2_with fail
          go_meet
          first
            | exact ⟨_, aor, capr, rfl, rfl, cj.meetA HKC.out.1.2.2.2 HO.out (by first | omega | (simp; done) | (simp; omega))⟩
            | exact ⟨_, aor, capr, rfl, rfl, cj.meetB HKC.out.1.2.2.2 HO.out (by first | omega | (simp; done) | (simp; omega)) Y2.heap.size (by omega) (by first | omega | (simp; done) | (simp; omega)) (by omega) ((hcC _ _ (by omega)).trans (World.cell?_alloc_at _ _ _ _ rfl)) ((hcC _ _ (by omega)).trans (World.cell?_alloc_at _ _ _ _ rfl))⟩
            | exact ⟨_, aor, capr, rfl, rfl, cj.meetB HKC.out.1.2.2.2 HO.out (by first | omega | (simp; done) | (simp; omega)) Y1.heap.size (by omega) (by first | omega | (simp; done) | (simp; omega)) (by omega) ((hcC _ _ (by omega)).trans ((hcB _ _ (by omega)).trans (World.cell?_alloc_at _ _ _ _ rfl))) ((hcC _ _ (by omega)).trans ((hcB _ _ (by omega)).trans (World.cell?_alloc_at _ _ _ _ rfl)))⟩
            | exact ⟨_, aor, capr, rfl, rfl, cj.meetB HKC.out.1.2.2.2 HO.out (by first | omega | (simp; done) | (simp; omega)) W5.heap.size (by omega) (by first | omega | (simp; done) | (simp; omega)) (by omega) ((hcC _ _ (by omega)).trans ((hcB _ _ (by omega)).trans ((hcA _ _ (by omega)).trans (World.cell?_alloc_at _ _ _ _ rfl)))) ((hcC _ _ (by omega)).trans ((hcB _ _ (by omega)).trans ((hcA _ _ (by omega)).trans (World.cell?_alloc_at _ _ _ _ rfl))))⟩
      case rest =>
        obtain ⟨g6, ao6, cap6, rfl, rfl, c06, c16, o6, hg6, hk6, b6⟩ := hcut
        generalize wc = W6 at *
        have On6 := sl.hid o6
        clear o6
        have hzW6 : W5.heap.size ≤ W6.heap.size := b6.size
        have kp0_0W6 := (b6.cell (p := ⟨w.heap.size, 0, none⟩) (by show w.heap.size < W5.heap.size; omega)).trans kp0_0W5
        have kp0_1W6 := (b6.cell (p := ⟨w.heap.size, 1, none⟩) (by show w.heap.size < W5.heap.size; omega)).trans kp0_1W5
        have kp1_0W6 := (b6.cell (p := ⟨w.heap.size + 1, 0, none⟩) (by show w.heap.size + 1 < W5.heap.size; omega)).trans kp1_0W5
        have kp1_1W6 := (b6.cell (p := ⟨w.heap.size + 1, 1, none⟩) (by show w.heap.size + 1 < W5.heap.size; omega)).trans kp1_1W5
        have A0W6 := sl.hid (A0W5.out.chg (sl.Chg.ofBelow (lo := 0) b6) (.inr (Nat.zero_le _)))
        have A1W6 := sl.hid (A1W5.out.chg (sl.Chg.ofBelow (lo := 0) b6) (.inr (Nat.zero_le _)))
        have CW6 := sl.hid (CW5.out.trans (b6.mono (by show w.heap.size ≤ W5.heap.size; omega)))
        clear b6 kp0_0W5 kp0_1W5 kp1_0W5 kp1_1W5 A0W5 A1W5 CW5 HKW5 TB0W5 TB1W5 JPW5
        go_wp2_with fail
        refine (ct.toC a0 xs0 f0_0 _ W6 A0W6.out (by omega) HQ0.out).mono ?_
        rintro e W7 ⟨f0_0_7, rfl, o7, b7⟩
        obtain ⟨ao7_0, ln7_0, cp7_0, rfl⟩ := ct.cval o7
        have On7 := sl.hid o7
        clear o7
        have hzW7 : W6.heap.size ≤ W7.heap.size := b7.size
        have kp0_0W7 := (b7.cell (p := ⟨w.heap.size, 0, none⟩) (by show w.heap.size < W6.heap.size; omega)).trans kp0_0W6
        have kp0_1W7 := (b7.cell (p := ⟨w.heap.size, 1, none⟩) (by show w.heap.size < W6.heap.size; omega)).trans kp0_1W6
        have kp1_0W7 := (b7.cell (p := ⟨w.heap.size + 1, 0, none⟩) (by show w.heap.size + 1 < W6.heap.size; omega)).trans kp1_0W6
        have kp1_1W7 := (b7.cell (p := ⟨w.heap.size + 1, 1, none⟩) (by show w.heap.size + 1 < W6.heap.size; omega)).trans kp1_1W6
        have kbr_0W7 := (b7.cell (p := ⟨g6, 0, none⟩) (by show g6 < W6.heap.size; omega)).trans c06
        have kbr_1W7 := (b7.cell (p := ⟨g6, 1, none⟩) (by show g6 < W6.heap.size; omega)).trans c16
        have A0W7 := sl.hid (A0W6.out.chg (sl.Chg.ofBelow (lo := 0) b7) (.inr (Nat.zero_le _)))
        have A1W7 := sl.hid (A1W6.out.chg (sl.Chg.ofBelow (lo := 0) b7) (.inr (Nat.zero_le _)))
        have OrW7 := sl.hid (On6.out.chg (sl.Chg.ofBelow (lo := 0) b7) (.inr (.inr (Nat.zero_le _))))
        have CW7 := sl.hid (CW6.out.trans (b7.mono (by show w.heap.size ≤ W6.heap.size; omega)))
        clear b7 kp0_0W6 kp0_1W6 kp1_0W6 kp1_1W6 c06 c16 A0W6 A1W6 On6 CW6
        have bE : Below W7.heap.size W7 (W7.alloc (.cells #[.int .i64 a0, .slice ao7_0 ln7_0 cp7_0] 28)) := (Below.refl _ _).alloc (Nat.le_refl _) _
        have kx0_0W8 : (W7.alloc (.cells #[.int .i64 a0, .slice ao7_0 ln7_0 cp7_0] 28)).cell? ⟨W7.heap.size, 0, none⟩ = some (.int .i64 a0) := World.cell?_alloc_at _ _ _ _ rfl
        have kx0_1W8 : (W7.alloc (.cells #[.int .i64 a0, .slice ao7_0 ln7_0 cp7_0] 28)).cell? ⟨W7.heap.size, 1, none⟩ = some (.slice ao7_0 ln7_0 cp7_0) := World.cell?_alloc_at _ _ _ _ rfl
        have hsW8 : W7.heap.size < (W7.alloc (.cells #[.int .i64 a0, .slice ao7_0 ln7_0 cp7_0] 28)).heap.size := by simp
        have hzW8 : W7.heap.size ≤ (W7.alloc (.cells #[.int .i64 a0, .slice ao7_0 ln7_0 cp7_0] 28)).heap.size := bE.size
        have kp0_0W8 := (bE.cell (p := ⟨w.heap.size, 0, none⟩) (by show w.heap.size < W7.heap.size; omega)).trans kp0_0W7
        have kp0_1W8 := (bE.cell (p := ⟨w.heap.size, 1, none⟩) (by show w.heap.size < W7.heap.size; omega)).trans kp0_1W7
        have kp1_0W8 := (bE.cell (p := ⟨w.heap.size + 1, 0, none⟩) (by show w.heap.size + 1 < W7.heap.size; omega)).trans kp1_0W7
        have kp1_1W8 := (bE.cell (p := ⟨w.heap.size + 1, 1, none⟩) (by show w.heap.size + 1 < W7.heap.size; omega)).trans kp1_1W7
        have kbr_0W8 := (bE.cell (p := ⟨g6, 0, none⟩) (by show g6 < W7.heap.size; omega)).trans kbr_0W7
        have kbr_1W8 := (bE.cell (p := ⟨g6, 1, none⟩) (by show g6 < W7.heap.size; omega)).trans kbr_1W7
        have A0W8 := sl.hid (A0W7.out.chg (sl.Chg.ofBelow (lo := 0) bE) (.inr (Nat.zero_le _)))
        have A1W8 := sl.hid (A1W7.out.chg (sl.Chg.ofBelow (lo := 0) bE) (.inr (Nat.zero_le _)))
        have OrW8 := sl.hid (OrW7.out.chg (sl.Chg.ofBelow (lo := 0) bE) (.inr (.inr (Nat.zero_le _))))
        have Ox0W8 := sl.hid (On7.out.chg (sl.Chg.ofBelow (lo := 0) bE) (.inr (.inr (Nat.zero_le _))))
        have CW8 := sl.hid (CW7.out.trans (bE.mono (by show w.heap.size ≤ W7.heap.size; omega)))
        clear bE kp0_0W7 kp0_1W7 kp1_0W7 kp1_1W7 kbr_0W7 kbr_1W7 A0W7 A1W7 OrW7 On7 CW7
        go_wp2_with fail
        generalize (W7.alloc (.cells #[.int .i64 a0, .slice ao7_0 ln7_0 cp7_0] 28)) = W8 at *
        refine (ct.toC a1 xs1 f1_0 _ W8 A1W8.out (by omega) HQ1.out).mono ?_
        rintro e W9 ⟨f1_0_9, rfl, o9, b9⟩
        obtain ⟨ao9_0, ln9_0, cp9_0, rfl⟩ := ct.cval o9
        have On9 := sl.hid o9
        clear o9
        have hzW9 : W8.heap.size ≤ W9.heap.size := b9.size
        have kp0_0W9 := (b9.cell (p := ⟨w.heap.size, 0, none⟩) (by show w.heap.size < W8.heap.size; omega)).trans kp0_0W8
        have kp0_1W9 := (b9.cell (p := ⟨w.heap.size, 1, none⟩) (by show w.heap.size < W8.heap.size; omega)).trans kp0_1W8
        have kp1_0W9 := (b9.cell (p := ⟨w.heap.size + 1, 0, none⟩) (by show w.heap.size + 1 < W8.heap.size; omega)).trans kp1_0W8
        have kp1_1W9 := (b9.cell (p := ⟨w.heap.size + 1, 1, none⟩) (by show w.heap.size + 1 < W8.heap.size; omega)).trans kp1_1W8
        have kbr_0W9 := (b9.cell (p := ⟨g6, 0, none⟩) (by show g6 < W8.heap.size; omega)).trans kbr_0W8
        have kbr_1W9 := (b9.cell (p := ⟨g6, 1, none⟩) (by show g6 < W8.heap.size; omega)).trans kbr_1W8
        have kx0_0W9 := (b9.cell (p := ⟨W7.heap.size, 0, none⟩) (by show W7.heap.size < W8.heap.size; omega)).trans kx0_0W8
        have kx0_1W9 := (b9.cell (p := ⟨W7.heap.size, 1, none⟩) (by show W7.heap.size < W8.heap.size; omega)).trans kx0_1W8
        have A0W9 := sl.hid (A0W8.out.chg (sl.Chg.ofBelow (lo := 0) b9) (.inr (Nat.zero_le _)))
        have A1W9 := sl.hid (A1W8.out.chg (sl.Chg.ofBelow (lo := 0) b9) (.inr (Nat.zero_le _)))
        have OrW9 := sl.hid (OrW8.out.chg (sl.Chg.ofBelow (lo := 0) b9) (.inr (.inr (Nat.zero_le _))))
        have Ox0W9 := sl.hid (Ox0W8.out.chg (sl.Chg.ofBelow (lo := 0) b9) (.inr (.inr (Nat.zero_le _))))
        have CW9 := sl.hid (CW8.out.trans (b9.mono (by show w.heap.size ≤ W8.heap.size; omega)))
        clear b9 kp0_0W8 kp0_1W8 kp1_0W8 kp1_1W8 kbr_0W8 kbr_1W8 kx0_0W8 kx0_1W8 A0W8 A1W8 OrW8 Ox0W8 CW8
        have bE : Below W9.heap.size W9 (W9.alloc (.cells #[.int .i64 a1, .slice ao9_0 ln9_0 cp9_0] 28)) := (Below.refl _ _).alloc (Nat.le_refl _) _
        have kx1_0W10 : (W9.alloc (.cells #[.int .i64 a1, .slice ao9_0 ln9_0 cp9_0] 28)).cell? ⟨W9.heap.size, 0, none⟩ = some (.int .i64 a1) := World.cell?_alloc_at _ _ _ _ rfl
        have kx1_1W10 : (W9.alloc (.cells #[.int .i64 a1, .slice ao9_0 ln9_0 cp9_0] 28)).cell? ⟨W9.heap.size, 1, none⟩ = some (.slice ao9_0 ln9_0 cp9_0) := World.cell?_alloc_at _ _ _ _ rfl
        have hsW10 : W9.heap.size < (W9.alloc (.cells #[.int .i64 a1, .slice ao9_0 ln9_0 cp9_0] 28)).heap.size := by simp
        have hzW10 : W9.heap.size ≤ (W9.alloc (.cells #[.int .i64 a1, .slice ao9_0 ln9_0 cp9_0] 28)).heap.size := bE.size
        have kp0_0W10 := (bE.cell (p := ⟨w.heap.size, 0, none⟩) (by show w.heap.size < W9.heap.size; omega)).trans kp0_0W9
        have kp0_1W10 := (bE.cell (p := ⟨w.heap.size, 1, none⟩) (by show w.heap.size < W9.heap.size; omega)).trans kp0_1W9
        have kp1_0W10 := (bE.cell (p := ⟨w.heap.size + 1, 0, none⟩) (by show w.heap.size + 1 < W9.heap.size; omega)).trans kp1_0W9
        have kp1_1W10 := (bE.cell (p := ⟨w.heap.size + 1, 1, none⟩) (by show w.heap.size + 1 < W9.heap.size; omega)).trans kp1_1W9
        have kbr_0W10 := (bE.cell (p := ⟨g6, 0, none⟩) (by show g6 < W9.heap.size; omega)).trans kbr_0W9
        have kbr_1W10 := (bE.cell (p := ⟨g6, 1, none⟩) (by show g6 < W9.heap.size; omega)).trans kbr_1W9
        have kx0_0W10 := (bE.cell (p := ⟨W7.heap.size, 0, none⟩) (by show W7.heap.size < W9.heap.size; omega)).trans kx0_0W9
        have kx0_1W10 := (bE.cell (p := ⟨W7.heap.size, 1, none⟩) (by show W7.heap.size < W9.heap.size; omega)).trans kx0_1W9
        have A0W10 := sl.hid (A0W9.out.chg (sl.Chg.ofBelow (lo := 0) bE) (.inr (Nat.zero_le _)))
        have A1W10 := sl.hid (A1W9.out.chg (sl.Chg.ofBelow (lo := 0) bE) (.inr (Nat.zero_le _)))
        have OrW10 := sl.hid (OrW9.out.chg (sl.Chg.ofBelow (lo := 0) bE) (.inr (.inr (Nat.zero_le _))))
        have Ox0W10 := sl.hid (Ox0W9.out.chg (sl.Chg.ofBelow (lo := 0) bE) (.inr (.inr (Nat.zero_le _))))
        have Ox1W10 := sl.hid (On9.out.chg (sl.Chg.ofBelow (lo := 0) bE) (.inr (.inr (Nat.zero_le _))))
        have CW10 := sl.hid (CW9.out.trans (bE.mono (by show w.heap.size ≤ W9.heap.size; omega)))
        clear bE kp0_0W9 kp0_1W9 kp1_0W9 kp1_1W9 kbr_0W9 kbr_1W9 kx0_0W9 kx0_1W9 A0W9 A1W9 OrW9 Ox0W9 On9 CW9
        go_wp2_with fail
        generalize (W9.alloc (.cells #[.int .i64 a1, .slice ao9_0 ln9_0 cp9_0] 28)) = W10 at *
        refine (IP.out _ _ W10 _ _ CW10.out Ox0W10.out.infsN (by omega) Ox1W10.out.infsN (by omega)).mono ?_
        rintro e W11 ⟨ao11, cap11, rfl, o11, b11⟩
        have hzW11 : W10.heap.size ≤ W11.heap.size := b11.size
        have kp0_0W11 := (b11.cell (p := ⟨w.heap.size, 0, none⟩) (by show w.heap.size < W10.heap.size; omega)).trans kp0_0W10
        have kp0_1W11 := (b11.cell (p := ⟨w.heap.size, 1, none⟩) (by show w.heap.size < W10.heap.size; omega)).trans kp0_1W10
        have kp1_0W11 := (b11.cell (p := ⟨w.heap.size + 1, 0, none⟩) (by show w.heap.size + 1 < W10.heap.size; omega)).trans kp1_0W10
        have kp1_1W11 := (b11.cell (p := ⟨w.heap.size + 1, 1, none⟩) (by show w.heap.size + 1 < W10.heap.size; omega)).trans kp1_1W10
        have kbr_0W11 := (b11.cell (p := ⟨g6, 0, none⟩) (by show g6 < W10.heap.size; omega)).trans kbr_0W10
        have kbr_1W11 := (b11.cell (p := ⟨g6, 1, none⟩) (by show g6 < W10.heap.size; omega)).trans kbr_1W10
        have kx0_0W11 := (b11.cell (p := ⟨W7.heap.size, 0, none⟩) (by show W7.heap.size < W10.heap.size; omega)).trans kx0_0W10
        have kx0_1W11 := (b11.cell (p := ⟨W7.heap.size, 1, none⟩) (by show W7.heap.size < W10.heap.size; omega)).trans kx0_1W10
        have kx1_0W11 := (b11.cell (p := ⟨W9.heap.size, 0, none⟩) (by show W9.heap.size < W10.heap.size; omega)).trans kx1_0W10
        have kx1_1W11 := (b11.cell (p := ⟨W9.heap.size, 1, none⟩) (by show W9.heap.size < W10.heap.size; omega)).trans kx1_1W10
        have A0W11 := sl.hid (A0W10.out.chg (sl.Chg.ofBelow (lo := 0) b11) (.inr (Nat.zero_le _)))
        have A1W11 := sl.hid (A1W10.out.chg (sl.Chg.ofBelow (lo := 0) b11) (.inr (Nat.zero_le _)))
        have OrW11 := sl.hid (OrW10.out.chg (sl.Chg.ofBelow (lo := 0) b11) (.inr (.inr (Nat.zero_le _))))
        have Ox0W11 := sl.hid (Ox0W10.out.chg (sl.Chg.ofBelow (lo := 0) b11) (.inr (.inr (Nat.zero_le _))))
        have Ox1W11 := sl.hid (Ox1W10.out.chg (sl.Chg.ofBelow (lo := 0) b11) (.inr (.inr (Nat.zero_le _))))
        have CW11 := sl.hid (CW10.out.trans (b11.mono (by show w.heap.size ≤ W10.heap.size; omega)))
        have Ovg := sl.hid o11
        clear o11
        clear b11 kp0_0W10 kp0_1W10 kp1_0W10 kp1_1W10 kbr_0W10 kbr_1W10 kx0_0W10 kx0_1W10 kx1_0W10 kx1_1W10 A0W10 A1W10 OrW10 Ox0W10 Ox1W10 CW10
        have bE : Below W11.heap.size W11 (W11.alloc (.cells #[.int .i64 sr, .slice ao11 zr.length cap11] 28)) := (Below.refl _ _).alloc (Nat.le_refl _) _
        have kbg_0W12 : (W11.alloc (.cells #[.int .i64 sr, .slice ao11 zr.length cap11] 28)).cell? ⟨W11.heap.size, 0, none⟩ = some (.int .i64 sr) := World.cell?_alloc_at _ _ _ _ rfl
        have kbg_1W12 : (W11.alloc (.cells #[.int .i64 sr, .slice ao11 zr.length cap11] 28)).cell? ⟨W11.heap.size, 1, none⟩ = some (.slice ao11 zr.length cap11) := World.cell?_alloc_at _ _ _ _ rfl
        have hsW12 : W11.heap.size < (W11.alloc (.cells #[.int .i64 sr, .slice ao11 zr.length cap11] 28)).heap.size := by simp
        have hzW12 : W11.heap.size ≤ (W11.alloc (.cells #[.int .i64 sr, .slice ao11 zr.length cap11] 28)).heap.size := bE.size
        have kp0_0W12 := (bE.cell (p := ⟨w.heap.size, 0, none⟩) (by show w.heap.size < W11.heap.size; omega)).trans kp0_0W11
        have kp0_1W12 := (bE.cell (p := ⟨w.heap.size, 1, none⟩) (by show w.heap.size < W11.heap.size; omega)).trans kp0_1W11
        have kp1_0W12 := (bE.cell (p := ⟨w.heap.size + 1, 0, none⟩) (by show w.heap.size + 1 < W11.heap.size; omega)).trans kp1_0W11
        have kp1_1W12 := (bE.cell (p := ⟨w.heap.size + 1, 1, none⟩) (by show w.heap.size + 1 < W11.heap.size; omega)).trans kp1_1W11
        have kbr_0W12 := (bE.cell (p := ⟨g6, 0, none⟩) (by show g6 < W11.heap.size; omega)).trans kbr_0W11
        have kbr_1W12 := (bE.cell (p := ⟨g6, 1, none⟩) (by show g6 < W11.heap.size; omega)).trans kbr_1W11
        have kx0_0W12 := (bE.cell (p := ⟨W7.heap.size, 0, none⟩) (by show W7.heap.size < W11.heap.size; omega)).trans kx0_0W11
        have kx0_1W12 := (bE.cell (p := ⟨W7.heap.size, 1, none⟩) (by show W7.heap.size < W11.heap.size; omega)).trans kx0_1W11
        have kx1_0W12 := (bE.cell (p := ⟨W9.heap.size, 0, none⟩) (by show W9.heap.size < W11.heap.size; omega)).trans kx1_0W11
        have kx1_1W12 := (bE.cell (p := ⟨W9.heap.size, 1, none⟩) (by show W9.heap.size < W11.heap.size; omega)).trans kx1_1W11
        have A0W12 := sl.hid (A0W11.out.chg (sl.Chg.ofBelow (lo := 0) bE) (.inr (Nat.zero_le _)))
        have A1W12 := sl.hid (A1W11.out.chg (sl.Chg.ofBelow (lo := 0) bE) (.inr (Nat.zero_le _)))
        have OrW12 := sl.hid (OrW11.out.chg (sl.Chg.ofBelow (lo := 0) bE) (.inr (.inr (Nat.zero_le _))))
        have Ox0W12 := sl.hid (Ox0W11.out.chg (sl.Chg.ofBelow (lo := 0) bE) (.inr (.inr (Nat.zero_le _))))
        have Ox1W12 := sl.hid (Ox1W11.out.chg (sl.Chg.ofBelow (lo := 0) bE) (.inr (.inr (Nat.zero_le _))))
        have OgW12 := sl.hid (Ovg.out.chg (sl.Chg.ofBelow (lo := 0) bE) (.inr (.inr (Nat.zero_le _))))
        have CW12 := sl.hid (CW11.out.trans (bE.mono (by show w.heap.size ≤ W11.heap.size; omega)))
        clear bE kp0_0W11 kp0_1W11 kp1_0W11 kp1_1W11 kbr_0W11 kbr_1W11 kx0_0W11 kx0_1W11 kx1_0W11 kx1_1W11 A0W11 A1W11 OrW11 Ox0W11 Ox1W11 Ovg CW11
        go_wp2_with fail
        generalize (W11.alloc (.cells #[.int .i64 sr, .slice ao11 zr.length cap11] 28)) = W12 at *
        refine (ct.eqCS sr zr _ _ _ _ W12 OgW12.out.infs OrW12.out.infs hr).mono ?_
        rintro e W13 ⟨rfl, b13⟩
        have hzW13 : W12.heap.size ≤ W13.heap.size := b13.size
        have kp0_0W13 := (b13.cell (p := ⟨w.heap.size, 0, none⟩) (by show w.heap.size < W12.heap.size; omega)).trans kp0_0W12
        have kp0_1W13 := (b13.cell (p := ⟨w.heap.size, 1, none⟩) (by show w.heap.size < W12.heap.size; omega)).trans kp0_1W12
        have kp1_0W13 := (b13.cell (p := ⟨w.heap.size + 1, 0, none⟩) (by show w.heap.size + 1 < W12.heap.size; omega)).trans kp1_0W12
        have kp1_1W13 := (b13.cell (p := ⟨w.heap.size + 1, 1, none⟩) (by show w.heap.size + 1 < W12.heap.size; omega)).trans kp1_1W12
        have kbr_0W13 := (b13.cell (p := ⟨g6, 0, none⟩) (by show g6 < W12.heap.size; omega)).trans kbr_0W12
        have kbr_1W13 := (b13.cell (p := ⟨g6, 1, none⟩) (by show g6 < W12.heap.size; omega)).trans kbr_1W12
        have kx0_0W13 := (b13.cell (p := ⟨W7.heap.size, 0, none⟩) (by show W7.heap.size < W12.heap.size; omega)).trans kx0_0W12
        have kx0_1W13 := (b13.cell (p := ⟨W7.heap.size, 1, none⟩) (by show W7.heap.size < W12.heap.size; omega)).trans kx0_1W12
        have kx1_0W13 := (b13.cell (p := ⟨W9.heap.size, 0, none⟩) (by show W9.heap.size < W12.heap.size; omega)).trans kx1_0W12
        have kx1_1W13 := (b13.cell (p := ⟨W9.heap.size, 1, none⟩) (by show W9.heap.size < W12.heap.size; omega)).trans kx1_1W12
        have kbg_0W13 := (b13.cell (p := ⟨W11.heap.size, 0, none⟩) (by show W11.heap.size < W12.heap.size; omega)).trans kbg_0W12
        have kbg_1W13 := (b13.cell (p := ⟨W11.heap.size, 1, none⟩) (by show W11.heap.size < W12.heap.size; omega)).trans kbg_1W12
        have A0W13 := sl.hid (A0W12.out.chg (sl.Chg.ofBelow (lo := 0) b13) (.inr (Nat.zero_le _)))
        have A1W13 := sl.hid (A1W12.out.chg (sl.Chg.ofBelow (lo := 0) b13) (.inr (Nat.zero_le _)))
        have OrW13 := sl.hid (OrW12.out.chg (sl.Chg.ofBelow (lo := 0) b13) (.inr (.inr (Nat.zero_le _))))
        have Ox0W13 := sl.hid (Ox0W12.out.chg (sl.Chg.ofBelow (lo := 0) b13) (.inr (.inr (Nat.zero_le _))))
        have Ox1W13 := sl.hid (Ox1W12.out.chg (sl.Chg.ofBelow (lo := 0) b13) (.inr (.inr (Nat.zero_le _))))
        have OgW13 := sl.hid (OgW12.out.chg (sl.Chg.ofBelow (lo := 0) b13) (.inr (.inr (Nat.zero_le _))))
        have CW13 := sl.hid (CW12.out.trans (b13.mono (by show w.heap.size ≤ W12.heap.size; omega)))
        clear b13 kp0_0W12 kp0_1W12 kp1_0W12 kp1_1W12 kbr_0W12 kbr_1W12 kx0_0W12 kx0_1W12 kx1_0W12 kx1_1W12 kbg_0W12 kbg_1W12 A0W12 A1W12 OrW12 Ox0W12 Ox1W12 OgW12 CW12
        go_wp2_with fail
        have bD := (Below.refl W13.heap.size W13).drew
        have A0dW13 := sl.hid (A0W13.out.chg (sl.Chg.ofBelow (lo := 0) bD) (.inr (Nat.zero_le _)))
        have A1dW13 := sl.hid (A1W13.out.chg (sl.Chg.ofBelow (lo := 0) bD) (.inr (Nat.zero_le _)))
        have OrdW13 := sl.hid (OrW13.out.chg (sl.Chg.ofBelow (lo := 0) bD) (.inr (.inr (Nat.zero_le _))))
        have Ox0dW13 := sl.hid (Ox0W13.out.chg (sl.Chg.ofBelow (lo := 0) bD) (.inr (.inr (Nat.zero_le _))))
        have Ox1dW13 := sl.hid (Ox1W13.out.chg (sl.Chg.ofBelow (lo := 0) bD) (.inr (.inr (Nat.zero_le _))))
        have OgdW13 := sl.hid (OgW13.out.chg (sl.Chg.ofBelow (lo := 0) bD) (.inr (.inr (Nat.zero_le _))))
        have CdW13 := sl.hid (CW13.out.drew)
        clear bD A0W13 A1W13 OrW13 Ox0W13 Ox1W13 OgW13 CW13
        go_region_held3 (fun w' => w'.cell? ⟨w.heap.size, 0, none⟩ = some (.int .i64 a0) ∧ w'.cell? ⟨w.heap.size, 1, none⟩ = some (f0_0) ∧ w'.cell? ⟨W7.heap.size, 0, none⟩ = some (.int .i64 a0) ∧ w'.cell? ⟨W7.heap.size, 1, none⟩ = some (.slice ao7_0 ln7_0 cp7_0)) (go_keep)
          (first
            | (go_at_call 7
               refine (ct.toC a0 xs0 f0_0 _ _ A0dW13.out (by show w.heap.size ≤ W13.heap.size; omega) HQ0.out).mono ?_
               rintro e W15 ⟨fc0_0, rfl, oc0, bB⟩
               have HJ0 := sl.hid oc0.infs
               have hzW15 : W13.heap.size ≤ W15.heap.size := bB.size
               have kp0_0W15 := (bB.cell (p := ⟨w.heap.size, 0, none⟩) (by show w.heap.size < W13.heap.size; omega)).trans kp0_0W13
               have kp0_1W15 := (bB.cell (p := ⟨w.heap.size, 1, none⟩) (by show w.heap.size < W13.heap.size; omega)).trans kp0_1W13
               have kp1_0W15 := (bB.cell (p := ⟨w.heap.size + 1, 0, none⟩) (by show w.heap.size + 1 < W13.heap.size; omega)).trans kp1_0W13
               have kp1_1W15 := (bB.cell (p := ⟨w.heap.size + 1, 1, none⟩) (by show w.heap.size + 1 < W13.heap.size; omega)).trans kp1_1W13
               have kbr_0W15 := (bB.cell (p := ⟨g6, 0, none⟩) (by show g6 < W13.heap.size; omega)).trans kbr_0W13
               have kbr_1W15 := (bB.cell (p := ⟨g6, 1, none⟩) (by show g6 < W13.heap.size; omega)).trans kbr_1W13
               have kx0_0W15 := (bB.cell (p := ⟨W7.heap.size, 0, none⟩) (by show W7.heap.size < W13.heap.size; omega)).trans kx0_0W13
               have kx0_1W15 := (bB.cell (p := ⟨W7.heap.size, 1, none⟩) (by show W7.heap.size < W13.heap.size; omega)).trans kx0_1W13
               have kx1_0W15 := (bB.cell (p := ⟨W9.heap.size, 0, none⟩) (by show W9.heap.size < W13.heap.size; omega)).trans kx1_0W13
               have kx1_1W15 := (bB.cell (p := ⟨W9.heap.size, 1, none⟩) (by show W9.heap.size < W13.heap.size; omega)).trans kx1_1W13
               have kbg_0W15 := (bB.cell (p := ⟨W11.heap.size, 0, none⟩) (by show W11.heap.size < W13.heap.size; omega)).trans kbg_0W13
               have kbg_1W15 := (bB.cell (p := ⟨W11.heap.size, 1, none⟩) (by show W11.heap.size < W13.heap.size; omega)).trans kbg_1W13
               have A0W15 := sl.hid (A0dW13.out.chg (sl.Chg.ofBelow (lo := 0) bB) (.inr (Nat.zero_le _)))
               have A1W15 := sl.hid (A1dW13.out.chg (sl.Chg.ofBelow (lo := 0) bB) (.inr (Nat.zero_le _)))
               have OrW15 := sl.hid (OrdW13.out.chg (sl.Chg.ofBelow (lo := 0) bB) (.inr (.inr (Nat.zero_le _))))
               have Ox0W15 := sl.hid (Ox0dW13.out.chg (sl.Chg.ofBelow (lo := 0) bB) (.inr (.inr (Nat.zero_le _))))
               have Ox1W15 := sl.hid (Ox1dW13.out.chg (sl.Chg.ofBelow (lo := 0) bB) (.inr (.inr (Nat.zero_le _))))
               have OgW15 := sl.hid (OgdW13.out.chg (sl.Chg.ofBelow (lo := 0) bB) (.inr (.inr (Nat.zero_le _))))
               have CW15 := sl.hid (CdW13.out.trans (bB.mono (by show w.heap.size ≤ W13.heap.size; omega)))
               clear oc0 bB kp0_0W13 kp0_1W13 kp1_0W13 kp1_1W13 kbr_0W13 kbr_1W13 kx0_0W13 kx0_1W13 kx1_0W13 kx1_1W13 kbg_0W13 kbg_1W13 A0dW13 A1dW13 OrdW13 Ox0dW13 Ox1dW13 OgdW13 CdW13)
            | (go_at_call 9
               refine (ct.eqCS a0 xs0 _ _ _ _ W15 Ox0W15.out.infs HJ0.out HQ0.out).mono ?_
               rintro e W16 ⟨rfl, bC⟩
               have hzW16 : W15.heap.size ≤ W16.heap.size := bC.size
               have kp0_0W16 := (bC.cell (p := ⟨w.heap.size, 0, none⟩) (by show w.heap.size < W15.heap.size; omega)).trans kp0_0W15
               have kp0_1W16 := (bC.cell (p := ⟨w.heap.size, 1, none⟩) (by show w.heap.size < W15.heap.size; omega)).trans kp0_1W15
               have kp1_0W16 := (bC.cell (p := ⟨w.heap.size + 1, 0, none⟩) (by show w.heap.size + 1 < W15.heap.size; omega)).trans kp1_0W15
               have kp1_1W16 := (bC.cell (p := ⟨w.heap.size + 1, 1, none⟩) (by show w.heap.size + 1 < W15.heap.size; omega)).trans kp1_1W15
               have kbr_0W16 := (bC.cell (p := ⟨g6, 0, none⟩) (by show g6 < W15.heap.size; omega)).trans kbr_0W15
               have kbr_1W16 := (bC.cell (p := ⟨g6, 1, none⟩) (by show g6 < W15.heap.size; omega)).trans kbr_1W15
               have kx0_0W16 := (bC.cell (p := ⟨W7.heap.size, 0, none⟩) (by show W7.heap.size < W15.heap.size; omega)).trans kx0_0W15
               have kx0_1W16 := (bC.cell (p := ⟨W7.heap.size, 1, none⟩) (by show W7.heap.size < W15.heap.size; omega)).trans kx0_1W15
               have kx1_0W16 := (bC.cell (p := ⟨W9.heap.size, 0, none⟩) (by show W9.heap.size < W15.heap.size; omega)).trans kx1_0W15
               have kx1_1W16 := (bC.cell (p := ⟨W9.heap.size, 1, none⟩) (by show W9.heap.size < W15.heap.size; omega)).trans kx1_1W15
               have kbg_0W16 := (bC.cell (p := ⟨W11.heap.size, 0, none⟩) (by show W11.heap.size < W15.heap.size; omega)).trans kbg_0W15
               have kbg_1W16 := (bC.cell (p := ⟨W11.heap.size, 1, none⟩) (by show W11.heap.size < W15.heap.size; omega)).trans kbg_1W15
               have A0W16 := sl.hid (A0W15.out.chg (sl.Chg.ofBelow (lo := 0) bC) (.inr (Nat.zero_le _)))
               have A1W16 := sl.hid (A1W15.out.chg (sl.Chg.ofBelow (lo := 0) bC) (.inr (Nat.zero_le _)))
               have OrW16 := sl.hid (OrW15.out.chg (sl.Chg.ofBelow (lo := 0) bC) (.inr (.inr (Nat.zero_le _))))
               have Ox0W16 := sl.hid (Ox0W15.out.chg (sl.Chg.ofBelow (lo := 0) bC) (.inr (.inr (Nat.zero_le _))))
               have Ox1W16 := sl.hid (Ox1W15.out.chg (sl.Chg.ofBelow (lo := 0) bC) (.inr (.inr (Nat.zero_le _))))
               have OgW16 := sl.hid (OgW15.out.chg (sl.Chg.ofBelow (lo := 0) bC) (.inr (.inr (Nat.zero_le _))))
               have CW16 := sl.hid (CW15.out.trans (bC.mono (by show w.heap.size ≤ W15.heap.size; omega)))
               clear HJ0 bC kp0_0W15 kp0_1W15 kp1_0W15 kp1_1W15 kbr_0W15 kbr_1W15 kx0_0W15 kx0_1W15 kx1_0W15 kx1_1W15 kbg_0W15 kbg_1W15 A0W15 A1W15 OrW15 Ox0W15 Ox1W15 OgW15 CW15))
        go_wp2_with fail
        have bD := (Below.refl W16.heap.size W16).drew
        have A0dW16 := sl.hid (A0W16.out.chg (sl.Chg.ofBelow (lo := 0) bD) (.inr (Nat.zero_le _)))
        have A1dW16 := sl.hid (A1W16.out.chg (sl.Chg.ofBelow (lo := 0) bD) (.inr (Nat.zero_le _)))
        have OrdW16 := sl.hid (OrW16.out.chg (sl.Chg.ofBelow (lo := 0) bD) (.inr (.inr (Nat.zero_le _))))
        have Ox0dW16 := sl.hid (Ox0W16.out.chg (sl.Chg.ofBelow (lo := 0) bD) (.inr (.inr (Nat.zero_le _))))
        have Ox1dW16 := sl.hid (Ox1W16.out.chg (sl.Chg.ofBelow (lo := 0) bD) (.inr (.inr (Nat.zero_le _))))
        have OgdW16 := sl.hid (OgW16.out.chg (sl.Chg.ofBelow (lo := 0) bD) (.inr (.inr (Nat.zero_le _))))
        have CdW16 := sl.hid (CW16.out.drew)
        clear bD A0W16 A1W16 OrW16 Ox0W16 Ox1W16 OgW16 CW16
        go_region_held3 (fun w' => w'.cell? ⟨w.heap.size + 1, 0, none⟩ = some (.int .i64 a1) ∧ w'.cell? ⟨w.heap.size + 1, 1, none⟩ = some (f1_0) ∧ w'.cell? ⟨W9.heap.size, 0, none⟩ = some (.int .i64 a1) ∧ w'.cell? ⟨W9.heap.size, 1, none⟩ = some (.slice ao9_0 ln9_0 cp9_0)) (go_keep)
          (first
            | (go_at_call 7
               refine (ct.toC a1 xs1 f1_0 _ _ A1dW16.out (by show w.heap.size ≤ W16.heap.size; omega) HQ1.out).mono ?_
               rintro e W18 ⟨fc1_0, rfl, oc1, bB⟩
               have HJ1 := sl.hid oc1.infs
               have hzW18 : W16.heap.size ≤ W18.heap.size := bB.size
               have kp0_0W18 := (bB.cell (p := ⟨w.heap.size, 0, none⟩) (by show w.heap.size < W16.heap.size; omega)).trans kp0_0W16
               have kp0_1W18 := (bB.cell (p := ⟨w.heap.size, 1, none⟩) (by show w.heap.size < W16.heap.size; omega)).trans kp0_1W16
               have kp1_0W18 := (bB.cell (p := ⟨w.heap.size + 1, 0, none⟩) (by show w.heap.size + 1 < W16.heap.size; omega)).trans kp1_0W16
               have kp1_1W18 := (bB.cell (p := ⟨w.heap.size + 1, 1, none⟩) (by show w.heap.size + 1 < W16.heap.size; omega)).trans kp1_1W16
               have kbr_0W18 := (bB.cell (p := ⟨g6, 0, none⟩) (by show g6 < W16.heap.size; omega)).trans kbr_0W16
               have kbr_1W18 := (bB.cell (p := ⟨g6, 1, none⟩) (by show g6 < W16.heap.size; omega)).trans kbr_1W16
               have kx0_0W18 := (bB.cell (p := ⟨W7.heap.size, 0, none⟩) (by show W7.heap.size < W16.heap.size; omega)).trans kx0_0W16
               have kx0_1W18 := (bB.cell (p := ⟨W7.heap.size, 1, none⟩) (by show W7.heap.size < W16.heap.size; omega)).trans kx0_1W16
               have kx1_0W18 := (bB.cell (p := ⟨W9.heap.size, 0, none⟩) (by show W9.heap.size < W16.heap.size; omega)).trans kx1_0W16
               have kx1_1W18 := (bB.cell (p := ⟨W9.heap.size, 1, none⟩) (by show W9.heap.size < W16.heap.size; omega)).trans kx1_1W16
               have kbg_0W18 := (bB.cell (p := ⟨W11.heap.size, 0, none⟩) (by show W11.heap.size < W16.heap.size; omega)).trans kbg_0W16
               have kbg_1W18 := (bB.cell (p := ⟨W11.heap.size, 1, none⟩) (by show W11.heap.size < W16.heap.size; omega)).trans kbg_1W16
               have A0W18 := sl.hid (A0dW16.out.chg (sl.Chg.ofBelow (lo := 0) bB) (.inr (Nat.zero_le _)))
               have A1W18 := sl.hid (A1dW16.out.chg (sl.Chg.ofBelow (lo := 0) bB) (.inr (Nat.zero_le _)))
               have OrW18 := sl.hid (OrdW16.out.chg (sl.Chg.ofBelow (lo := 0) bB) (.inr (.inr (Nat.zero_le _))))
               have Ox0W18 := sl.hid (Ox0dW16.out.chg (sl.Chg.ofBelow (lo := 0) bB) (.inr (.inr (Nat.zero_le _))))
               have Ox1W18 := sl.hid (Ox1dW16.out.chg (sl.Chg.ofBelow (lo := 0) bB) (.inr (.inr (Nat.zero_le _))))
               have OgW18 := sl.hid (OgdW16.out.chg (sl.Chg.ofBelow (lo := 0) bB) (.inr (.inr (Nat.zero_le _))))
               have CW18 := sl.hid (CdW16.out.trans (bB.mono (by show w.heap.size ≤ W16.heap.size; omega)))
               clear oc1 bB kp0_0W16 kp0_1W16 kp1_0W16 kp1_1W16 kbr_0W16 kbr_1W16 kx0_0W16 kx0_1W16 kx1_0W16 kx1_1W16 kbg_0W16 kbg_1W16 A0dW16 A1dW16 OrdW16 Ox0dW16 Ox1dW16 OgdW16 CdW16)
            | (go_at_call 9
               refine (ct.eqCS a1 xs1 _ _ _ _ W18 Ox1W18.out.infs HJ1.out HQ1.out).mono ?_
               rintro e W19 ⟨rfl, bC⟩
               have hzW19 : W18.heap.size ≤ W19.heap.size := bC.size
               have kp0_0W19 := (bC.cell (p := ⟨w.heap.size, 0, none⟩) (by show w.heap.size < W18.heap.size; omega)).trans kp0_0W18
               have kp0_1W19 := (bC.cell (p := ⟨w.heap.size, 1, none⟩) (by show w.heap.size < W18.heap.size; omega)).trans kp0_1W18
               have kp1_0W19 := (bC.cell (p := ⟨w.heap.size + 1, 0, none⟩) (by show w.heap.size + 1 < W18.heap.size; omega)).trans kp1_0W18
               have kp1_1W19 := (bC.cell (p := ⟨w.heap.size + 1, 1, none⟩) (by show w.heap.size + 1 < W18.heap.size; omega)).trans kp1_1W18
               have kbr_0W19 := (bC.cell (p := ⟨g6, 0, none⟩) (by show g6 < W18.heap.size; omega)).trans kbr_0W18
               have kbr_1W19 := (bC.cell (p := ⟨g6, 1, none⟩) (by show g6 < W18.heap.size; omega)).trans kbr_1W18
               have kx0_0W19 := (bC.cell (p := ⟨W7.heap.size, 0, none⟩) (by show W7.heap.size < W18.heap.size; omega)).trans kx0_0W18
               have kx0_1W19 := (bC.cell (p := ⟨W7.heap.size, 1, none⟩) (by show W7.heap.size < W18.heap.size; omega)).trans kx0_1W18
               have kx1_0W19 := (bC.cell (p := ⟨W9.heap.size, 0, none⟩) (by show W9.heap.size < W18.heap.size; omega)).trans kx1_0W18
               have kx1_1W19 := (bC.cell (p := ⟨W9.heap.size, 1, none⟩) (by show W9.heap.size < W18.heap.size; omega)).trans kx1_1W18
               have kbg_0W19 := (bC.cell (p := ⟨W11.heap.size, 0, none⟩) (by show W11.heap.size < W18.heap.size; omega)).trans kbg_0W18
               have kbg_1W19 := (bC.cell (p := ⟨W11.heap.size, 1, none⟩) (by show W11.heap.size < W18.heap.size; omega)).trans kbg_1W18
               have A0W19 := sl.hid (A0W18.out.chg (sl.Chg.ofBelow (lo := 0) bC) (.inr (Nat.zero_le _)))
               have A1W19 := sl.hid (A1W18.out.chg (sl.Chg.ofBelow (lo := 0) bC) (.inr (Nat.zero_le _)))
               have OrW19 := sl.hid (OrW18.out.chg (sl.Chg.ofBelow (lo := 0) bC) (.inr (.inr (Nat.zero_le _))))
               have Ox0W19 := sl.hid (Ox0W18.out.chg (sl.Chg.ofBelow (lo := 0) bC) (.inr (.inr (Nat.zero_le _))))
               have Ox1W19 := sl.hid (Ox1W18.out.chg (sl.Chg.ofBelow (lo := 0) bC) (.inr (.inr (Nat.zero_le _))))
               have OgW19 := sl.hid (OgW18.out.chg (sl.Chg.ofBelow (lo := 0) bC) (.inr (.inr (Nat.zero_le _))))
               have CW19 := sl.hid (CW18.out.trans (bC.mono (by show w.heap.size ≤ W18.heap.size; omega)))
               clear HJ1 bC kp0_0W18 kp0_1W18 kp1_0W18 kp1_1W18 kbr_0W18 kbr_1W18 kx0_0W18 kx0_1W18 kx1_0W18 kx1_1W18 kbg_0W18 kbg_1W18 A0W18 A1W18 OrW18 Ox0W18 Ox1W18 OgW18 CW18))
        go_wp2_with fail
        refine (cj.markC2 a0 xs0 _ _ _ (1) W19 Ox0W19.out HQ0.out HT0.out (by omega) (by omega)).mono ?_
        rintro e W20 ⟨km20, rfl, hkm20, c20⟩
        have hkd20 : decide (km20 < 0) = false := by simp; omega
        clear Ox0W19
        have hzW20 : W19.heap.size ≤ W20.heap.size := c20.size
        have kp0_0W20 := (World.cell?_of_block (w := W19) (w' := W20) (a := ⟨w.heap.size, 0, none⟩) (c20.block (w.heap.size) (by omega) (by omega))).trans kp0_0W19
        have kp0_1W20 := (World.cell?_of_block (w := W19) (w' := W20) (a := ⟨w.heap.size, 1, none⟩) (c20.block (w.heap.size) (by omega) (by omega))).trans kp0_1W19
        have kp1_0W20 := (World.cell?_of_block (w := W19) (w' := W20) (a := ⟨w.heap.size + 1, 0, none⟩) (c20.block (w.heap.size + 1) (by omega) (by omega))).trans kp1_0W19
        have kp1_1W20 := (World.cell?_of_block (w := W19) (w' := W20) (a := ⟨w.heap.size + 1, 1, none⟩) (c20.block (w.heap.size + 1) (by omega) (by omega))).trans kp1_1W19
        have kbr_0W20 := (World.cell?_of_block (w := W19) (w' := W20) (a := ⟨g6, 0, none⟩) (c20.block (g6) (by omega) (by omega))).trans kbr_0W19
        have kbr_1W20 := (World.cell?_of_block (w := W19) (w' := W20) (a := ⟨g6, 1, none⟩) (c20.block (g6) (by omega) (by omega))).trans kbr_1W19
        have kx1_0W20 := (World.cell?_of_block (w := W19) (w' := W20) (a := ⟨W9.heap.size, 0, none⟩) (c20.block (W9.heap.size) (by omega) (by omega))).trans kx1_0W19
        have kx1_1W20 := (World.cell?_of_block (w := W19) (w' := W20) (a := ⟨W9.heap.size, 1, none⟩) (c20.block (W9.heap.size) (by omega) (by omega))).trans kx1_1W19
        have kbg_0W20 := (World.cell?_of_block (w := W19) (w' := W20) (a := ⟨W11.heap.size, 0, none⟩) (c20.block (W11.heap.size) (by omega) (by omega))).trans kbg_0W19
        have kbg_1W20 := (World.cell?_of_block (w := W19) (w' := W20) (a := ⟨W11.heap.size, 1, none⟩) (c20.block (W11.heap.size) (by omega) (by omega))).trans kbg_1W19
        have A0W20 := sl.hid (A0W19.out.chg c20 (by omega))
        have A1W20 := sl.hid (A1W19.out.chg c20 (by omega))
        have OrW20 := sl.hid (OrW19.out.chg c20 (by omega))
        have Ox1W20 := sl.hid (Ox1W19.out.chg c20 (by omega))
        have OgW20 := sl.hid (OgW19.out.chg c20 (by omega))
        have CW20 := sl.hid (CW19.out.trans (c20.below (by omega) (by omega)))
        clear c20 kp0_0W19 kp0_1W19 kp1_0W19 kp1_1W19 kbr_0W19 kbr_1W19 kx1_0W19 kx1_1W19 kbg_0W19 kbg_1W19 A0W19 A1W19 OrW19 Ox1W19 OgW19 CW19
        go_wp2_with fail
        refine (cj.markC2 a1 xs1 _ _ _ (km20) W20 Ox1W20.out HQ1.out HT1.out (by omega) (by omega)).mono ?_
        rintro e W21 ⟨km21, rfl, hkm21, c21⟩
        have hkd21 : decide (km21 < 0) = false := by simp; omega
        clear Ox1W20
        have hzW21 : W20.heap.size ≤ W21.heap.size := c21.size
        have kp0_0W21 := (World.cell?_of_block (w := W20) (w' := W21) (a := ⟨w.heap.size, 0, none⟩) (c21.block (w.heap.size) (by omega) (by omega))).trans kp0_0W20
        have kp0_1W21 := (World.cell?_of_block (w := W20) (w' := W21) (a := ⟨w.heap.size, 1, none⟩) (c21.block (w.heap.size) (by omega) (by omega))).trans kp0_1W20
        have kp1_0W21 := (World.cell?_of_block (w := W20) (w' := W21) (a := ⟨w.heap.size + 1, 0, none⟩) (c21.block (w.heap.size + 1) (by omega) (by omega))).trans kp1_0W20
        have kp1_1W21 := (World.cell?_of_block (w := W20) (w' := W21) (a := ⟨w.heap.size + 1, 1, none⟩) (c21.block (w.heap.size + 1) (by omega) (by omega))).trans kp1_1W20
        have kbr_0W21 := (World.cell?_of_block (w := W20) (w' := W21) (a := ⟨g6, 0, none⟩) (c21.block (g6) (by omega) (by omega))).trans kbr_0W20
        have kbr_1W21 := (World.cell?_of_block (w := W20) (w' := W21) (a := ⟨g6, 1, none⟩) (c21.block (g6) (by omega) (by omega))).trans kbr_1W20
        have kbg_0W21 := (World.cell?_of_block (w := W20) (w' := W21) (a := ⟨W11.heap.size, 0, none⟩) (c21.block (W11.heap.size) (by omega) (by omega))).trans kbg_0W20
        have kbg_1W21 := (World.cell?_of_block (w := W20) (w' := W21) (a := ⟨W11.heap.size, 1, none⟩) (c21.block (W11.heap.size) (by omega) (by omega))).trans kbg_1W20
        have A0W21 := sl.hid (A0W20.out.chg c21 (by omega))
        have A1W21 := sl.hid (A1W20.out.chg c21 (by omega))
        have OrW21 := sl.hid (OrW20.out.chg c21 (by omega))
        have OgW21 := sl.hid (OgW20.out.chg c21 (by omega))
        have CW21 := sl.hid (CW20.out.trans (c21.below (by omega) (by omega)))
        clear c21 kp0_0W20 kp0_1W20 kp1_0W20 kp1_1W20 kbr_0W20 kbr_1W20 kbg_0W20 kbg_1W20 A0W20 A1W20 OrW20 OgW20 CW20
        go_wp2_with fail
        refine (ct.eqCS sr zr _ _ _ _ W21 OgW21.out.infs OrW21.out.infs hr).mono ?_
        rintro e W22 ⟨rfl, b22⟩
        have hzW22 : W21.heap.size ≤ W22.heap.size := b22.size
        have kp0_0W22 := (b22.cell (p := ⟨w.heap.size, 0, none⟩) (by show w.heap.size < W21.heap.size; omega)).trans kp0_0W21
        have kp0_1W22 := (b22.cell (p := ⟨w.heap.size, 1, none⟩) (by show w.heap.size < W21.heap.size; omega)).trans kp0_1W21
        have kp1_0W22 := (b22.cell (p := ⟨w.heap.size + 1, 0, none⟩) (by show w.heap.size + 1 < W21.heap.size; omega)).trans kp1_0W21
        have kp1_1W22 := (b22.cell (p := ⟨w.heap.size + 1, 1, none⟩) (by show w.heap.size + 1 < W21.heap.size; omega)).trans kp1_1W21
        have kbr_0W22 := (b22.cell (p := ⟨g6, 0, none⟩) (by show g6 < W21.heap.size; omega)).trans kbr_0W21
        have kbr_1W22 := (b22.cell (p := ⟨g6, 1, none⟩) (by show g6 < W21.heap.size; omega)).trans kbr_1W21
        have kbg_0W22 := (b22.cell (p := ⟨W11.heap.size, 0, none⟩) (by show W11.heap.size < W21.heap.size; omega)).trans kbg_0W21
        have kbg_1W22 := (b22.cell (p := ⟨W11.heap.size, 1, none⟩) (by show W11.heap.size < W21.heap.size; omega)).trans kbg_1W21
        have A0W22 := sl.hid (A0W21.out.chg (sl.Chg.ofBelow (lo := 0) b22) (.inr (Nat.zero_le _)))
        have A1W22 := sl.hid (A1W21.out.chg (sl.Chg.ofBelow (lo := 0) b22) (.inr (Nat.zero_le _)))
        have OrW22 := sl.hid (OrW21.out.chg (sl.Chg.ofBelow (lo := 0) b22) (.inr (.inr (Nat.zero_le _))))
        have OgW22 := sl.hid (OgW21.out.chg (sl.Chg.ofBelow (lo := 0) b22) (.inr (.inr (Nat.zero_le _))))
        have CW22 := sl.hid (CW21.out.trans (b22.mono (by show w.heap.size ≤ W21.heap.size; omega)))
        clear b22 kp0_0W21 kp0_1W21 kp1_0W21 kp1_1W21 kbr_0W21 kbr_1W21 kbg_0W21 kbg_1W21 A0W21 A1W21 OrW21 OgW21 CW21
        go_wp2_with fail
        refine (ct.markCF sr zr _ _ _ 1 W22 OgW22.out hr htt (by omega) (by omega)).mono ?_
        rintro e W23 ⟨rfl, o23, c23⟩
        have hzW23 : W22.heap.size ≤ W23.heap.size := c23.size
        have kp0_0W23 := (World.cell?_of_block (w := W22) (w' := W23) (a := ⟨w.heap.size, 0, none⟩) (c23.block (w.heap.size) (by omega) (by omega))).trans kp0_0W22
        have kp0_1W23 := (World.cell?_of_block (w := W22) (w' := W23) (a := ⟨w.heap.size, 1, none⟩) (c23.block (w.heap.size) (by omega) (by omega))).trans kp0_1W22
        have kp1_0W23 := (World.cell?_of_block (w := W22) (w' := W23) (a := ⟨w.heap.size + 1, 0, none⟩) (c23.block (w.heap.size + 1) (by omega) (by omega))).trans kp1_0W22
        have kp1_1W23 := (World.cell?_of_block (w := W22) (w' := W23) (a := ⟨w.heap.size + 1, 1, none⟩) (c23.block (w.heap.size + 1) (by omega) (by omega))).trans kp1_1W22
        have kbr_0W23 := (World.cell?_of_block (w := W22) (w' := W23) (a := ⟨g6, 0, none⟩) (c23.block (g6) (by omega) (by omega))).trans kbr_0W22
        have kbr_1W23 := (World.cell?_of_block (w := W22) (w' := W23) (a := ⟨g6, 1, none⟩) (c23.block (g6) (by omega) (by omega))).trans kbr_1W22
        have kbg_0W23 := (World.cell?_of_block (w := W22) (w' := W23) (a := ⟨W11.heap.size, 0, none⟩) (c23.block (W11.heap.size) (by omega) (by omega))).trans kbg_0W22
        have kbg_1W23 := (World.cell?_of_block (w := W22) (w' := W23) (a := ⟨W11.heap.size, 1, none⟩) (c23.block (W11.heap.size) (by omega) (by omega))).trans kbg_1W22
        have A0W23 := sl.hid (A0W22.out.chg c23 (by omega))
        have A1W23 := sl.hid (A1W22.out.chg c23 (by omega))
        have OrW23 := sl.hid (OrW22.out.chg c23 (by omega))
        have CW23 := sl.hid (CW22.out.trans (c23.below (by omega) (by omega)))
        clear c23 kp0_0W22 kp0_1W22 kp1_0W22 kp1_1W22 kbr_0W22 kbr_1W22 kbg_0W22 kbg_1W22 A0W22 A1W22 OrW22 CW22
        have On23 := sl.hid o23
        clear o23 OgW22
        go_wp2_with fail
        refine (ct.heldC sr zr _ _ 1 W23 On23.out.infs hr htt (by omega) (by omega)).mono ?_
        rintro e W24 ⟨rfl, b24⟩
        have hzW24 : W23.heap.size ≤ W24.heap.size := b24.size
        have kp0_0W24 := (b24.cell (p := ⟨w.heap.size, 0, none⟩) (by show w.heap.size < W23.heap.size; omega)).trans kp0_0W23
        have kp0_1W24 := (b24.cell (p := ⟨w.heap.size, 1, none⟩) (by show w.heap.size < W23.heap.size; omega)).trans kp0_1W23
        have kp1_0W24 := (b24.cell (p := ⟨w.heap.size + 1, 0, none⟩) (by show w.heap.size + 1 < W23.heap.size; omega)).trans kp1_0W23
        have kp1_1W24 := (b24.cell (p := ⟨w.heap.size + 1, 1, none⟩) (by show w.heap.size + 1 < W23.heap.size; omega)).trans kp1_1W23
        have kbr_0W24 := (b24.cell (p := ⟨g6, 0, none⟩) (by show g6 < W23.heap.size; omega)).trans kbr_0W23
        have kbr_1W24 := (b24.cell (p := ⟨g6, 1, none⟩) (by show g6 < W23.heap.size; omega)).trans kbr_1W23
        have kbg_0W24 := (b24.cell (p := ⟨W11.heap.size, 0, none⟩) (by show W11.heap.size < W23.heap.size; omega)).trans kbg_0W23
        have kbg_1W24 := (b24.cell (p := ⟨W11.heap.size, 1, none⟩) (by show W11.heap.size < W23.heap.size; omega)).trans kbg_1W23
        have A0W24 := sl.hid (A0W23.out.chg (sl.Chg.ofBelow (lo := 0) b24) (.inr (Nat.zero_le _)))
        have A1W24 := sl.hid (A1W23.out.chg (sl.Chg.ofBelow (lo := 0) b24) (.inr (Nat.zero_le _)))
        have OrW24 := sl.hid (OrW23.out.chg (sl.Chg.ofBelow (lo := 0) b24) (.inr (.inr (Nat.zero_le _))))
        have OgW24 := sl.hid (On23.out.chg (sl.Chg.ofBelow (lo := 0) b24) (.inr (.inr (Nat.zero_le _))))
        have CW24 := sl.hid (CW23.out.trans (b24.mono (by show w.heap.size ≤ W23.heap.size; omega)))
        clear b24 kp0_0W23 kp0_1W23 kp1_0W23 kp1_1W23 kbr_0W23 kbr_1W23 kbg_0W23 kbg_1W23 A0W23 A1W23 OrW23 On23 CW23
        go_upto_region 31 with fail
        have HKW24 : Hid (cj.Kc w W24 a0 a1 f0_0 xs0 f1_0 xs1 W24) := sl.hid ⟨⟨A0W24.out, A1W24.out, Nat.le_refl _, Below.refl _ _⟩, by omega, kp0_0W24, kp0_1W24, kp1_0W24, kp1_1W24⟩
        have TB0W24 : Hid (∀ W : World, cj.Kc w W24 a0 a1 f0_0 xs0 f1_0 xs1 W → Calls Tryd.prog 7 #[.agg #[.int .i64 a0, f0_0]] W fun e W' => ∃ f', e = .returned (.agg #[.int .i64 a0, f']) ∧ cj.Ic W' f' xs0 ∧ (∃ ao cap, f' = .slice ao xs0.length cap) ∧ Below W.heap.size W W') := sl.hid (fun W k => cj.toCq a0 _ xs0 HQ0.out W _ k.1.1 (by have := k.1.2.2.1; have := k.2.1; omega))
        have TB1W24 : Hid (∀ W : World, cj.Kc w W24 a0 a1 f0_0 xs0 f1_0 xs1 W → Calls Tryd.prog 7 #[.agg #[.int .i64 a1, f1_0]] W fun e W' => ∃ f', e = .returned (.agg #[.int .i64 a1, f']) ∧ cj.Ic W' f' xs1 ∧ (∃ ao cap, f' = .slice ao xs1.length cap) ∧ Below W.heap.size W W') := sl.hid (fun W k => cj.toCq a1 _ xs1 HQ1.out W _ k.1.2.1 (by have := k.1.2.2.1; have := k.2.1; omega))
        have JPW24 : Hid (∀ (W : World) (u0 u1 : Value), cj.Ic W u0 xs0 → cj.Ic W u1 xs1 → cj.Kc w W24 a0 a1 f0_0 xs0 f1_0 xs1 W → Calls Tryd.prog 13 #[.agg #[.int .i64 a0, u0], .agg #[.int .i64 a1, u1]] W fun e W' => ∃ ao cap, e = .returned (.tuple #[.agg #[.int .i64 sr, .slice ao zr.length cap], .int .i64 q1]) ∧ ro.IOwn W' W.heap.size W'.heap.size (.slice ao zr.length cap) zr ∧ Below W.heap.size W W') := sl.hid (fun W u0 u1 i0 i1 k => by
          obtain ⟨C0, l0, i0⟩ := i0
          obtain ⟨C1, l1, i1⟩ := i1
          refine (IP.out u0 u1 W C0 C1 (CW24.out.trans (k.1.2.2.2.mono (by have := k.2.1; omega))) i0 l0 i1 l1).mono ?_
          rintro e W2 ⟨ao, cap, rfl, o, b⟩
          exact ⟨ao, cap, rfl, o, b⟩)
        have hl0W24 : w.heap.size < W24.heap.size := by omega
        have hl1W24 : w.heap.size + 1 < W24.heap.size := by omega
        go_cut [15, 16] from 94 to 101 (fun p q wc => ∃ (g : Nat) (ao : Option Addr) (cap : Nat), p = .pointer (some ⟨g, 0, none⟩) ∧ q = .int .i64 q1 ∧ cj.Rc W24 sr zr g ao cap wc)
        case first =>
          go_region_held3 (fun w' => w'.cell? ⟨w.heap.size, 0, none⟩ = some (.int .i64 a0) ∧ w'.cell? ⟨w.heap.size, 1, none⟩ = some (f0_0) ∧ w'.cell? ⟨w.heap.size + 1, 0, none⟩ = some (.int .i64 a1) ∧ w'.cell? ⟨w.heap.size + 1, 1, none⟩ = some (f1_0)) (first | (go_keep; done) | (refine ⟨(cj.keep2 (by omega)).trans ?_, (cj.keep2 (by omega)).trans ?_, (cj.keep2 (by omega)).trans ?_, (cj.keep2 (by omega)).trans ?_⟩ <;> assumption)) (first
            | (go_at_call_of 7 (Value.agg #[.int .i64 a0, f0_0])
               have hchk := HIc1
               refine (TB0W24.out _ ?_).mono ?_
               · (first | exact HKA.out | exact HKA.out.drew | exact HKA.out.alloc _ | exact (HKA.out.alloc _).drew | exact (HKA.out.drew).alloc _)
               rintro e Y2 ⟨fc0, rfl, ic0, ⟨aoc0, capc0, rfl⟩, bB⟩
               have HKB := sl.hid ((show cj.Kc w W24 a0 a1 f0_0 xs0 f1_0 xs1 _ from by (first | exact HKA.out | exact HKA.out.drew | exact HKA.out.alloc _ | exact (HKA.out.alloc _).drew | exact (HKA.out.drew).alloc _)).below bB)
               have HJ0 := sl.hid ic0
               have HJ1 := sl.hid ((show cj.Ic _ (.slice aoc1 xs1.length capc1) xs1 from by (first | exact HIc1.out | exact HIc1.out.drew | exact HIc1.out.alloc _ | exact (HIc1.out.alloc _).drew | exact (HIc1.out.drew).alloc _)).below bB)
               obtain ⟨hcB, hfB⟩ := br.bcell bB
               have hzB := bB.size
               obtain ⟨pB0, pB1, pB2, pB3⟩ := HKB.out.2.2
               try simp at hcB
               try simp at hfB
               try simp at hzB
               have hl0B : w.heap.size < Y2.heap.size := by omega
               have hl1B : w.heap.size + 1 < Y2.heap.size := by omega
               have hyB : Y1.heap.size ≤ Y2.heap.size := by first | exact hzB | omega
               try have qB0 : W24.heap.size < Y2.heap.size := by omega
               try have qB1 : Y1.heap.size < Y2.heap.size := by omega
               clear ic0 HIc1 bB hchk)
            | (go_at_call_of 7 (Value.agg #[.int .i64 a1, f1_0])
               have hchk := HIc0
               refine (TB1W24.out _ ?_).mono ?_
               · (first | exact HKA.out | exact HKA.out.drew | exact HKA.out.alloc _ | exact (HKA.out.alloc _).drew | exact (HKA.out.drew).alloc _)
               rintro e Y2 ⟨fc1, rfl, ic1, ⟨aoc1, capc1, rfl⟩, bB⟩
               have HKB := sl.hid ((show cj.Kc w W24 a0 a1 f0_0 xs0 f1_0 xs1 _ from by (first | exact HKA.out | exact HKA.out.drew | exact HKA.out.alloc _ | exact (HKA.out.alloc _).drew | exact (HKA.out.drew).alloc _)).below bB)
               have HJ1 := sl.hid ic1
               have HJ0 := sl.hid ((show cj.Ic _ (.slice aoc0 xs0.length capc0) xs0 from by (first | exact HIc0.out | exact HIc0.out.drew | exact HIc0.out.alloc _ | exact (HIc0.out.alloc _).drew | exact (HIc0.out.drew).alloc _)).below bB)
               obtain ⟨hcB, hfB⟩ := br.bcell bB
               have hzB := bB.size
               obtain ⟨pB0, pB1, pB2, pB3⟩ := HKB.out.2.2
               try simp at hcB
               try simp at hfB
               try simp at hzB
               have hl0B : w.heap.size < Y2.heap.size := by omega
               have hl1B : w.heap.size + 1 < Y2.heap.size := by omega
               have hyB : Y1.heap.size ≤ Y2.heap.size := by first | exact hzB | omega
               try have qB0 : W24.heap.size < Y2.heap.size := by omega
               try have qB1 : Y1.heap.size < Y2.heap.size := by omega
               clear ic1 HIc0 bB hchk)
            | (go_at_call_of 7 (Value.agg #[.int .i64 a0, f0_0])
               refine (TB0W24.out _ ?_).mono ?_
               · (first | exact HKW24.out | exact HKW24.out.drew | exact HKW24.out.alloc _ | exact (HKW24.out.alloc _).drew | exact (HKW24.out.drew).alloc _)
               rintro e Y1 ⟨fc0, rfl, ic0, ⟨aoc0, capc0, rfl⟩, bA⟩
               have HKA := sl.hid ((show cj.Kc w W24 a0 a1 f0_0 xs0 f1_0 xs1 _ from by (first | exact HKW24.out | exact HKW24.out.drew | exact HKW24.out.alloc _ | exact (HKW24.out.alloc _).drew | exact (HKW24.out.drew).alloc _)).below bA)
               have HIc0 := sl.hid ic0
               obtain ⟨hcA, hfA⟩ := br.bcell bA
               have hzA := bA.size
               obtain ⟨pA0, pA1, pA2, pA3⟩ := HKA.out.2.2
               try simp at hcA
               try simp at hfA
               try simp at hzA
               have hl0A : w.heap.size < Y1.heap.size := by omega
               have hl1A : w.heap.size + 1 < Y1.heap.size := by omega
               have hyA : W24.heap.size ≤ Y1.heap.size := by first | exact hzA | omega
               try have qA0 : W24.heap.size < Y1.heap.size := by omega
               clear ic0 bA)
            | (go_at_call_of 7 (Value.agg #[.int .i64 a1, f1_0])
               refine (TB1W24.out _ ?_).mono ?_
               · (first | exact HKW24.out | exact HKW24.out.drew | exact HKW24.out.alloc _ | exact (HKW24.out.alloc _).drew | exact (HKW24.out.drew).alloc _)
               rintro e Y1 ⟨fc1, rfl, ic1, ⟨aoc1, capc1, rfl⟩, bA⟩
               have HKA := sl.hid ((show cj.Kc w W24 a0 a1 f0_0 xs0 f1_0 xs1 _ from by (first | exact HKW24.out | exact HKW24.out.drew | exact HKW24.out.alloc _ | exact (HKW24.out.alloc _).drew | exact (HKW24.out.drew).alloc _)).below bA)
               have HIc1 := sl.hid ic1
               obtain ⟨hcA, hfA⟩ := br.bcell bA
               have hzA := bA.size
               obtain ⟨pA0, pA1, pA2, pA3⟩ := HKA.out.2.2
               try simp at hcA
               try simp at hfA
               try simp at hzA
               have hl0A : w.heap.size < Y1.heap.size := by omega
               have hl1A : w.heap.size + 1 < Y1.heap.size := by omega
               have hyA : W24.heap.size ≤ Y1.heap.size := by first | exact hzA | omega
               try have qA0 : W24.heap.size < Y1.heap.size := by omega
               clear ic1 bA)
            | (go_at_call 13
               refine (JPW24.out _ _ _ ?_ ?_ ?_).mono ?_
               · (first | exact HJ0.out | exact HJ0.out.drew | exact HJ0.out.alloc _ | exact (HJ0.out.alloc _).drew | exact (HJ0.out.drew).alloc _)
               · (first | exact HJ1.out | exact HJ1.out.drew | exact HJ1.out.alloc _ | exact (HJ1.out.alloc _).drew | exact (HJ1.out.drew).alloc _)
               · (first | exact HKB.out | exact HKB.out.drew | exact HKB.out.alloc _ | exact (HKB.out.alloc _).drew | exact (HKB.out.drew).alloc _)
               rintro e Y3 ⟨aor, capr, rfl, oR, bC⟩
               have HKC := sl.hid ((show cj.Kc w W24 a0 a1 f0_0 xs0 f1_0 xs1 _ from by (first | exact HKB.out | exact HKB.out.drew | exact HKB.out.alloc _ | exact (HKB.out.alloc _).drew | exact (HKB.out.drew).alloc _)).below bC)
               have HO := sl.hid oR
               obtain ⟨hcC, hfC⟩ := br.bcell bC
               have hzC := bC.size
               obtain ⟨pC0, pC1, pC2, pC3⟩ := HKC.out.2.2
               try simp at hcC
               try simp at hfC
               try simp at hzC
               have hl0C : w.heap.size < Y3.heap.size := by omega
               have hl1C : w.heap.size + 1 < Y3.heap.size := by omega
               have hyC : Y2.heap.size ≤ Y3.heap.size := by first | exact hzC | omega
               try have qC0 : W24.heap.size < Y3.heap.size := by omega
               try have qC1 : Y1.heap.size < Y3.heap.size := by omega
               try have qC2 : Y2.heap.size < Y3.heap.size := by omega
               clear oR bC)
            )
          all_goals
            go_wp2_with fail
            go_meet
            first
              | exact ⟨_, aor, capr, rfl, rfl, cj.meetA HKC.out.1.2.2.2 HO.out (by first | omega | (simp; done) | (simp; omega))⟩
              | exact ⟨_, aor, capr, rfl, rfl, cj.meetB HKC.out.1.2.2.2 HO.out (by first | omega | (simp; done) | (simp; omega)) Y2.heap.size (by omega) (by first | omega | (simp; done) | (simp; omega)) (by omega) ((hcC _ _ (by omega)).trans (World.cell?_alloc_at _ _ _ _ rfl)) ((hcC _ _ (by omega)).trans (World.cell?_alloc_at _ _ _ _ rfl))⟩
              | exact ⟨_, aor, capr, rfl, rfl, cj.meetB HKC.out.1.2.2.2 HO.out (by first | omega | (simp; done) | (simp; omega)) Y1.heap.size (by omega) (by first | omega | (simp; done) | (simp; omega)) (by omega) ((hcC _ _ (by omega)).trans ((hcB _ _ (by omega)).trans (World.cell?_alloc_at _ _ _ _ rfl))) ((hcC _ _ (by omega)).trans ((hcB _ _ (by omega)).trans (World.cell?_alloc_at _ _ _ _ rfl)))⟩
              | exact ⟨_, aor, capr, rfl, rfl, cj.meetB HKC.out.1.2.2.2 HO.out (by first | omega | (simp; done) | (simp; omega)) W24.heap.size (by omega) (by first | omega | (simp; done) | (simp; omega)) (by omega) ((hcC _ _ (by omega)).trans ((hcB _ _ (by omega)).trans ((hcA _ _ (by omega)).trans (World.cell?_alloc_at _ _ _ _ rfl)))) ((hcC _ _ (by omega)).trans ((hcB _ _ (by omega)).trans ((hcA _ _ (by omega)).trans (World.cell?_alloc_at _ _ _ _ rfl))))⟩
        case rest =>
          obtain ⟨g25, ao25, cap25, rfl, rfl, c025, c125, o25, hg25, hk25, b25⟩ := hcut
          generalize wc = W25 at *
          have On25 := sl.hid o25
          clear o25
          have hzW25 : W24.heap.size ≤ W25.heap.size := b25.size
          have kp0_0W25 := (b25.cell (p := ⟨w.heap.size, 0, none⟩) (by show w.heap.size < W24.heap.size; omega)).trans kp0_0W24
          have kp0_1W25 := (b25.cell (p := ⟨w.heap.size, 1, none⟩) (by show w.heap.size < W24.heap.size; omega)).trans kp0_1W24
          have kp1_0W25 := (b25.cell (p := ⟨w.heap.size + 1, 0, none⟩) (by show w.heap.size + 1 < W24.heap.size; omega)).trans kp1_0W24
          have kp1_1W25 := (b25.cell (p := ⟨w.heap.size + 1, 1, none⟩) (by show w.heap.size + 1 < W24.heap.size; omega)).trans kp1_1W24
          have kbr_0W25 := (b25.cell (p := ⟨g6, 0, none⟩) (by show g6 < W24.heap.size; omega)).trans kbr_0W24
          have kbr_1W25 := (b25.cell (p := ⟨g6, 1, none⟩) (by show g6 < W24.heap.size; omega)).trans kbr_1W24
          have kbg_0W25 := (b25.cell (p := ⟨W11.heap.size, 0, none⟩) (by show W11.heap.size < W24.heap.size; omega)).trans kbg_0W24
          have kbg_1W25 := (b25.cell (p := ⟨W11.heap.size, 1, none⟩) (by show W11.heap.size < W24.heap.size; omega)).trans kbg_1W24
          have A0W25 := sl.hid (A0W24.out.chg (sl.Chg.ofBelow (lo := 0) b25) (.inr (Nat.zero_le _)))
          have A1W25 := sl.hid (A1W24.out.chg (sl.Chg.ofBelow (lo := 0) b25) (.inr (Nat.zero_le _)))
          have OrW25 := sl.hid (OrW24.out.chg (sl.Chg.ofBelow (lo := 0) b25) (.inr (.inr (Nat.zero_le _))))
          have OgW25 := sl.hid (OgW24.out.chg (sl.Chg.ofBelow (lo := 0) b25) (.inr (.inr (Nat.zero_le _))))
          have CW25 := sl.hid (CW24.out.trans (b25.mono (by show w.heap.size ≤ W24.heap.size; omega)))
          clear b25 kp0_0W24 kp0_1W24 kp1_0W24 kp1_1W24 kbr_0W24 kbr_1W24 kbg_0W24 kbg_1W24 A0W24 A1W24 OrW24 OgW24 CW24 HKW24 TB0W24 TB1W24 JPW24
          go_wp2_with fail
          refine (ct.eqCS sr zr _ _ _ _ W25 On25.out.infs OrW25.out.infs hr).mono ?_
          rintro e W26 ⟨rfl, b26⟩
          have hzW26 : W25.heap.size ≤ W26.heap.size := b26.size
          have kp0_0W26 := (b26.cell (p := ⟨w.heap.size, 0, none⟩) (by show w.heap.size < W25.heap.size; omega)).trans kp0_0W25
          have kp0_1W26 := (b26.cell (p := ⟨w.heap.size, 1, none⟩) (by show w.heap.size < W25.heap.size; omega)).trans kp0_1W25
          have kp1_0W26 := (b26.cell (p := ⟨w.heap.size + 1, 0, none⟩) (by show w.heap.size + 1 < W25.heap.size; omega)).trans kp1_0W25
          have kp1_1W26 := (b26.cell (p := ⟨w.heap.size + 1, 1, none⟩) (by show w.heap.size + 1 < W25.heap.size; omega)).trans kp1_1W25
          have kbr_0W26 := (b26.cell (p := ⟨g6, 0, none⟩) (by show g6 < W25.heap.size; omega)).trans kbr_0W25
          have kbr_1W26 := (b26.cell (p := ⟨g6, 1, none⟩) (by show g6 < W25.heap.size; omega)).trans kbr_1W25
          have kbg_0W26 := (b26.cell (p := ⟨W11.heap.size, 0, none⟩) (by show W11.heap.size < W25.heap.size; omega)).trans kbg_0W25
          have kbg_1W26 := (b26.cell (p := ⟨W11.heap.size, 1, none⟩) (by show W11.heap.size < W25.heap.size; omega)).trans kbg_1W25
          have kbh_0W26 := (b26.cell (p := ⟨g25, 0, none⟩) (by show g25 < W25.heap.size; omega)).trans c025
          have kbh_1W26 := (b26.cell (p := ⟨g25, 1, none⟩) (by show g25 < W25.heap.size; omega)).trans c125
          have A0W26 := sl.hid (A0W25.out.chg (sl.Chg.ofBelow (lo := 0) b26) (.inr (Nat.zero_le _)))
          have A1W26 := sl.hid (A1W25.out.chg (sl.Chg.ofBelow (lo := 0) b26) (.inr (Nat.zero_le _)))
          have OrW26 := sl.hid (OrW25.out.chg (sl.Chg.ofBelow (lo := 0) b26) (.inr (.inr (Nat.zero_le _))))
          have OgW26 := sl.hid (OgW25.out.chg (sl.Chg.ofBelow (lo := 0) b26) (.inr (.inr (Nat.zero_le _))))
          have OhW26 := sl.hid (On25.out.chg (sl.Chg.ofBelow (lo := 0) b26) (.inr (.inr (Nat.zero_le _))))
          have CW26 := sl.hid (CW25.out.trans (b26.mono (by show w.heap.size ≤ W25.heap.size; omega)))
          clear b26 kp0_0W25 kp0_1W25 kp1_0W25 kp1_1W25 kbr_0W25 kbr_1W25 kbg_0W25 kbg_1W25 c025 c125 A0W25 A1W25 OrW25 OgW25 On25 CW25
          go_wp2_with fail
          refine (ct.heldC sr zr _ _ 1 W26 OgW26.out.infs hr htt (by omega) (by omega)).mono ?_
          rintro e W27 ⟨rfl, b27⟩
          have hzW27 : W26.heap.size ≤ W27.heap.size := b27.size
          have kp0_0W27 := (b27.cell (p := ⟨w.heap.size, 0, none⟩) (by show w.heap.size < W26.heap.size; omega)).trans kp0_0W26
          have kp0_1W27 := (b27.cell (p := ⟨w.heap.size, 1, none⟩) (by show w.heap.size < W26.heap.size; omega)).trans kp0_1W26
          have kp1_0W27 := (b27.cell (p := ⟨w.heap.size + 1, 0, none⟩) (by show w.heap.size + 1 < W26.heap.size; omega)).trans kp1_0W26
          have kp1_1W27 := (b27.cell (p := ⟨w.heap.size + 1, 1, none⟩) (by show w.heap.size + 1 < W26.heap.size; omega)).trans kp1_1W26
          have kbr_0W27 := (b27.cell (p := ⟨g6, 0, none⟩) (by show g6 < W26.heap.size; omega)).trans kbr_0W26
          have kbr_1W27 := (b27.cell (p := ⟨g6, 1, none⟩) (by show g6 < W26.heap.size; omega)).trans kbr_1W26
          have kbg_0W27 := (b27.cell (p := ⟨W11.heap.size, 0, none⟩) (by show W11.heap.size < W26.heap.size; omega)).trans kbg_0W26
          have kbg_1W27 := (b27.cell (p := ⟨W11.heap.size, 1, none⟩) (by show W11.heap.size < W26.heap.size; omega)).trans kbg_1W26
          have kbh_0W27 := (b27.cell (p := ⟨g25, 0, none⟩) (by show g25 < W26.heap.size; omega)).trans kbh_0W26
          have kbh_1W27 := (b27.cell (p := ⟨g25, 1, none⟩) (by show g25 < W26.heap.size; omega)).trans kbh_1W26
          have A0W27 := sl.hid (A0W26.out.chg (sl.Chg.ofBelow (lo := 0) b27) (.inr (Nat.zero_le _)))
          have A1W27 := sl.hid (A1W26.out.chg (sl.Chg.ofBelow (lo := 0) b27) (.inr (Nat.zero_le _)))
          have OrW27 := sl.hid (OrW26.out.chg (sl.Chg.ofBelow (lo := 0) b27) (.inr (.inr (Nat.zero_le _))))
          have OgW27 := sl.hid (OgW26.out.chg (sl.Chg.ofBelow (lo := 0) b27) (.inr (.inr (Nat.zero_le _))))
          have OhW27 := sl.hid (OhW26.out.chg (sl.Chg.ofBelow (lo := 0) b27) (.inr (.inr (Nat.zero_le _))))
          have CW27 := sl.hid (CW26.out.trans (b27.mono (by show w.heap.size ≤ W26.heap.size; omega)))
          clear b27 kp0_0W26 kp0_1W26 kp1_0W26 kp1_1W26 kbr_0W26 kbr_1W26 kbg_0W26 kbg_1W26 kbh_0W26 kbh_1W26 A0W26 A1W26 OrW26 OgW26 OhW26 CW26
          go_wp2
          go_ret
          exact ⟨rfl, CW27.out⟩
end Go.Proofs.YtbbnheiibkcgiabDoor.wbesideCharts
