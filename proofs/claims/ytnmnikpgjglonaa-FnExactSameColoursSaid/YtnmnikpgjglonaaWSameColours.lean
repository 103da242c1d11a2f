/-
  The walk of the law of SameColours.
-/
import Derived.Test.YtnmnikpgjglonaaVc0
import Derived.Test.YtnmnikpgjglonaaL5
import Derived.Deep.RegionHeld3
namespace Go.Proofs.Ytnmnikpgjglonaa.wsameColours
open Go.RowKit
set_option linter.unusedVariables false

set_option maxRecDepth 100000 in
set_option maxHeartbeats 20000000 in
theorem law (a0 : Int) (f0_0 : Value) (xs0 : List (List Int)) (a1 : Int) (f1_0 : Value) (xs1 : List (List Int)) (w : World) (hi0 : ss.RowsIn w f0_0 xs0) (ha0 : -9223372036854775808 ≤ a0 ∧ a0 ≤ 9223372036854775807) (hi1 : ss.RowsIn w f1_0 xs1) (ha1 : -9223372036854775808 ≤ a1 ∧ a1 ≤ 9223372036854775807) :
    Calls Try.prog 4 #[.agg #[.int .i64 a0, f0_0], .agg #[.int .i64 a1, f1_0]] w fun e w' => e = .returned (.bool true) ∧ Below w.heap.size w w' := by
  have HI0 := sl.hid hi0.rd
  have HI1 := sl.hid hi1.rd
  have HZ0 := sl.hid (fun W B h => cu.szK a0 xs0 f0_0 B (1048576) W h hi0.len hi0.short (by omega) (by omega))
  rcases ss.szR_pos (rows := xs0) (left := 1048576) (by omega) with hzc0 | hzc0
  · rw [hzc0] at HZ0
    clear hzc0 hi0 hi1 ha0 ha1
    go_enter Try.func4, Try.ntmps4
    go_wp2_with fail
    have bE : Below w.heap.size w ((w.alloc (.cells #[.int .i64 a0, f0_0] 24)).alloc (.cells #[.int .i64 a1, f1_0] 24)) := (((Below.refl w.heap.size w).alloc (by simp) _).alloc (by simp) _)
    have hzW0 : w.heap.size + 2 ≤ ((w.alloc (.cells #[.int .i64 a0, f0_0] 24)).alloc (.cells #[.int .i64 a1, f1_0] 24)).heap.size := by simp
    have kp0_0W0 : ((w.alloc (.cells #[.int .i64 a0, f0_0] 24)).alloc (.cells #[.int .i64 a1, f1_0] 24)).cell? ⟨w.heap.size, 0, none⟩ = some (.int .i64 a0) := (World.cell?_alloc_past _ _ _ (by first | (simp; done) | (simp; omega))).trans (World.cell?_alloc_at _ _ _ _ (by simp))
    have kp0_1W0 : ((w.alloc (.cells #[.int .i64 a0, f0_0] 24)).alloc (.cells #[.int .i64 a1, f1_0] 24)).cell? ⟨w.heap.size, 1, none⟩ = some (f0_0) := (World.cell?_alloc_past _ _ _ (by first | (simp; done) | (simp; omega))).trans (World.cell?_alloc_at _ _ _ _ (by simp))
    have kp1_0W0 : ((w.alloc (.cells #[.int .i64 a0, f0_0] 24)).alloc (.cells #[.int .i64 a1, f1_0] 24)).cell? ⟨w.heap.size + 1, 0, none⟩ = some (.int .i64 a1) := World.cell?_alloc_at _ _ _ _ (by simp)
    have kp1_1W0 : ((w.alloc (.cells #[.int .i64 a0, f0_0] 24)).alloc (.cells #[.int .i64 a1, f1_0] 24)).cell? ⟨w.heap.size + 1, 1, none⟩ = some (f1_0) := World.cell?_alloc_at _ _ _ _ (by simp)
    have A0W0 := sl.hid (HI0.out.chg (sl.Chg.ofBelow (lo := 0) bE) (.inr (Nat.zero_le _)))
    have A1W0 := sl.hid (HI1.out.chg (sl.Chg.ofBelow (lo := 0) bE) (.inr (Nat.zero_le _)))
    have CW0 := sl.hid bE
    clear bE HI0 HI1
    generalize ((w.alloc (.cells #[.int .i64 a0, f0_0] 24)).alloc (.cells #[.int .i64 a1, f1_0] 24)) = W0 at *
    go_wp2_with fail
    refine (HZ0.out W0 _ A0W0.out).mono ?_
    rintro e W1 ⟨rfl, b1⟩
    have hzW1 : W0.heap.size ≤ W1.heap.size := b1.size
    have kp0_0W1 := (b1.cell (p := ⟨w.heap.size, 0, none⟩) (by show w.heap.size < W0.heap.size; omega)).trans kp0_0W0
    have kp0_1W1 := (b1.cell (p := ⟨w.heap.size, 1, none⟩) (by show w.heap.size < W0.heap.size; omega)).trans kp0_1W0
    have kp1_0W1 := (b1.cell (p := ⟨w.heap.size + 1, 0, none⟩) (by show w.heap.size + 1 < W0.heap.size; omega)).trans kp1_0W0
    have kp1_1W1 := (b1.cell (p := ⟨w.heap.size + 1, 1, none⟩) (by show w.heap.size + 1 < W0.heap.size; omega)).trans kp1_1W0
    have A0W1 := sl.hid (A0W0.out.chg (sl.Chg.ofBelow (lo := 0) b1) (.inr (Nat.zero_le _)))
    have A1W1 := sl.hid (A1W0.out.chg (sl.Chg.ofBelow (lo := 0) b1) (.inr (Nat.zero_le _)))
    have CW1 := sl.hid (CW0.out.trans (b1.mono (by show w.heap.size ≤ W0.heap.size; omega)))
    clear b1 kp0_0W0 kp0_1W0 kp1_0W0 kp1_1W0 A0W0 A1W0 CW0
    go_wp2
    go_ret
    exact ⟨rfl, CW1.out⟩
  · have HQ0 := sl.hid (nb.small_of (by omega) (by omega) hzc0)
    have hzl0 := (ss.szR_bound (rows := xs0) (left := 1048576) (by omega) hzc0).1
    generalize ss.szR 1048576 xs0 = z0 at *
    have HZ1 := sl.hid (fun W B h => cu.szK a1 xs1 f1_0 B (z0) W h hi1.len hi1.short (by omega) (by omega))
    rcases ss.szR_pos (rows := xs1) (left := z0) (by omega) with hzc1 | hzc1
    · rw [hzc1] at HZ1
      clear hzc1 hi0 hi1 ha0 ha1
      go_enter Try.func4, Try.ntmps4
      go_wp2_with fail
      have bE : Below w.heap.size w ((w.alloc (.cells #[.int .i64 a0, f0_0] 24)).alloc (.cells #[.int .i64 a1, f1_0] 24)) := (((Below.refl w.heap.size w).alloc (by simp) _).alloc (by simp) _)
      have hzW0 : w.heap.size + 2 ≤ ((w.alloc (.cells #[.int .i64 a0, f0_0] 24)).alloc (.cells #[.int .i64 a1, f1_0] 24)).heap.size := by simp
      have kp0_0W0 : ((w.alloc (.cells #[.int .i64 a0, f0_0] 24)).alloc (.cells #[.int .i64 a1, f1_0] 24)).cell? ⟨w.heap.size, 0, none⟩ = some (.int .i64 a0) := (World.cell?_alloc_past _ _ _ (by first | (simp; done) | (simp; omega))).trans (World.cell?_alloc_at _ _ _ _ (by simp))
      have kp0_1W0 : ((w.alloc (.cells #[.int .i64 a0, f0_0] 24)).alloc (.cells #[.int .i64 a1, f1_0] 24)).cell? ⟨w.heap.size, 1, none⟩ = some (f0_0) := (World.cell?_alloc_past _ _ _ (by first | (simp; done) | (simp; omega))).trans (World.cell?_alloc_at _ _ _ _ (by simp))
      have kp1_0W0 : ((w.alloc (.cells #[.int .i64 a0, f0_0] 24)).alloc (.cells #[.int .i64 a1, f1_0] 24)).cell? ⟨w.heap.size + 1, 0, none⟩ = some (.int .i64 a1) := World.cell?_alloc_at _ _ _ _ (by simp)
      have kp1_1W0 : ((w.alloc (.cells #[.int .i64 a0, f0_0] 24)).alloc (.cells #[.int .i64 a1, f1_0] 24)).cell? ⟨w.heap.size + 1, 1, none⟩ = some (f1_0) := World.cell?_alloc_at _ _ _ _ (by simp)
      have A0W0 := sl.hid (HI0.out.chg (sl.Chg.ofBelow (lo := 0) bE) (.inr (Nat.zero_le _)))
      have A1W0 := sl.hid (HI1.out.chg (sl.Chg.ofBelow (lo := 0) bE) (.inr (Nat.zero_le _)))
      have CW0 := sl.hid bE
      clear bE HI0 HI1
      generalize ((w.alloc (.cells #[.int .i64 a0, f0_0] 24)).alloc (.cells #[.int .i64 a1, f1_0] 24)) = W0 at *
      go_wp2_with fail
      refine (HZ0.out W0 _ A0W0.out).mono ?_
      rintro e W2 ⟨rfl, b2⟩
      have hzW2 : W0.heap.size ≤ W2.heap.size := b2.size
      have kp0_0W2 := (b2.cell (p := ⟨w.heap.size, 0, none⟩) (by show w.heap.size < W0.heap.size; omega)).trans kp0_0W0
      have kp0_1W2 := (b2.cell (p := ⟨w.heap.size, 1, none⟩) (by show w.heap.size < W0.heap.size; omega)).trans kp0_1W0
      have kp1_0W2 := (b2.cell (p := ⟨w.heap.size + 1, 0, none⟩) (by show w.heap.size + 1 < W0.heap.size; omega)).trans kp1_0W0
      have kp1_1W2 := (b2.cell (p := ⟨w.heap.size + 1, 1, none⟩) (by show w.heap.size + 1 < W0.heap.size; omega)).trans kp1_1W0
      have A0W2 := sl.hid (A0W0.out.chg (sl.Chg.ofBelow (lo := 0) b2) (.inr (Nat.zero_le _)))
      have A1W2 := sl.hid (A1W0.out.chg (sl.Chg.ofBelow (lo := 0) b2) (.inr (Nat.zero_le _)))
      have CW2 := sl.hid (CW0.out.trans (b2.mono (by show w.heap.size ≤ W0.heap.size; omega)))
      clear b2 kp0_0W0 kp0_1W0 kp1_0W0 kp1_1W0 A0W0 A1W0 CW0
      go_wp2_with fail
      refine (HZ1.out W2 _ A1W2.out).mono ?_
      rintro e W3 ⟨rfl, b3⟩
      have hzW3 : W2.heap.size ≤ W3.heap.size := b3.size
      have kp0_0W3 := (b3.cell (p := ⟨w.heap.size, 0, none⟩) (by show w.heap.size < W2.heap.size; omega)).trans kp0_0W2
      have kp0_1W3 := (b3.cell (p := ⟨w.heap.size, 1, none⟩) (by show w.heap.size < W2.heap.size; omega)).trans kp0_1W2
      have kp1_0W3 := (b3.cell (p := ⟨w.heap.size + 1, 0, none⟩) (by show w.heap.size + 1 < W2.heap.size; omega)).trans kp1_0W2
      have kp1_1W3 := (b3.cell (p := ⟨w.heap.size + 1, 1, none⟩) (by show w.heap.size + 1 < W2.heap.size; omega)).trans kp1_1W2
      have A0W3 := sl.hid (A0W2.out.chg (sl.Chg.ofBelow (lo := 0) b3) (.inr (Nat.zero_le _)))
      have A1W3 := sl.hid (A1W2.out.chg (sl.Chg.ofBelow (lo := 0) b3) (.inr (Nat.zero_le _)))
      have CW3 := sl.hid (CW2.out.trans (b3.mono (by show w.heap.size ≤ W2.heap.size; omega)))
      clear b3 kp0_0W2 kp0_1W2 kp1_0W2 kp1_1W2 A0W2 A1W2 CW2
      go_wp2
      go_ret
      exact ⟨rfl, CW3.out⟩
    · have HQ1 := sl.hid (nb.small_of (by omega) (by omega) hzc1)
      have hzl1 := (ss.szR_bound (rows := xs1) (left := z0) (by omega) hzc1).1
      generalize ss.szR z0 xs1 = z1 at *
      have SP : Hid (∀ (g0_0 : Value) (g1_0 : Value) (W : World) (B0 : Nat) (B1 : Nat), ss.Rows W B0 g0_0 xs0 → B0 ≤ W.heap.size → ss.Rows W B1 g1_0 xs1 → B1 ≤ W.heap.size → Calls Try.prog 15 #[.agg #[.int .i64 a0, g0_0], .agg #[.int .i64 a1, g1_0]] W fun e w' => e = .returned (.bool (cu.sameK a0 xs0 a1 xs1)) ∧ Below W.heap.size W w') := sl.hid (fun g0_0 g1_0 W B0 B1 j0 l0 j1 l1 => cu.specSK a0 xs0 a1 xs1 g0_0 g1_0 B0 B1 W j0 l0 j1 l1 HQ0.out HQ1.out )
      have IP : Hid (∀ (g0_0 : Value) (g1_0 : Value) (W : World) (B0 : Nat) (B1 : Nat), ss.Rows W B0 g0_0 xs0 → B0 ≤ W.heap.size → ss.Rows W B1 g1_0 xs1 → B1 ≤ W.heap.size → Calls Try.prog 16 #[.agg #[.int .i64 a0, g0_0], .agg #[.int .i64 a1, g1_0]] W fun e w' => e = .returned (.bool (cu.sameK a0 xs0 a1 xs1)) ∧ Below W.heap.size W w') := sl.hid (fun g0_0 g1_0 W B0 B1 j0 l0 j1 l1 => cu.implSK a0 xs0 a1 xs1 g0_0 g1_0 B0 B1 W j0 l0 j1 l1 HQ0.out HQ1.out )
      generalize cu.sameK a0 xs0 a1 xs1 = q0 at *
      clear hi0 hi1 ha0 ha1
      go_enter Try.func4, Try.ntmps4
      go_wp2_with fail
      have bE : Below w.heap.size w ((w.alloc (.cells #[.int .i64 a0, f0_0] 24)).alloc (.cells #[.int .i64 a1, f1_0] 24)) := (((Below.refl w.heap.size w).alloc (by simp) _).alloc (by simp) _)
      have hzW0 : w.heap.size + 2 ≤ ((w.alloc (.cells #[.int .i64 a0, f0_0] 24)).alloc (.cells #[.int .i64 a1, f1_0] 24)).heap.size := by simp
      have kp0_0W0 : ((w.alloc (.cells #[.int .i64 a0, f0_0] 24)).alloc (.cells #[.int .i64 a1, f1_0] 24)).cell? ⟨w.heap.size, 0, none⟩ = some (.int .i64 a0) := (World.cell?_alloc_past _ _ _ (by first | (simp; done) | (simp; omega))).trans (World.cell?_alloc_at _ _ _ _ (by simp))
      have kp0_1W0 : ((w.alloc (.cells #[.int .i64 a0, f0_0] 24)).alloc (.cells #[.int .i64 a1, f1_0] 24)).cell? ⟨w.heap.size, 1, none⟩ = some (f0_0) := (World.cell?_alloc_past _ _ _ (by first | (simp; done) | (simp; omega))).trans (World.cell?_alloc_at _ _ _ _ (by simp))
      have kp1_0W0 : ((w.alloc (.cells #[.int .i64 a0, f0_0] 24)).alloc (.cells #[.int .i64 a1, f1_0] 24)).cell? ⟨w.heap.size + 1, 0, none⟩ = some (.int .i64 a1) := World.cell?_alloc_at _ _ _ _ (by simp)
      have kp1_1W0 : ((w.alloc (.cells #[.int .i64 a0, f0_0] 24)).alloc (.cells #[.int .i64 a1, f1_0] 24)).cell? ⟨w.heap.size + 1, 1, none⟩ = some (f1_0) := World.cell?_alloc_at _ _ _ _ (by simp)
      have A0W0 := sl.hid (HI0.out.chg (sl.Chg.ofBelow (lo := 0) bE) (.inr (Nat.zero_le _)))
      have A1W0 := sl.hid (HI1.out.chg (sl.Chg.ofBelow (lo := 0) bE) (.inr (Nat.zero_le _)))
      have CW0 := sl.hid bE
      clear bE HI0 HI1
      generalize ((w.alloc (.cells #[.int .i64 a0, f0_0] 24)).alloc (.cells #[.int .i64 a1, f1_0] 24)) = W0 at *
      go_wp2_with fail
      refine (HZ0.out W0 _ A0W0.out).mono ?_
      rintro e W4 ⟨rfl, b4⟩
      have hzW4 : W0.heap.size ≤ W4.heap.size := b4.size
      have kp0_0W4 := (b4.cell (p := ⟨w.heap.size, 0, none⟩) (by show w.heap.size < W0.heap.size; omega)).trans kp0_0W0
      have kp0_1W4 := (b4.cell (p := ⟨w.heap.size, 1, none⟩) (by show w.heap.size < W0.heap.size; omega)).trans kp0_1W0
      have kp1_0W4 := (b4.cell (p := ⟨w.heap.size + 1, 0, none⟩) (by show w.heap.size + 1 < W0.heap.size; omega)).trans kp1_0W0
      have kp1_1W4 := (b4.cell (p := ⟨w.heap.size + 1, 1, none⟩) (by show w.heap.size + 1 < W0.heap.size; omega)).trans kp1_1W0
      have A0W4 := sl.hid (A0W0.out.chg (sl.Chg.ofBelow (lo := 0) b4) (.inr (Nat.zero_le _)))
      have A1W4 := sl.hid (A1W0.out.chg (sl.Chg.ofBelow (lo := 0) b4) (.inr (Nat.zero_le _)))
      have CW4 := sl.hid (CW0.out.trans (b4.mono (by show w.heap.size ≤ W0.heap.size; omega)))
      clear b4 kp0_0W0 kp0_1W0 kp1_0W0 kp1_1W0 A0W0 A1W0 CW0
      go_wp2_with fail
      refine (HZ1.out W4 _ A1W4.out).mono ?_
      rintro e W5 ⟨rfl, b5⟩
      have hzW5 : W4.heap.size ≤ W5.heap.size := b5.size
      have kp0_0W5 := (b5.cell (p := ⟨w.heap.size, 0, none⟩) (by show w.heap.size < W4.heap.size; omega)).trans kp0_0W4
      have kp0_1W5 := (b5.cell (p := ⟨w.heap.size, 1, none⟩) (by show w.heap.size < W4.heap.size; omega)).trans kp0_1W4
      have kp1_0W5 := (b5.cell (p := ⟨w.heap.size + 1, 0, none⟩) (by show w.heap.size + 1 < W4.heap.size; omega)).trans kp1_0W4
      have kp1_1W5 := (b5.cell (p := ⟨w.heap.size + 1, 1, none⟩) (by show w.heap.size + 1 < W4.heap.size; omega)).trans kp1_1W4
      have A0W5 := sl.hid (A0W4.out.chg (sl.Chg.ofBelow (lo := 0) b5) (.inr (Nat.zero_le _)))
      have A1W5 := sl.hid (A1W4.out.chg (sl.Chg.ofBelow (lo := 0) b5) (.inr (Nat.zero_le _)))
      have CW5 := sl.hid (CW4.out.trans (b5.mono (by show w.heap.size ≤ W4.heap.size; omega)))
      clear b5 kp0_0W4 kp0_1W4 kp1_0W4 kp1_1W4 A0W4 A1W4 CW4
      go_wp2_with fail
      have bD := (Below.refl W5.heap.size W5).drew
      have A0dW5 := sl.hid (A0W5.out.chg (sl.Chg.ofBelow (lo := 0) bD) (.inr (Nat.zero_le _)))
      have A1dW5 := sl.hid (A1W5.out.chg (sl.Chg.ofBelow (lo := 0) bD) (.inr (Nat.zero_le _)))
      have CdW5 := sl.hid (CW5.out.drew)
      clear bD A0W5 A1W5 CW5
      go_region_held3 (fun w' => w'.cell? ⟨w.heap.size, 0, none⟩ = some (.int .i64 a0) ∧ w'.cell? ⟨w.heap.size, 1, none⟩ = some (f0_0) ∧ w'.cell? ⟨w.heap.size + 1, 0, none⟩ = some (.int .i64 a1) ∧ w'.cell? ⟨w.heap.size + 1, 1, none⟩ = some (f1_0)) (go_keep)
        (first
          | (go_at_call_of 12 (Value.agg #[.int .i64 a0, f0_0])
             have hchk := HIc1
             refine (cu.toK a0 xs0 f0_0 _ _ A0W6.out (by show w.heap.size ≤ W6.heap.size; omega) HQ0.out).mono ?_
             rintro e W7 ⟨fc0_0, rfl, oc0, bB⟩
             have HJ0 := sl.hid oc0.rows
             have HJ1 := sl.hid ((HIc1.out.chg (sl.Chg.ofBelow (lo := 0) bB) (.inr (Nat.zero_le _))).mono bB.size)
             have hzW7 : W6.heap.size ≤ W7.heap.size := bB.size
             have kp0_0W7 := (bB.cell (p := ⟨w.heap.size, 0, none⟩) (by show w.heap.size < W6.heap.size; omega)).trans kp0_0W6
             have kp0_1W7 := (bB.cell (p := ⟨w.heap.size, 1, none⟩) (by show w.heap.size < W6.heap.size; omega)).trans kp0_1W6
             have kp1_0W7 := (bB.cell (p := ⟨w.heap.size + 1, 0, none⟩) (by show w.heap.size + 1 < W6.heap.size; omega)).trans kp1_0W6
             have kp1_1W7 := (bB.cell (p := ⟨w.heap.size + 1, 1, none⟩) (by show w.heap.size + 1 < W6.heap.size; omega)).trans kp1_1W6
             have A0W7 := sl.hid (A0W6.out.chg (sl.Chg.ofBelow (lo := 0) bB) (.inr (Nat.zero_le _)))
             have A1W7 := sl.hid (A1W6.out.chg (sl.Chg.ofBelow (lo := 0) bB) (.inr (Nat.zero_le _)))
             have CW7 := sl.hid (CW6.out.trans (bB.mono (by show w.heap.size ≤ W6.heap.size; omega)))
             clear oc0 HIc1 hchk bB kp0_0W6 kp0_1W6 kp1_0W6 kp1_1W6 A0W6 A1W6 CW6)
          | (go_at_call_of 12 (Value.agg #[.int .i64 a1, f1_0])
             have hchk := HIc0
             refine (cu.toK a1 xs1 f1_0 _ _ A1W6.out (by show w.heap.size ≤ W6.heap.size; omega) HQ1.out).mono ?_
             rintro e W7 ⟨fc1_0, rfl, oc1, bB⟩
             have HJ1 := sl.hid oc1.rows
             have HJ0 := sl.hid ((HIc0.out.chg (sl.Chg.ofBelow (lo := 0) bB) (.inr (Nat.zero_le _))).mono bB.size)
             have hzW7 : W6.heap.size ≤ W7.heap.size := bB.size
             have kp0_0W7 := (bB.cell (p := ⟨w.heap.size, 0, none⟩) (by show w.heap.size < W6.heap.size; omega)).trans kp0_0W6
             have kp0_1W7 := (bB.cell (p := ⟨w.heap.size, 1, none⟩) (by show w.heap.size < W6.heap.size; omega)).trans kp0_1W6
             have kp1_0W7 := (bB.cell (p := ⟨w.heap.size + 1, 0, none⟩) (by show w.heap.size + 1 < W6.heap.size; omega)).trans kp1_0W6
             have kp1_1W7 := (bB.cell (p := ⟨w.heap.size + 1, 1, none⟩) (by show w.heap.size + 1 < W6.heap.size; omega)).trans kp1_1W6
             have A0W7 := sl.hid (A0W6.out.chg (sl.Chg.ofBelow (lo := 0) bB) (.inr (Nat.zero_le _)))
             have A1W7 := sl.hid (A1W6.out.chg (sl.Chg.ofBelow (lo := 0) bB) (.inr (Nat.zero_le _)))
             have CW7 := sl.hid (CW6.out.trans (bB.mono (by show w.heap.size ≤ W6.heap.size; omega)))
             clear oc1 HIc0 hchk bB kp0_0W6 kp0_1W6 kp1_0W6 kp1_1W6 A0W6 A1W6 CW6)
          | (go_at_call_of 12 (Value.agg #[.int .i64 a0, f0_0])
             refine (cu.toK a0 xs0 f0_0 _ _ A0dW5.out (by show w.heap.size ≤ W5.heap.size; omega) HQ0.out).mono ?_
             rintro e W6 ⟨fc0_0, rfl, oc0, bA⟩
             have HIc0 := sl.hid oc0.rows
             have hzW6 : W5.heap.size ≤ W6.heap.size := bA.size
             have kp0_0W6 := (bA.cell (p := ⟨w.heap.size, 0, none⟩) (by show w.heap.size < W5.heap.size; omega)).trans kp0_0W5
             have kp0_1W6 := (bA.cell (p := ⟨w.heap.size, 1, none⟩) (by show w.heap.size < W5.heap.size; omega)).trans kp0_1W5
             have kp1_0W6 := (bA.cell (p := ⟨w.heap.size + 1, 0, none⟩) (by show w.heap.size + 1 < W5.heap.size; omega)).trans kp1_0W5
             have kp1_1W6 := (bA.cell (p := ⟨w.heap.size + 1, 1, none⟩) (by show w.heap.size + 1 < W5.heap.size; omega)).trans kp1_1W5
             have A0W6 := sl.hid (A0dW5.out.chg (sl.Chg.ofBelow (lo := 0) bA) (.inr (Nat.zero_le _)))
             have A1W6 := sl.hid (A1dW5.out.chg (sl.Chg.ofBelow (lo := 0) bA) (.inr (Nat.zero_le _)))
             have CW6 := sl.hid (CdW5.out.trans (bA.mono (by show w.heap.size ≤ W5.heap.size; omega)))
             clear oc0 bA kp0_0W5 kp0_1W5 kp1_0W5 kp1_1W5 A0dW5 A1dW5 CdW5)
          | (go_at_call_of 12 (Value.agg #[.int .i64 a1, f1_0])
             refine (cu.toK a1 xs1 f1_0 _ _ A1dW5.out (by show w.heap.size ≤ W5.heap.size; omega) HQ1.out).mono ?_
             rintro e W6 ⟨fc1_0, rfl, oc1, bA⟩
             have HIc1 := sl.hid oc1.rows
             have hzW6 : W5.heap.size ≤ W6.heap.size := bA.size
             have kp0_0W6 := (bA.cell (p := ⟨w.heap.size, 0, none⟩) (by show w.heap.size < W5.heap.size; omega)).trans kp0_0W5
             have kp0_1W6 := (bA.cell (p := ⟨w.heap.size, 1, none⟩) (by show w.heap.size < W5.heap.size; omega)).trans kp0_1W5
             have kp1_0W6 := (bA.cell (p := ⟨w.heap.size + 1, 0, none⟩) (by show w.heap.size + 1 < W5.heap.size; omega)).trans kp1_0W5
             have kp1_1W6 := (bA.cell (p := ⟨w.heap.size + 1, 1, none⟩) (by show w.heap.size + 1 < W5.heap.size; omega)).trans kp1_1W5
             have A0W6 := sl.hid (A0dW5.out.chg (sl.Chg.ofBelow (lo := 0) bA) (.inr (Nat.zero_le _)))
             have A1W6 := sl.hid (A1dW5.out.chg (sl.Chg.ofBelow (lo := 0) bA) (.inr (Nat.zero_le _)))
             have CW6 := sl.hid (CdW5.out.trans (bA.mono (by show w.heap.size ≤ W5.heap.size; omega)))
             clear oc1 bA kp0_0W5 kp0_1W5 kp1_0W5 kp1_1W5 A0dW5 A1dW5 CdW5)
          | (go_at_call 15
             refine (SP.out _ _ W7 _ _ HJ0.out (by omega) HJ1.out (by omega)).mono ?_
             rintro e W8 ⟨rfl, bC⟩
             have hzW8 : W7.heap.size ≤ W8.heap.size := bC.size
             have kp0_0W8 := (bC.cell (p := ⟨w.heap.size, 0, none⟩) (by show w.heap.size < W7.heap.size; omega)).trans kp0_0W7
             have kp0_1W8 := (bC.cell (p := ⟨w.heap.size, 1, none⟩) (by show w.heap.size < W7.heap.size; omega)).trans kp0_1W7
             have kp1_0W8 := (bC.cell (p := ⟨w.heap.size + 1, 0, none⟩) (by show w.heap.size + 1 < W7.heap.size; omega)).trans kp1_0W7
             have kp1_1W8 := (bC.cell (p := ⟨w.heap.size + 1, 1, none⟩) (by show w.heap.size + 1 < W7.heap.size; omega)).trans kp1_1W7
             have A0W8 := sl.hid (A0W7.out.chg (sl.Chg.ofBelow (lo := 0) bC) (.inr (Nat.zero_le _)))
             have A1W8 := sl.hid (A1W7.out.chg (sl.Chg.ofBelow (lo := 0) bC) (.inr (Nat.zero_le _)))
             have CW8 := sl.hid (CW7.out.trans (bC.mono (by show w.heap.size ≤ W7.heap.size; omega)))
             clear HJ0 HJ1 bC kp0_0W7 kp0_1W7 kp1_0W7 kp1_1W7 A0W7 A1W7 CW7))
      all_goals
        go_wp2_with fail
        refine (cu.toK a0 xs0 f0_0 _ W8 A0W8.out (by omega) HQ0.out).mono ?_
        rintro e W9 ⟨f0_0_9, rfl, o9, b9⟩
        obtain ⟨ao9_0, ln9_0, cp9_0, rfl⟩ := cu.kval o9
        have On9 := sl.hid o9
        clear o9
        have hzW9 : W8.heap.size ≤ W9.heap.size := b9.size
        have kp0_0W9 := (b9.cell (p := ⟨w.heap.size, 0, none⟩) (by show w.heap.size < W8.heap.size; omega)).trans kp0_0W8
        have kp0_1W9 := (b9.cell (p := ⟨w.heap.size, 1, none⟩) (by show w.heap.size < W8.heap.size; omega)).trans kp0_1W8
        have kp1_0W9 := (b9.cell (p := ⟨w.heap.size + 1, 0, none⟩) (by show w.heap.size + 1 < W8.heap.size; omega)).trans kp1_0W8
        have kp1_1W9 := (b9.cell (p := ⟨w.heap.size + 1, 1, none⟩) (by show w.heap.size + 1 < W8.heap.size; omega)).trans kp1_1W8
        have A0W9 := sl.hid (A0W8.out.chg (sl.Chg.ofBelow (lo := 0) b9) (.inr (Nat.zero_le _)))
        have A1W9 := sl.hid (A1W8.out.chg (sl.Chg.ofBelow (lo := 0) b9) (.inr (Nat.zero_le _)))
        have CW9 := sl.hid (CW8.out.trans (b9.mono (by show w.heap.size ≤ W8.heap.size; omega)))
        clear b9 kp0_0W8 kp0_1W8 kp1_0W8 kp1_1W8 A0W8 A1W8 CW8
        have bE : Below W9.heap.size W9 (W9.alloc (.cells #[.int .i64 a0, .slice ao9_0 ln9_0 cp9_0] 27)) := (Below.refl _ _).alloc (Nat.le_refl _) _
        have kx0_0W10 : (W9.alloc (.cells #[.int .i64 a0, .slice ao9_0 ln9_0 cp9_0] 27)).cell? ⟨W9.heap.size, 0, none⟩ = some (.int .i64 a0) := World.cell?_alloc_at _ _ _ _ rfl
        have kx0_1W10 : (W9.alloc (.cells #[.int .i64 a0, .slice ao9_0 ln9_0 cp9_0] 27)).cell? ⟨W9.heap.size, 1, none⟩ = some (.slice ao9_0 ln9_0 cp9_0) := World.cell?_alloc_at _ _ _ _ rfl
        have hsW10 : W9.heap.size < (W9.alloc (.cells #[.int .i64 a0, .slice ao9_0 ln9_0 cp9_0] 27)).heap.size := by simp
        have hzW10 : W9.heap.size ≤ (W9.alloc (.cells #[.int .i64 a0, .slice ao9_0 ln9_0 cp9_0] 27)).heap.size := bE.size
        have kp0_0W10 := (bE.cell (p := ⟨w.heap.size, 0, none⟩) (by show w.heap.size < W9.heap.size; omega)).trans kp0_0W9
        have kp0_1W10 := (bE.cell (p := ⟨w.heap.size, 1, none⟩) (by show w.heap.size < W9.heap.size; omega)).trans kp0_1W9
        have kp1_0W10 := (bE.cell (p := ⟨w.heap.size + 1, 0, none⟩) (by show w.heap.size + 1 < W9.heap.size; omega)).trans kp1_0W9
        have kp1_1W10 := (bE.cell (p := ⟨w.heap.size + 1, 1, none⟩) (by show w.heap.size + 1 < W9.heap.size; omega)).trans kp1_1W9
        have A0W10 := sl.hid (A0W9.out.chg (sl.Chg.ofBelow (lo := 0) bE) (.inr (Nat.zero_le _)))
        have A1W10 := sl.hid (A1W9.out.chg (sl.Chg.ofBelow (lo := 0) bE) (.inr (Nat.zero_le _)))
        have Ox0W10 := sl.hid (On9.out.chg (sl.Chg.ofBelow (lo := 0) bE) (.inr (.inr (Nat.zero_le _))))
        have CW10 := sl.hid (CW9.out.trans (bE.mono (by show w.heap.size ≤ W9.heap.size; omega)))
        clear bE kp0_0W9 kp0_1W9 kp1_0W9 kp1_1W9 A0W9 A1W9 On9 CW9
        go_wp2_with fail
        generalize (W9.alloc (.cells #[.int .i64 a0, .slice ao9_0 ln9_0 cp9_0] 27)) = W10 at *
        refine (cu.toK a1 xs1 f1_0 _ W10 A1W10.out (by omega) HQ1.out).mono ?_
        rintro e W11 ⟨f1_0_11, rfl, o11, b11⟩
        obtain ⟨ao11_0, ln11_0, cp11_0, rfl⟩ := cu.kval o11
        have On11 := sl.hid o11
        clear o11
        have hzW11 : W10.heap.size ≤ W11.heap.size := b11.size
        have kp0_0W11 := (b11.cell (p := ⟨w.heap.size, 0, none⟩) (by show w.heap.size < W10.heap.size; omega)).trans kp0_0W10
        have kp0_1W11 := (b11.cell (p := ⟨w.heap.size, 1, none⟩) (by show w.heap.size < W10.heap.size; omega)).trans kp0_1W10
        have kp1_0W11 := (b11.cell (p := ⟨w.heap.size + 1, 0, none⟩) (by show w.heap.size + 1 < W10.heap.size; omega)).trans kp1_0W10
        have kp1_1W11 := (b11.cell (p := ⟨w.heap.size + 1, 1, none⟩) (by show w.heap.size + 1 < W10.heap.size; omega)).trans kp1_1W10
        have kx0_0W11 := (b11.cell (p := ⟨W9.heap.size, 0, none⟩) (by show W9.heap.size < W10.heap.size; omega)).trans kx0_0W10
        have kx0_1W11 := (b11.cell (p := ⟨W9.heap.size, 1, none⟩) (by show W9.heap.size < W10.heap.size; omega)).trans kx0_1W10
        have A0W11 := sl.hid (A0W10.out.chg (sl.Chg.ofBelow (lo := 0) b11) (.inr (Nat.zero_le _)))
        have A1W11 := sl.hid (A1W10.out.chg (sl.Chg.ofBelow (lo := 0) b11) (.inr (Nat.zero_le _)))
        have Ox0W11 := sl.hid (Ox0W10.out.chg (sl.Chg.ofBelow (lo := 0) b11) (.inr (.inr (Nat.zero_le _))))
        have CW11 := sl.hid (CW10.out.trans (b11.mono (by show w.heap.size ≤ W10.heap.size; omega)))
        clear b11 kp0_0W10 kp0_1W10 kp1_0W10 kp1_1W10 kx0_0W10 kx0_1W10 A0W10 A1W10 Ox0W10 CW10
        have bE : Below W11.heap.size W11 (W11.alloc (.cells #[.int .i64 a1, .slice ao11_0 ln11_0 cp11_0] 27)) := (Below.refl _ _).alloc (Nat.le_refl _) _
        have kx1_0W12 : (W11.alloc (.cells #[.int .i64 a1, .slice ao11_0 ln11_0 cp11_0] 27)).cell? ⟨W11.heap.size, 0, none⟩ = some (.int .i64 a1) := World.cell?_alloc_at _ _ _ _ rfl
        have kx1_1W12 : (W11.alloc (.cells #[.int .i64 a1, .slice ao11_0 ln11_0 cp11_0] 27)).cell? ⟨W11.heap.size, 1, none⟩ = some (.slice ao11_0 ln11_0 cp11_0) := World.cell?_alloc_at _ _ _ _ rfl
        have hsW12 : W11.heap.size < (W11.alloc (.cells #[.int .i64 a1, .slice ao11_0 ln11_0 cp11_0] 27)).heap.size := by simp
        have hzW12 : W11.heap.size ≤ (W11.alloc (.cells #[.int .i64 a1, .slice ao11_0 ln11_0 cp11_0] 27)).heap.size := bE.size
        have kp0_0W12 := (bE.cell (p := ⟨w.heap.size, 0, none⟩) (by show w.heap.size < W11.heap.size; omega)).trans kp0_0W11
        have kp0_1W12 := (bE.cell (p := ⟨w.heap.size, 1, none⟩) (by show w.heap.size < W11.heap.size; omega)).trans kp0_1W11
        have kp1_0W12 := (bE.cell (p := ⟨w.heap.size + 1, 0, none⟩) (by show w.heap.size + 1 < W11.heap.size; omega)).trans kp1_0W11
        have kp1_1W12 := (bE.cell (p := ⟨w.heap.size + 1, 1, none⟩) (by show w.heap.size + 1 < W11.heap.size; omega)).trans kp1_1W11
        have kx0_0W12 := (bE.cell (p := ⟨W9.heap.size, 0, none⟩) (by show W9.heap.size < W11.heap.size; omega)).trans kx0_0W11
        have kx0_1W12 := (bE.cell (p := ⟨W9.heap.size, 1, none⟩) (by show W9.heap.size < W11.heap.size; omega)).trans kx0_1W11
        have A0W12 := sl.hid (A0W11.out.chg (sl.Chg.ofBelow (lo := 0) bE) (.inr (Nat.zero_le _)))
        have A1W12 := sl.hid (A1W11.out.chg (sl.Chg.ofBelow (lo := 0) bE) (.inr (Nat.zero_le _)))
        have Ox0W12 := sl.hid (Ox0W11.out.chg (sl.Chg.ofBelow (lo := 0) bE) (.inr (.inr (Nat.zero_le _))))
        have Ox1W12 := sl.hid (On11.out.chg (sl.Chg.ofBelow (lo := 0) bE) (.inr (.inr (Nat.zero_le _))))
        have CW12 := sl.hid (CW11.out.trans (bE.mono (by show w.heap.size ≤ W11.heap.size; omega)))
        clear bE kp0_0W11 kp0_1W11 kp1_0W11 kp1_1W11 kx0_0W11 kx0_1W11 A0W11 A1W11 Ox0W11 On11 CW11
        go_wp2_with fail
        generalize (W11.alloc (.cells #[.int .i64 a1, .slice ao11_0 ln11_0 cp11_0] 27)) = W12 at *
        refine (IP.out _ _ W12 _ _ Ox0W12.out.rows (by omega) Ox1W12.out.rows (by omega)).mono ?_
        rintro e W13 ⟨rfl, b13⟩
        have hzW13 : W12.heap.size ≤ W13.heap.size := b13.size
        have kp0_0W13 := (b13.cell (p := ⟨w.heap.size, 0, none⟩) (by show w.heap.size < W12.heap.size; omega)).trans kp0_0W12
        have kp0_1W13 := (b13.cell (p := ⟨w.heap.size, 1, none⟩) (by show w.heap.size < W12.heap.size; omega)).trans kp0_1W12
        have kp1_0W13 := (b13.cell (p := ⟨w.heap.size + 1, 0, none⟩) (by show w.heap.size + 1 < W12.heap.size; omega)).trans kp1_0W12
        have kp1_1W13 := (b13.cell (p := ⟨w.heap.size + 1, 1, none⟩) (by show w.heap.size + 1 < W12.heap.size; omega)).trans kp1_1W12
        have kx0_0W13 := (b13.cell (p := ⟨W9.heap.size, 0, none⟩) (by show W9.heap.size < W12.heap.size; omega)).trans kx0_0W12
        have kx0_1W13 := (b13.cell (p := ⟨W9.heap.size, 1, none⟩) (by show W9.heap.size < W12.heap.size; omega)).trans kx0_1W12
        have kx1_0W13 := (b13.cell (p := ⟨W11.heap.size, 0, none⟩) (by show W11.heap.size < W12.heap.size; omega)).trans kx1_0W12
        have kx1_1W13 := (b13.cell (p := ⟨W11.heap.size, 1, none⟩) (by show W11.heap.size < W12.heap.size; omega)).trans kx1_1W12
        have A0W13 := sl.hid (A0W12.out.chg (sl.Chg.ofBelow (lo := 0) b13) (.inr (Nat.zero_le _)))
        have A1W13 := sl.hid (A1W12.out.chg (sl.Chg.ofBelow (lo := 0) b13) (.inr (Nat.zero_le _)))
        have Ox0W13 := sl.hid (Ox0W12.out.chg (sl.Chg.ofBelow (lo := 0) b13) (.inr (.inr (Nat.zero_le _))))
        have Ox1W13 := sl.hid (Ox1W12.out.chg (sl.Chg.ofBelow (lo := 0) b13) (.inr (.inr (Nat.zero_le _))))
        have CW13 := sl.hid (CW12.out.trans (b13.mono (by show w.heap.size ≤ W12.heap.size; omega)))
        clear b13 kp0_0W12 kp0_1W12 kp1_0W12 kp1_1W12 kx0_0W12 kx0_1W12 kx1_0W12 kx1_1W12 A0W12 A1W12 Ox0W12 Ox1W12 CW12
        go_wp2_with fail
        have bD := (Below.refl W13.heap.size W13).drew
        have A0dW13 := sl.hid (A0W13.out.chg (sl.Chg.ofBelow (lo := 0) bD) (.inr (Nat.zero_le _)))
        have A1dW13 := sl.hid (A1W13.out.chg (sl.Chg.ofBelow (lo := 0) bD) (.inr (Nat.zero_le _)))
        have Ox0dW13 := sl.hid (Ox0W13.out.chg (sl.Chg.ofBelow (lo := 0) bD) (.inr (.inr (Nat.zero_le _))))
        have Ox1dW13 := sl.hid (Ox1W13.out.chg (sl.Chg.ofBelow (lo := 0) bD) (.inr (.inr (Nat.zero_le _))))
        have CdW13 := sl.hid (CW13.out.drew)
        clear bD A0W13 A1W13 Ox0W13 Ox1W13 CW13
        go_region_held3 (fun w' => w'.cell? ⟨w.heap.size, 0, none⟩ = some (.int .i64 a0) ∧ w'.cell? ⟨w.heap.size, 1, none⟩ = some (f0_0) ∧ w'.cell? ⟨W9.heap.size, 0, none⟩ = some (.int .i64 a0) ∧ w'.cell? ⟨W9.heap.size, 1, none⟩ = some (.slice ao9_0 ln9_0 cp9_0)) (go_keep)
          (first
            | (go_at_call 12
               refine (cu.toK a0 xs0 f0_0 _ _ A0dW13.out (by show w.heap.size ≤ W13.heap.size; omega) HQ0.out).mono ?_
               rintro e W15 ⟨fc0_0, rfl, oc0, bB⟩
               have HJ0 := sl.hid oc0.rows
               have hzW15 : W13.heap.size ≤ W15.heap.size := bB.size
               have kp0_0W15 := (bB.cell (p := ⟨w.heap.size, 0, none⟩) (by show w.heap.size < W13.heap.size; omega)).trans kp0_0W13
               have kp0_1W15 := (bB.cell (p := ⟨w.heap.size, 1, none⟩) (by show w.heap.size < W13.heap.size; omega)).trans kp0_1W13
               have kp1_0W15 := (bB.cell (p := ⟨w.heap.size + 1, 0, none⟩) (by show w.heap.size + 1 < W13.heap.size; omega)).trans kp1_0W13
               have kp1_1W15 := (bB.cell (p := ⟨w.heap.size + 1, 1, none⟩) (by show w.heap.size + 1 < W13.heap.size; omega)).trans kp1_1W13
               have kx0_0W15 := (bB.cell (p := ⟨W9.heap.size, 0, none⟩) (by show W9.heap.size < W13.heap.size; omega)).trans kx0_0W13
               have kx0_1W15 := (bB.cell (p := ⟨W9.heap.size, 1, none⟩) (by show W9.heap.size < W13.heap.size; omega)).trans kx0_1W13
               have kx1_0W15 := (bB.cell (p := ⟨W11.heap.size, 0, none⟩) (by show W11.heap.size < W13.heap.size; omega)).trans kx1_0W13
               have kx1_1W15 := (bB.cell (p := ⟨W11.heap.size, 1, none⟩) (by show W11.heap.size < W13.heap.size; omega)).trans kx1_1W13
               have A0W15 := sl.hid (A0dW13.out.chg (sl.Chg.ofBelow (lo := 0) bB) (.inr (Nat.zero_le _)))
               have A1W15 := sl.hid (A1dW13.out.chg (sl.Chg.ofBelow (lo := 0) bB) (.inr (Nat.zero_le _)))
               have Ox0W15 := sl.hid (Ox0dW13.out.chg (sl.Chg.ofBelow (lo := 0) bB) (.inr (.inr (Nat.zero_le _))))
               have Ox1W15 := sl.hid (Ox1dW13.out.chg (sl.Chg.ofBelow (lo := 0) bB) (.inr (.inr (Nat.zero_le _))))
               have CW15 := sl.hid (CdW13.out.trans (bB.mono (by show w.heap.size ≤ W13.heap.size; omega)))
               clear oc0 bB kp0_0W13 kp0_1W13 kp1_0W13 kp1_1W13 kx0_0W13 kx0_1W13 kx1_0W13 kx1_1W13 A0dW13 A1dW13 Ox0dW13 Ox1dW13 CdW13)
            | (go_at_call 14
               refine (cu.eqKS a0 xs0 _ _ _ _ W15 Ox0W15.out.rows HJ0.out HQ0.out).mono ?_
               rintro e W16 ⟨rfl, bC⟩
               have hzW16 : W15.heap.size ≤ W16.heap.size := bC.size
               have kp0_0W16 := (bC.cell (p := ⟨w.heap.size, 0, none⟩) (by show w.heap.size < W15.heap.size; omega)).trans kp0_0W15
               have kp0_1W16 := (bC.cell (p := ⟨w.heap.size, 1, none⟩) (by show w.heap.size < W15.heap.size; omega)).trans kp0_1W15
               have kp1_0W16 := (bC.cell (p := ⟨w.heap.size + 1, 0, none⟩) (by show w.heap.size + 1 < W15.heap.size; omega)).trans kp1_0W15
               have kp1_1W16 := (bC.cell (p := ⟨w.heap.size + 1, 1, none⟩) (by show w.heap.size + 1 < W15.heap.size; omega)).trans kp1_1W15
               have kx0_0W16 := (bC.cell (p := ⟨W9.heap.size, 0, none⟩) (by show W9.heap.size < W15.heap.size; omega)).trans kx0_0W15
               have kx0_1W16 := (bC.cell (p := ⟨W9.heap.size, 1, none⟩) (by show W9.heap.size < W15.heap.size; omega)).trans kx0_1W15
               have kx1_0W16 := (bC.cell (p := ⟨W11.heap.size, 0, none⟩) (by show W11.heap.size < W15.heap.size; omega)).trans kx1_0W15
               have kx1_1W16 := (bC.cell (p := ⟨W11.heap.size, 1, none⟩) (by show W11.heap.size < W15.heap.size; omega)).trans kx1_1W15
               have A0W16 := sl.hid (A0W15.out.chg (sl.Chg.ofBelow (lo := 0) bC) (.inr (Nat.zero_le _)))
               have A1W16 := sl.hid (A1W15.out.chg (sl.Chg.ofBelow (lo := 0) bC) (.inr (Nat.zero_le _)))
               have Ox0W16 := sl.hid (Ox0W15.out.chg (sl.Chg.ofBelow (lo := 0) bC) (.inr (.inr (Nat.zero_le _))))
               have Ox1W16 := sl.hid (Ox1W15.out.chg (sl.Chg.ofBelow (lo := 0) bC) (.inr (.inr (Nat.zero_le _))))
               have CW16 := sl.hid (CW15.out.trans (bC.mono (by show w.heap.size ≤ W15.heap.size; omega)))
               clear HJ0 bC kp0_0W15 kp0_1W15 kp1_0W15 kp1_1W15 kx0_0W15 kx0_1W15 kx1_0W15 kx1_1W15 A0W15 A1W15 Ox0W15 Ox1W15 CW15))
        go_wp2_with fail
        have bD := (Below.refl W16.heap.size W16).drew
        have A0dW16 := sl.hid (A0W16.out.chg (sl.Chg.ofBelow (lo := 0) bD) (.inr (Nat.zero_le _)))
        have A1dW16 := sl.hid (A1W16.out.chg (sl.Chg.ofBelow (lo := 0) bD) (.inr (Nat.zero_le _)))
        have Ox0dW16 := sl.hid (Ox0W16.out.chg (sl.Chg.ofBelow (lo := 0) bD) (.inr (.inr (Nat.zero_le _))))
        have Ox1dW16 := sl.hid (Ox1W16.out.chg (sl.Chg.ofBelow (lo := 0) bD) (.inr (.inr (Nat.zero_le _))))
        have CdW16 := sl.hid (CW16.out.drew)
        clear bD A0W16 A1W16 Ox0W16 Ox1W16 CW16
        go_region_held3 (fun w' => w'.cell? ⟨w.heap.size + 1, 0, none⟩ = some (.int .i64 a1) ∧ w'.cell? ⟨w.heap.size + 1, 1, none⟩ = some (f1_0) ∧ w'.cell? ⟨W11.heap.size, 0, none⟩ = some (.int .i64 a1) ∧ w'.cell? ⟨W11.heap.size, 1, none⟩ = some (.slice ao11_0 ln11_0 cp11_0)) (go_keep)
          (first
            | (go_at_call 12
               refine (cu.toK a1 xs1 f1_0 _ _ A1dW16.out (by show w.heap.size ≤ W16.heap.size; omega) HQ1.out).mono ?_
               rintro e W18 ⟨fc1_0, rfl, oc1, bB⟩
               have HJ1 := sl.hid oc1.rows
               have hzW18 : W16.heap.size ≤ W18.heap.size := bB.size
               have kp0_0W18 := (bB.cell (p := ⟨w.heap.size, 0, none⟩) (by show w.heap.size < W16.heap.size; omega)).trans kp0_0W16
               have kp0_1W18 := (bB.cell (p := ⟨w.heap.size, 1, none⟩) (by show w.heap.size < W16.heap.size; omega)).trans kp0_1W16
               have kp1_0W18 := (bB.cell (p := ⟨w.heap.size + 1, 0, none⟩) (by show w.heap.size + 1 < W16.heap.size; omega)).trans kp1_0W16
               have kp1_1W18 := (bB.cell (p := ⟨w.heap.size + 1, 1, none⟩) (by show w.heap.size + 1 < W16.heap.size; omega)).trans kp1_1W16
               have kx0_0W18 := (bB.cell (p := ⟨W9.heap.size, 0, none⟩) (by show W9.heap.size < W16.heap.size; omega)).trans kx0_0W16
               have kx0_1W18 := (bB.cell (p := ⟨W9.heap.size, 1, none⟩) (by show W9.heap.size < W16.heap.size; omega)).trans kx0_1W16
               have kx1_0W18 := (bB.cell (p := ⟨W11.heap.size, 0, none⟩) (by show W11.heap.size < W16.heap.size; omega)).trans kx1_0W16
               have kx1_1W18 := (bB.cell (p := ⟨W11.heap.size, 1, none⟩) (by show W11.heap.size < W16.heap.size; omega)).trans kx1_1W16
               have A0W18 := sl.hid (A0dW16.out.chg (sl.Chg.ofBelow (lo := 0) bB) (.inr (Nat.zero_le _)))
               have A1W18 := sl.hid (A1dW16.out.chg (sl.Chg.ofBelow (lo := 0) bB) (.inr (Nat.zero_le _)))
               have Ox0W18 := sl.hid (Ox0dW16.out.chg (sl.Chg.ofBelow (lo := 0) bB) (.inr (.inr (Nat.zero_le _))))
               have Ox1W18 := sl.hid (Ox1dW16.out.chg (sl.Chg.ofBelow (lo := 0) bB) (.inr (.inr (Nat.zero_le _))))
               have CW18 := sl.hid (CdW16.out.trans (bB.mono (by show w.heap.size ≤ W16.heap.size; omega)))
               clear oc1 bB kp0_0W16 kp0_1W16 kp1_0W16 kp1_1W16 kx0_0W16 kx0_1W16 kx1_0W16 kx1_1W16 A0dW16 A1dW16 Ox0dW16 Ox1dW16 CdW16)
            | (go_at_call 14
               refine (cu.eqKS a1 xs1 _ _ _ _ W18 Ox1W18.out.rows HJ1.out HQ1.out).mono ?_
               rintro e W19 ⟨rfl, bC⟩
               have hzW19 : W18.heap.size ≤ W19.heap.size := bC.size
               have kp0_0W19 := (bC.cell (p := ⟨w.heap.size, 0, none⟩) (by show w.heap.size < W18.heap.size; omega)).trans kp0_0W18
               have kp0_1W19 := (bC.cell (p := ⟨w.heap.size, 1, none⟩) (by show w.heap.size < W18.heap.size; omega)).trans kp0_1W18
               have kp1_0W19 := (bC.cell (p := ⟨w.heap.size + 1, 0, none⟩) (by show w.heap.size + 1 < W18.heap.size; omega)).trans kp1_0W18
               have kp1_1W19 := (bC.cell (p := ⟨w.heap.size + 1, 1, none⟩) (by show w.heap.size + 1 < W18.heap.size; omega)).trans kp1_1W18
               have kx0_0W19 := (bC.cell (p := ⟨W9.heap.size, 0, none⟩) (by show W9.heap.size < W18.heap.size; omega)).trans kx0_0W18
               have kx0_1W19 := (bC.cell (p := ⟨W9.heap.size, 1, none⟩) (by show W9.heap.size < W18.heap.size; omega)).trans kx0_1W18
               have kx1_0W19 := (bC.cell (p := ⟨W11.heap.size, 0, none⟩) (by show W11.heap.size < W18.heap.size; omega)).trans kx1_0W18
               have kx1_1W19 := (bC.cell (p := ⟨W11.heap.size, 1, none⟩) (by show W11.heap.size < W18.heap.size; omega)).trans kx1_1W18
               have A0W19 := sl.hid (A0W18.out.chg (sl.Chg.ofBelow (lo := 0) bC) (.inr (Nat.zero_le _)))
               have A1W19 := sl.hid (A1W18.out.chg (sl.Chg.ofBelow (lo := 0) bC) (.inr (Nat.zero_le _)))
               have Ox0W19 := sl.hid (Ox0W18.out.chg (sl.Chg.ofBelow (lo := 0) bC) (.inr (.inr (Nat.zero_le _))))
               have Ox1W19 := sl.hid (Ox1W18.out.chg (sl.Chg.ofBelow (lo := 0) bC) (.inr (.inr (Nat.zero_le _))))
               have CW19 := sl.hid (CW18.out.trans (bC.mono (by show w.heap.size ≤ W18.heap.size; omega)))
               clear HJ1 bC kp0_0W18 kp0_1W18 kp1_0W18 kp1_1W18 kx0_0W18 kx0_1W18 kx1_0W18 kx1_1W18 A0W18 A1W18 Ox0W18 Ox1W18 CW18))
        go_wp2
        go_ret
        exact ⟨rfl, CW19.out⟩
end Go.Proofs.Ytnmnikpgjglonaa.wsameColours
