/-
  The walk of the law of CompareBraids.
-/
import Derived.Test.YtedajefapddekaaHe3
import Derived.Deep.RegionHeld3
import Derived.Deep.CutRange
namespace Go.Proofs.Ytedajefapddekaa.wcompareBraids
open Go.RowKit
set_option linter.unusedVariables false

set_option maxRecDepth 20000 in
set_option maxHeartbeats 20000000 in
theorem law (a0 : Int) (b0 : Option Addr) (cap0 : Nat) (xs0 : List Int) (a1 : Int) (b1 : Option Addr) (cap1 : Nat) (xs1 : List Int) (a2 : Int) (w : World) (ha0 : sl.Ints w w.heap.size (.slice b0 xs0.length cap0) xs0) (hcap0 : xs0.length ≤ 9223372036854775807) (h0 : -9223372036854775808 ≤ a0 ∧ a0 ≤ 9223372036854775807) (ha1 : sl.Ints w w.heap.size (.slice b1 xs1.length cap1) xs1) (hcap1 : xs1.length ≤ 9223372036854775807) (h1 : -9223372036854775808 ≤ a1 ∧ a1 ≤ 9223372036854775807) (h2 : -9223372036854775808 ≤ a2 ∧ a2 ≤ 9223372036854775807) :
    Calls Try.prog 14 #[.agg #[.int .i64 a0, .slice b0 xs0.length cap0], .agg #[.int .i64 a1, .slice b1 xs1.length cap1], .int .i64 a2] w fun e w' => e = .returned (.bool true) ∧ Below w.heap.size w w' := by
  have HS := sl.hid (br.szB a0 b0 xs0.length cap0 1048576 ((w.alloc (.cells #[.int .i64 a0, .slice b0 xs0.length cap0] 37)).alloc (.cells #[.int .i64 a1, .slice b1 xs1.length cap1] 37)) hcap0 (by omega) (by omega))
  by_cases hbig0 : xs0.length ≤ 1048576
  · have hq : br.szL 1048576 xs0.length = 1048576 - (xs0.length : Int) := by unfold br.szL; rw [if_neg (by omega)]
    have HS1 : ∀ W : World, _ := fun W => br.szB a1 b1 xs1.length cap1 (1048576 - (xs0.length : Int)) W hcap1 (by omega) (by omega)
    have HS1 := sl.hid HS1
    rw [hq] at HS
    by_cases hbig1 : xs0.length + xs1.length ≤ 1048576
    · have hq1 : br.szL (1048576 - (xs0.length : Int)) xs1.length = 1048576 - (xs0.length : Int) - (xs1.length : Int) := by unfold br.szL; rw [if_neg (by omega)]
      rw [hq1] at HS1
      clear hq1
      have hn0 : xs0.length ≤ 1099511627776 := by omega
      have HA0 := sl.hid ha0
      have hn1 : xs1.length ≤ 1099511627776 := by omega
      have HA1 := sl.hid ha1
      have HC0 := sl.hid (Below.refl w.heap.size w)
      have SP : Hid (∀ (v0 : Value) (v1 : Value) (W : World) (B0 : Nat) (B1 : Nat), sl.Ints W B0 v0 xs0 → B0 ≤ W.heap.size → sl.Ints W B1 v1 xs1 → B1 ≤ W.heap.size → hl.SOk v0 → hl.SOk v1 → Calls Try.prog 51 #[.agg #[.int .i64 a0, v0], .agg #[.int .i64 a1, v1], .int .i64 a2] W fun e w' => e = .returned (.tuple #[.int .i64 (hl.cbI a0 a1 a2 xs0 xs1), .int .i64 (hl.fbC a0 a1 a2 xs0 xs1)]) ∧ Below W.heap.size W w') := sl.hid (fun v0 v1 W B0 B1 i0 l0 i1 l1 n0 n1 => hl.specCBq a0 xs0 a1 xs1 a2 v0 v1 B0 B1 W i0 l0 i1 l1 hn0 hn1 n0 n1)
      have IP : Hid (∀ (v0 : Value) (v1 : Value) (W : World) (B0 : Nat) (B1 : Nat), sl.Ints W B0 v0 xs0 → B0 ≤ W.heap.size → sl.Ints W B1 v1 xs1 → B1 ≤ W.heap.size → hl.SOk v0 → hl.SOk v1 → Calls Try.prog 52 #[.agg #[.int .i64 a0, v0], .agg #[.int .i64 a1, v1], .int .i64 a2] W fun e w' => e = .returned (.tuple #[.int .i64 (hl.cbI a0 a1 a2 xs0 xs1), .int .i64 (hl.fbC a0 a1 a2 xs0 xs1)]) ∧ Below W.heap.size W w') := sl.hid (fun v0 v1 W B0 B1 i0 l0 i1 l1 n0 n1 => hl.implCBq a0 xs0 a1 xs1 a2 v0 v1 B0 B1 W i0 l0 i1 l1 hn0 hn1 n0 n1)
      generalize hl.cbI a0 a1 a2 xs0 xs1 = qi at *
      generalize hl.fbC a0 a1 a2 xs0 xs1 = qi2 at *
      clear hq ha0 hcap0 ha1 hcap1 h0 h1 h2
      go_enter Try.func14, Try.ntmps14
      go_wp2_with fail
      refine HS.out.mono ?_
      rintro e W1 ⟨rfl, b1⟩
      clear HS
      have hb := br.box2 b1
      have kp0aW1 := hb.1 0
      have kp0bW1 := hb.1 1
      have kp1aW1 := hb.2.1 0
      have kp1bW1 := hb.2.1 1
      simp at kp0aW1 kp0bW1 kp1aW1 kp1bW1
      have kp1aW1 := kp1aW1.1
      have kp1bW1 := kp1bW1.1
      have hzW1 := hb.2.2.2
      have CW1 := sl.hid (HC0.out.trans hb.2.2.1)
      have Aa0W1 := sl.hid (HA0.out.chg (sl.Chg.ofBelow (lo := 0) hb.2.2.1) (.inr (Nat.zero_le _)))
      have Aa1W1 := sl.hid (HA1.out.chg (sl.Chg.ofBelow (lo := 0) hb.2.2.1) (.inr (Nat.zero_le _)))
      clear b1 hb HC0 HA0 HA1
      go_wp2_with fail
      refine (HS1.out _).mono ?_
      rintro e W2 ⟨rfl, b2⟩
      clear HS1
      have hzW2 : W1.heap.size ≤ W2.heap.size := b2.size
      have kp0aW2 := (b2.cell (p := ⟨w.heap.size, 0, none⟩) (by show w.heap.size < W1.heap.size; omega)).trans kp0aW1
      have kp0bW2 := (b2.cell (p := ⟨w.heap.size, 1, none⟩) (by show w.heap.size < W1.heap.size; omega)).trans kp0bW1
      have kp1aW2 := (b2.cell (p := ⟨w.heap.size + 1, 0, none⟩) (by show w.heap.size + 1 < W1.heap.size; omega)).trans kp1aW1
      have kp1bW2 := (b2.cell (p := ⟨w.heap.size + 1, 1, none⟩) (by show w.heap.size + 1 < W1.heap.size; omega)).trans kp1bW1
      have Aa0W2 := sl.hid (Aa0W1.out.chg (sl.Chg.ofBelow (lo := 0) b2) (.inr (Nat.zero_le _)))
      have Aa1W2 := sl.hid (Aa1W1.out.chg (sl.Chg.ofBelow (lo := 0) b2) (.inr (Nat.zero_le _)))
      have CW2 := sl.hid (CW1.out.trans (b2.mono (by omega)))
      clear b2 kp0aW1 kp0bW1 kp1aW1 kp1bW1 Aa0W1 Aa1W1 CW1
      go_wp2_with fail
      have bD := (Below.refl W2.heap.size W2).drew
      have Aa0dW2 := sl.hid (Aa0W2.out.chg (sl.Chg.ofBelow (lo := 0) bD) (.inr (Nat.zero_le _)))
      have Aa1dW2 := sl.hid (Aa1W2.out.chg (sl.Chg.ofBelow (lo := 0) bD) (.inr (Nat.zero_le _)))
      have CdW2 := sl.hid (CW2.out.drew)
      clear bD Aa0W2 Aa1W2 CW2
      go_region_held3 (fun w' => w'.cell? ⟨w.heap.size, 0, none⟩ = some (.int .i64 a0) ∧ w'.cell? ⟨w.heap.size, 1, none⟩ = some (.slice b0 xs0.length cap0) ∧ w'.cell? ⟨w.heap.size + 1, 0, none⟩ = some (.int .i64 a1) ∧ w'.cell? ⟨w.heap.size + 1, 1, none⟩ = some (.slice b1 xs1.length cap1)) (go_keep)
        (first
          | (go_at_call_of 29 (Value.agg #[.int .i64 a0, .slice b0 xs0.length cap0])
             have hchk := HIc1
             refine (br.toB a0 xs0 _ _ W3 Aa0W3.out (by omega) hn0).mono ?_
             rintro e W4 ⟨aoc0, capc0, rfl, oc0, bB⟩
             have HJ0 := sl.hid oc0.ints
             have HNc0 := sl.hid (hl.sok_own oc0)
             have HJ1 := sl.hid ((HIc1.out.chg (sl.Chg.ofBelow (lo := 0) bB) (.inr (Nat.zero_le _))).mono bB.size)
             have hzW4 : W3.heap.size ≤ W4.heap.size := bB.size
             have kp0aW4 := (bB.cell (p := ⟨w.heap.size, 0, none⟩) (by show w.heap.size < W3.heap.size; omega)).trans kp0aW3
             have kp0bW4 := (bB.cell (p := ⟨w.heap.size, 1, none⟩) (by show w.heap.size < W3.heap.size; omega)).trans kp0bW3
             have kp1aW4 := (bB.cell (p := ⟨w.heap.size + 1, 0, none⟩) (by show w.heap.size + 1 < W3.heap.size; omega)).trans kp1aW3
             have kp1bW4 := (bB.cell (p := ⟨w.heap.size + 1, 1, none⟩) (by show w.heap.size + 1 < W3.heap.size; omega)).trans kp1bW3
             have Aa0W4 := sl.hid (Aa0W3.out.chg (sl.Chg.ofBelow (lo := 0) bB) (.inr (Nat.zero_le _)))
             have Aa1W4 := sl.hid (Aa1W3.out.chg (sl.Chg.ofBelow (lo := 0) bB) (.inr (Nat.zero_le _)))
             have CW4 := sl.hid (CW3.out.trans (bB.mono (by show w.heap.size ≤ W3.heap.size; omega)))
             clear oc0 HIc1 hchk bB kp0aW3 kp0bW3 kp1aW3 kp1bW3 Aa0W3 Aa1W3 CW3)
          | (go_at_call_of 29 (Value.agg #[.int .i64 a1, .slice b1 xs1.length cap1])
             have hchk := HIc0
             refine (br.toB a1 xs1 _ _ W3 Aa1W3.out (by omega) hn1).mono ?_
             rintro e W4 ⟨aoc1, capc1, rfl, oc1, bB⟩
             have HJ1 := sl.hid oc1.ints
             have HNc1 := sl.hid (hl.sok_own oc1)
             have HJ0 := sl.hid ((HIc0.out.chg (sl.Chg.ofBelow (lo := 0) bB) (.inr (Nat.zero_le _))).mono bB.size)
             have hzW4 : W3.heap.size ≤ W4.heap.size := bB.size
             have kp0aW4 := (bB.cell (p := ⟨w.heap.size, 0, none⟩) (by show w.heap.size < W3.heap.size; omega)).trans kp0aW3
             have kp0bW4 := (bB.cell (p := ⟨w.heap.size, 1, none⟩) (by show w.heap.size < W3.heap.size; omega)).trans kp0bW3
             have kp1aW4 := (bB.cell (p := ⟨w.heap.size + 1, 0, none⟩) (by show w.heap.size + 1 < W3.heap.size; omega)).trans kp1aW3
             have kp1bW4 := (bB.cell (p := ⟨w.heap.size + 1, 1, none⟩) (by show w.heap.size + 1 < W3.heap.size; omega)).trans kp1bW3
             have Aa0W4 := sl.hid (Aa0W3.out.chg (sl.Chg.ofBelow (lo := 0) bB) (.inr (Nat.zero_le _)))
             have Aa1W4 := sl.hid (Aa1W3.out.chg (sl.Chg.ofBelow (lo := 0) bB) (.inr (Nat.zero_le _)))
             have CW4 := sl.hid (CW3.out.trans (bB.mono (by show w.heap.size ≤ W3.heap.size; omega)))
             clear oc1 HIc0 hchk bB kp0aW3 kp0bW3 kp1aW3 kp1bW3 Aa0W3 Aa1W3 CW3)
          | (go_at_call_of 29 (Value.agg #[.int .i64 a0, .slice b0 xs0.length cap0])
             refine (br.toB a0 xs0 _ _ W2.drew Aa0dW2.out (by show w.heap.size ≤ W2.heap.size; omega) hn0).mono ?_
             rintro e W3 ⟨aoc0, capc0, rfl, oc0, bA⟩
             have HIc0 := sl.hid oc0.ints
             have HNc0 := sl.hid (hl.sok_own oc0)
             have hzW3 : W2.heap.size ≤ W3.heap.size := bA.size
             have kp0aW3 := (bA.cell (p := ⟨w.heap.size, 0, none⟩) (by show w.heap.size < W2.heap.size; omega)).trans kp0aW2
             have kp0bW3 := (bA.cell (p := ⟨w.heap.size, 1, none⟩) (by show w.heap.size < W2.heap.size; omega)).trans kp0bW2
             have kp1aW3 := (bA.cell (p := ⟨w.heap.size + 1, 0, none⟩) (by show w.heap.size + 1 < W2.heap.size; omega)).trans kp1aW2
             have kp1bW3 := (bA.cell (p := ⟨w.heap.size + 1, 1, none⟩) (by show w.heap.size + 1 < W2.heap.size; omega)).trans kp1bW2
             have Aa0W3 := sl.hid (Aa0dW2.out.chg (sl.Chg.ofBelow (lo := 0) bA) (.inr (Nat.zero_le _)))
             have Aa1W3 := sl.hid (Aa1dW2.out.chg (sl.Chg.ofBelow (lo := 0) bA) (.inr (Nat.zero_le _)))
             have CW3 := sl.hid (CdW2.out.trans (bA.mono (by show w.heap.size ≤ W2.heap.size; omega)))
             clear oc0 bA kp0aW2 kp0bW2 kp1aW2 kp1bW2 Aa0dW2 Aa1dW2 CdW2)
          | (go_at_call_of 29 (Value.agg #[.int .i64 a1, .slice b1 xs1.length cap1])
             refine (br.toB a1 xs1 _ _ W2.drew Aa1dW2.out (by show w.heap.size ≤ W2.heap.size; omega) hn1).mono ?_
             rintro e W3 ⟨aoc1, capc1, rfl, oc1, bA⟩
             have HIc1 := sl.hid oc1.ints
             have HNc1 := sl.hid (hl.sok_own oc1)
             have hzW3 : W2.heap.size ≤ W3.heap.size := bA.size
             have kp0aW3 := (bA.cell (p := ⟨w.heap.size, 0, none⟩) (by show w.heap.size < W2.heap.size; omega)).trans kp0aW2
             have kp0bW3 := (bA.cell (p := ⟨w.heap.size, 1, none⟩) (by show w.heap.size < W2.heap.size; omega)).trans kp0bW2
             have kp1aW3 := (bA.cell (p := ⟨w.heap.size + 1, 0, none⟩) (by show w.heap.size + 1 < W2.heap.size; omega)).trans kp1aW2
             have kp1bW3 := (bA.cell (p := ⟨w.heap.size + 1, 1, none⟩) (by show w.heap.size + 1 < W2.heap.size; omega)).trans kp1bW2
             have Aa0W3 := sl.hid (Aa0dW2.out.chg (sl.Chg.ofBelow (lo := 0) bA) (.inr (Nat.zero_le _)))
             have Aa1W3 := sl.hid (Aa1dW2.out.chg (sl.Chg.ofBelow (lo := 0) bA) (.inr (Nat.zero_le _)))
             have CW3 := sl.hid (CdW2.out.trans (bA.mono (by show w.heap.size ≤ W2.heap.size; omega)))
             clear oc1 bA kp0aW2 kp0bW2 kp1aW2 kp1bW2 Aa0dW2 Aa1dW2 CdW2)
          | (go_at_call 51
             refine (SP.out _ _ W4 _ _ HJ0.out (Nat.le_refl _) HJ1.out (Nat.le_refl _) HNc0.out HNc1.out).mono ?_
             rintro e W5 ⟨rfl, bC⟩
             have hzW5 : W4.heap.size ≤ W5.heap.size := bC.size
             have kp0aW5 := (bC.cell (p := ⟨w.heap.size, 0, none⟩) (by show w.heap.size < W4.heap.size; omega)).trans kp0aW4
             have kp0bW5 := (bC.cell (p := ⟨w.heap.size, 1, none⟩) (by show w.heap.size < W4.heap.size; omega)).trans kp0bW4
             have kp1aW5 := (bC.cell (p := ⟨w.heap.size + 1, 0, none⟩) (by show w.heap.size + 1 < W4.heap.size; omega)).trans kp1aW4
             have kp1bW5 := (bC.cell (p := ⟨w.heap.size + 1, 1, none⟩) (by show w.heap.size + 1 < W4.heap.size; omega)).trans kp1bW4
             have Aa0W5 := sl.hid (Aa0W4.out.chg (sl.Chg.ofBelow (lo := 0) bC) (.inr (Nat.zero_le _)))
             have Aa1W5 := sl.hid (Aa1W4.out.chg (sl.Chg.ofBelow (lo := 0) bC) (.inr (Nat.zero_le _)))
             have CW5 := sl.hid (CW4.out.trans (bC.mono (by show w.heap.size ≤ W4.heap.size; omega)))
             clear HJ0 HJ1 HNc0 HNc1  bC kp0aW4 kp0bW4 kp1aW4 kp1bW4 Aa0W4 Aa1W4 CW4))
      all_goals
        go_wp2_with fail
        refine (br.toB a0 xs0 _ _ W5 Aa0W5.out (by omega) hn0).mono ?_
        rintro e W6 ⟨ao6, cap6, rfl, o6, b6⟩
        have On6 := sl.hid o6
        clear o6
        have hzW6 : W5.heap.size ≤ W6.heap.size := b6.size
        have kp0aW6 := (b6.cell (p := ⟨w.heap.size, 0, none⟩) (by show w.heap.size < W5.heap.size; omega)).trans kp0aW5
        have kp0bW6 := (b6.cell (p := ⟨w.heap.size, 1, none⟩) (by show w.heap.size < W5.heap.size; omega)).trans kp0bW5
        have kp1aW6 := (b6.cell (p := ⟨w.heap.size + 1, 0, none⟩) (by show w.heap.size + 1 < W5.heap.size; omega)).trans kp1aW5
        have kp1bW6 := (b6.cell (p := ⟨w.heap.size + 1, 1, none⟩) (by show w.heap.size + 1 < W5.heap.size; omega)).trans kp1bW5
        have Aa0W6 := sl.hid (Aa0W5.out.chg (sl.Chg.ofBelow (lo := 0) b6) (.inr (Nat.zero_le _)))
        have Aa1W6 := sl.hid (Aa1W5.out.chg (sl.Chg.ofBelow (lo := 0) b6) (.inr (Nat.zero_le _)))
        have CW6 := sl.hid (CW5.out.trans (b6.mono (by omega)))
        clear b6 kp0aW5 kp0bW5 kp1aW5 kp1bW5 Aa0W5 Aa1W5 CW5
        have bE : Below W6.heap.size W6 (W6.alloc (.cells #[.int .i64 a0, .slice ao6 xs0.length cap6] 39)) := (Below.refl _ _).alloc (Nat.le_refl _) _
        have ep0aW6 := (bE.cell (p := ⟨w.heap.size, 0, none⟩) (by show w.heap.size < W6.heap.size; omega)).trans kp0aW6
        have ep0bW6 := (bE.cell (p := ⟨w.heap.size, 1, none⟩) (by show w.heap.size < W6.heap.size; omega)).trans kp0bW6
        have ep1aW6 := (bE.cell (p := ⟨w.heap.size + 1, 0, none⟩) (by show w.heap.size + 1 < W6.heap.size; omega)).trans kp1aW6
        have ep1bW6 := (bE.cell (p := ⟨w.heap.size + 1, 1, none⟩) (by show w.heap.size + 1 < W6.heap.size; omega)).trans kp1bW6
        go_wp2_with fail
        refine (br.toB a1 xs1 _ _ (W6.alloc (.cells #[.int .i64 a0, .slice ao6 xs0.length cap6] 39)) (br.ints_al Aa1W6.out _) (by first | omega | (simp; done) | (simp; omega)) hn1).mono ?_
        rintro e W7 ⟨ao7, cap7, rfl, o7, b7⟩
        have On7 := sl.hid (o7.lo (lo' := W6.heap.size + 1) (by simp))
        clear o7
        have bb7 : Below W6.heap.size W6 W7 := ((Below.refl W6.heap.size W6).alloc (by simp) _).trans (b7.mono (by simp))
        have hzW7 : W6.heap.size + 1 ≤ W7.heap.size := by have h := b7.size; simp at h; omega
        have kx0aW7 : W7.cell? ⟨W6.heap.size, 0, none⟩ = some (.int .i64 a0) := (b7.cell (p := ⟨W6.heap.size, 0, none⟩) (by simp)).trans (World.cell?_alloc_at _ _ _ _ rfl)
        have kx0bW7 : W7.cell? ⟨W6.heap.size, 1, none⟩ = some (.slice ao6 xs0.length cap6) := (b7.cell (p := ⟨W6.heap.size, 1, none⟩) (by simp)).trans (World.cell?_alloc_at _ _ _ _ rfl)
        have kp0aW7 := (bb7.cell (p := ⟨w.heap.size, 0, none⟩) (by show w.heap.size < W6.heap.size; omega)).trans kp0aW6
        have kp0bW7 := (bb7.cell (p := ⟨w.heap.size, 1, none⟩) (by show w.heap.size < W6.heap.size; omega)).trans kp0bW6
        have kp1aW7 := (bb7.cell (p := ⟨w.heap.size + 1, 0, none⟩) (by show w.heap.size + 1 < W6.heap.size; omega)).trans kp1aW6
        have kp1bW7 := (bb7.cell (p := ⟨w.heap.size + 1, 1, none⟩) (by show w.heap.size + 1 < W6.heap.size; omega)).trans kp1bW6
        have Aa0W7 := sl.hid (Aa0W6.out.chg (sl.Chg.ofBelow (lo := 0) bb7) (.inr (Nat.zero_le _)))
        have Aa1W7 := sl.hid (Aa1W6.out.chg (sl.Chg.ofBelow (lo := 0) bb7) (.inr (Nat.zero_le _)))
        have Ox0W7 := sl.hid (On6.out.chg (sl.Chg.ofBelow (lo := 0) bb7) (.inr (.inr (Nat.zero_le _))))
        have CW7 := sl.hid (CW6.out.trans (bb7.mono (by omega)))
        clear b7 bE ep0aW6 ep0bW6 ep1aW6 ep1bW6 bb7 kp0aW6 kp0bW6 kp1aW6 kp1bW6 Aa0W6 Aa1W6 On6 CW6
        have bE : Below W7.heap.size W7 (W7.alloc (.cells #[.int .i64 a1, .slice ao7 xs1.length cap7] 39)) := (Below.refl _ _).alloc (Nat.le_refl _) _
        have ep0aW7 := (bE.cell (p := ⟨w.heap.size, 0, none⟩) (by show w.heap.size < W7.heap.size; omega)).trans kp0aW7
        have ep0bW7 := (bE.cell (p := ⟨w.heap.size, 1, none⟩) (by show w.heap.size < W7.heap.size; omega)).trans kp0bW7
        have ep1aW7 := (bE.cell (p := ⟨w.heap.size + 1, 0, none⟩) (by show w.heap.size + 1 < W7.heap.size; omega)).trans kp1aW7
        have ep1bW7 := (bE.cell (p := ⟨w.heap.size + 1, 1, none⟩) (by show w.heap.size + 1 < W7.heap.size; omega)).trans kp1bW7
        have ex0aW7 := (bE.cell (p := ⟨W6.heap.size, 0, none⟩) (by show W6.heap.size < W7.heap.size; omega)).trans kx0aW7
        have ex0bW7 := (bE.cell (p := ⟨W6.heap.size, 1, none⟩) (by show W6.heap.size < W7.heap.size; omega)).trans kx0bW7
        go_wp2_with fail
        refine (IP.out _ _ (W7.alloc (.cells #[.int .i64 a1, .slice ao7 xs1.length cap7] 39)) _ _ (br.ints_al Ox0W7.out.ints _) (by first | omega | (simp; done) | (simp; omega)) (br.ints_al On7.out.ints _) (by first | omega | (simp; done) | (simp; omega)) (hl.sok_own Ox0W7.out) (hl.sok_own On7.out)).mono ?_
        rintro e W8 ⟨rfl, b8⟩
        have bb8 : Below W7.heap.size W7 W8 := ((Below.refl W7.heap.size W7).alloc (by simp) _).trans (b8.mono (by simp))
        have hzW8 : W7.heap.size + 1 ≤ W8.heap.size := by have h := b8.size; simp at h; omega
        have kx1aW8 : W8.cell? ⟨W7.heap.size, 0, none⟩ = some (.int .i64 a1) := (b8.cell (p := ⟨W7.heap.size, 0, none⟩) (by simp)).trans (World.cell?_alloc_at _ _ _ _ rfl)
        have kx1bW8 : W8.cell? ⟨W7.heap.size, 1, none⟩ = some (.slice ao7 xs1.length cap7) := (b8.cell (p := ⟨W7.heap.size, 1, none⟩) (by simp)).trans (World.cell?_alloc_at _ _ _ _ rfl)
        have kp0aW8 := (bb8.cell (p := ⟨w.heap.size, 0, none⟩) (by show w.heap.size < W7.heap.size; omega)).trans kp0aW7
        have kp0bW8 := (bb8.cell (p := ⟨w.heap.size, 1, none⟩) (by show w.heap.size < W7.heap.size; omega)).trans kp0bW7
        have kp1aW8 := (bb8.cell (p := ⟨w.heap.size + 1, 0, none⟩) (by show w.heap.size + 1 < W7.heap.size; omega)).trans kp1aW7
        have kp1bW8 := (bb8.cell (p := ⟨w.heap.size + 1, 1, none⟩) (by show w.heap.size + 1 < W7.heap.size; omega)).trans kp1bW7
        have kx0aW8 := (bb8.cell (p := ⟨W6.heap.size, 0, none⟩) (by show W6.heap.size < W7.heap.size; omega)).trans kx0aW7
        have kx0bW8 := (bb8.cell (p := ⟨W6.heap.size, 1, none⟩) (by show W6.heap.size < W7.heap.size; omega)).trans kx0bW7
        have Aa0W8 := sl.hid (Aa0W7.out.chg (sl.Chg.ofBelow (lo := 0) bb8) (.inr (Nat.zero_le _)))
        have Aa1W8 := sl.hid (Aa1W7.out.chg (sl.Chg.ofBelow (lo := 0) bb8) (.inr (Nat.zero_le _)))
        have Ox0W8 := sl.hid (Ox0W7.out.chg (sl.Chg.ofBelow (lo := 0) bb8) (.inr (.inr (Nat.zero_le _))))
        have Ox1W8 := sl.hid (On7.out.chg (sl.Chg.ofBelow (lo := 0) bb8) (.inr (.inr (Nat.zero_le _))))
        have CW8 := sl.hid (CW7.out.trans (bb8.mono (by omega)))
        clear b8 bE ep0aW7 ep0bW7 ep1aW7 ep1bW7 ex0aW7 ex0bW7 bb8 kp0aW7 kp0bW7 kp1aW7 kp1bW7 kx0aW7 kx0bW7 Aa0W7 Aa1W7 Ox0W7 On7 CW7
        go_wp2_with fail
        have bD := (Below.refl W8.heap.size W8).drew
        have Aa0dW8 := sl.hid (Aa0W8.out.chg (sl.Chg.ofBelow (lo := 0) bD) (.inr (Nat.zero_le _)))
        have Aa1dW8 := sl.hid (Aa1W8.out.chg (sl.Chg.ofBelow (lo := 0) bD) (.inr (Nat.zero_le _)))
        have Ox0dW8 := sl.hid (Ox0W8.out.chg (sl.Chg.ofBelow (lo := 0) bD) (.inr (.inr (Nat.zero_le _))))
        have Ox1dW8 := sl.hid (Ox1W8.out.chg (sl.Chg.ofBelow (lo := 0) bD) (.inr (.inr (Nat.zero_le _))))
        have CdW8 := sl.hid (CW8.out.drew)
        clear bD Aa0W8 Aa1W8 Ox0W8 Ox1W8 CW8
        go_region_held3 (fun w' => w'.cell? ⟨w.heap.size, 0, none⟩ = some (.int .i64 a0) ∧ w'.cell? ⟨w.heap.size, 1, none⟩ = some (.slice b0 xs0.length cap0) ∧ w'.cell? ⟨W6.heap.size, 0, none⟩ = some (.int .i64 a0) ∧ w'.cell? ⟨W6.heap.size, 1, none⟩ = some (.slice ao6 xs0.length cap6)) (go_keep)
          (first
            | (go_at_call 29
               refine (br.toB a0 xs0 _ _ W8.drew Aa0dW8.out (by show w.heap.size ≤ W8.heap.size; omega) hn0).mono ?_
               rintro e W9 ⟨ao9, cap9, rfl, o9, b9⟩
               have On9 := sl.hid o9
               clear o9
               have hzW9 : W8.heap.size ≤ W9.heap.size := b9.size
               have kp0aW9 := (b9.cell (p := ⟨w.heap.size, 0, none⟩) (by show w.heap.size < W8.heap.size; omega)).trans kp0aW8
               have kp0bW9 := (b9.cell (p := ⟨w.heap.size, 1, none⟩) (by show w.heap.size < W8.heap.size; omega)).trans kp0bW8
               have kp1aW9 := (b9.cell (p := ⟨w.heap.size + 1, 0, none⟩) (by show w.heap.size + 1 < W8.heap.size; omega)).trans kp1aW8
               have kp1bW9 := (b9.cell (p := ⟨w.heap.size + 1, 1, none⟩) (by show w.heap.size + 1 < W8.heap.size; omega)).trans kp1bW8
               have kx0aW9 := (b9.cell (p := ⟨W6.heap.size, 0, none⟩) (by show W6.heap.size < W8.heap.size; omega)).trans kx0aW8
               have kx0bW9 := (b9.cell (p := ⟨W6.heap.size, 1, none⟩) (by show W6.heap.size < W8.heap.size; omega)).trans kx0bW8
               have kx1aW9 := (b9.cell (p := ⟨W7.heap.size, 0, none⟩) (by show W7.heap.size < W8.heap.size; omega)).trans kx1aW8
               have kx1bW9 := (b9.cell (p := ⟨W7.heap.size, 1, none⟩) (by show W7.heap.size < W8.heap.size; omega)).trans kx1bW8
               have Aa0W9 := sl.hid (Aa0dW8.out.chg (sl.Chg.ofBelow (lo := 0) b9) (.inr (Nat.zero_le _)))
               have Aa1W9 := sl.hid (Aa1dW8.out.chg (sl.Chg.ofBelow (lo := 0) b9) (.inr (Nat.zero_le _)))
               have Ox0W9 := sl.hid (Ox0dW8.out.chg (sl.Chg.ofBelow (lo := 0) b9) (.inr (.inr (Nat.zero_le _))))
               have Ox1W9 := sl.hid (Ox1dW8.out.chg (sl.Chg.ofBelow (lo := 0) b9) (.inr (.inr (Nat.zero_le _))))
               have CW9 := sl.hid (CdW8.out.trans (b9.mono (by show w.heap.size ≤ W8.heap.size; omega)))
               clear b9 kp0aW8 kp0bW8 kp1aW8 kp1bW8 kx0aW8 kx0bW8 kx1aW8 kx1bW8 Aa0dW8 Aa1dW8 Ox0dW8 Ox1dW8 CdW8)
            | (go_at_call 32
               refine (br.eqBS a0 xs0 _ _ _ _ W9 Ox0W9.out.ints On9.out.ints hn0).mono ?_
               rintro e W10 ⟨rfl, b10⟩
               clear On9
               have hzW10 : W9.heap.size ≤ W10.heap.size := b10.size
               have kp0aW10 := (b10.cell (p := ⟨w.heap.size, 0, none⟩) (by show w.heap.size < W9.heap.size; omega)).trans kp0aW9
               have kp0bW10 := (b10.cell (p := ⟨w.heap.size, 1, none⟩) (by show w.heap.size < W9.heap.size; omega)).trans kp0bW9
               have kp1aW10 := (b10.cell (p := ⟨w.heap.size + 1, 0, none⟩) (by show w.heap.size + 1 < W9.heap.size; omega)).trans kp1aW9
               have kp1bW10 := (b10.cell (p := ⟨w.heap.size + 1, 1, none⟩) (by show w.heap.size + 1 < W9.heap.size; omega)).trans kp1bW9
               have kx0aW10 := (b10.cell (p := ⟨W6.heap.size, 0, none⟩) (by show W6.heap.size < W9.heap.size; omega)).trans kx0aW9
               have kx0bW10 := (b10.cell (p := ⟨W6.heap.size, 1, none⟩) (by show W6.heap.size < W9.heap.size; omega)).trans kx0bW9
               have kx1aW10 := (b10.cell (p := ⟨W7.heap.size, 0, none⟩) (by show W7.heap.size < W9.heap.size; omega)).trans kx1aW9
               have kx1bW10 := (b10.cell (p := ⟨W7.heap.size, 1, none⟩) (by show W7.heap.size < W9.heap.size; omega)).trans kx1bW9
               have Aa0W10 := sl.hid (Aa0W9.out.chg (sl.Chg.ofBelow (lo := 0) b10) (.inr (Nat.zero_le _)))
               have Aa1W10 := sl.hid (Aa1W9.out.chg (sl.Chg.ofBelow (lo := 0) b10) (.inr (Nat.zero_le _)))
               have Ox0W10 := sl.hid (Ox0W9.out.chg (sl.Chg.ofBelow (lo := 0) b10) (.inr (.inr (Nat.zero_le _))))
               have Ox1W10 := sl.hid (Ox1W9.out.chg (sl.Chg.ofBelow (lo := 0) b10) (.inr (.inr (Nat.zero_le _))))
               have CW10 := sl.hid (CW9.out.trans (b10.mono (by show w.heap.size ≤ W9.heap.size; omega)))
               clear b10 kp0aW9 kp0bW9 kp1aW9 kp1bW9 kx0aW9 kx0bW9 kx1aW9 kx1bW9 Aa0W9 Aa1W9 Ox0W9 Ox1W9 CW9))
        go_wp2_with fail
        have bD := (Below.refl W10.heap.size W10).drew
        have Aa0dW10 := sl.hid (Aa0W10.out.chg (sl.Chg.ofBelow (lo := 0) bD) (.inr (Nat.zero_le _)))
        have Aa1dW10 := sl.hid (Aa1W10.out.chg (sl.Chg.ofBelow (lo := 0) bD) (.inr (Nat.zero_le _)))
        have Ox0dW10 := sl.hid (Ox0W10.out.chg (sl.Chg.ofBelow (lo := 0) bD) (.inr (.inr (Nat.zero_le _))))
        have Ox1dW10 := sl.hid (Ox1W10.out.chg (sl.Chg.ofBelow (lo := 0) bD) (.inr (.inr (Nat.zero_le _))))
        have CdW10 := sl.hid (CW10.out.drew)
        clear bD Aa0W10 Aa1W10 Ox0W10 Ox1W10 CW10
        go_region_held3 (fun w' => w'.cell? ⟨w.heap.size + 1, 0, none⟩ = some (.int .i64 a1) ∧ w'.cell? ⟨w.heap.size + 1, 1, none⟩ = some (.slice b1 xs1.length cap1) ∧ w'.cell? ⟨W7.heap.size, 0, none⟩ = some (.int .i64 a1) ∧ w'.cell? ⟨W7.heap.size, 1, none⟩ = some (.slice ao7 xs1.length cap7)) (go_keep)
          (first
            | (go_at_call 29
               refine (br.toB a1 xs1 _ _ W10.drew Aa1dW10.out (by show w.heap.size ≤ W10.heap.size; omega) hn1).mono ?_
               rintro e W11 ⟨ao11, cap11, rfl, o11, b11⟩
               have On11 := sl.hid o11
               clear o11
               have hzW11 : W10.heap.size ≤ W11.heap.size := b11.size
               have kp0aW11 := (b11.cell (p := ⟨w.heap.size, 0, none⟩) (by show w.heap.size < W10.heap.size; omega)).trans kp0aW10
               have kp0bW11 := (b11.cell (p := ⟨w.heap.size, 1, none⟩) (by show w.heap.size < W10.heap.size; omega)).trans kp0bW10
               have kp1aW11 := (b11.cell (p := ⟨w.heap.size + 1, 0, none⟩) (by show w.heap.size + 1 < W10.heap.size; omega)).trans kp1aW10
               have kp1bW11 := (b11.cell (p := ⟨w.heap.size + 1, 1, none⟩) (by show w.heap.size + 1 < W10.heap.size; omega)).trans kp1bW10
               have kx0aW11 := (b11.cell (p := ⟨W6.heap.size, 0, none⟩) (by show W6.heap.size < W10.heap.size; omega)).trans kx0aW10
               have kx0bW11 := (b11.cell (p := ⟨W6.heap.size, 1, none⟩) (by show W6.heap.size < W10.heap.size; omega)).trans kx0bW10
               have kx1aW11 := (b11.cell (p := ⟨W7.heap.size, 0, none⟩) (by show W7.heap.size < W10.heap.size; omega)).trans kx1aW10
               have kx1bW11 := (b11.cell (p := ⟨W7.heap.size, 1, none⟩) (by show W7.heap.size < W10.heap.size; omega)).trans kx1bW10
               have Aa0W11 := sl.hid (Aa0dW10.out.chg (sl.Chg.ofBelow (lo := 0) b11) (.inr (Nat.zero_le _)))
               have Aa1W11 := sl.hid (Aa1dW10.out.chg (sl.Chg.ofBelow (lo := 0) b11) (.inr (Nat.zero_le _)))
               have Ox0W11 := sl.hid (Ox0dW10.out.chg (sl.Chg.ofBelow (lo := 0) b11) (.inr (.inr (Nat.zero_le _))))
               have Ox1W11 := sl.hid (Ox1dW10.out.chg (sl.Chg.ofBelow (lo := 0) b11) (.inr (.inr (Nat.zero_le _))))
               have CW11 := sl.hid (CdW10.out.trans (b11.mono (by show w.heap.size ≤ W10.heap.size; omega)))
               clear b11 kp0aW10 kp0bW10 kp1aW10 kp1bW10 kx0aW10 kx0bW10 kx1aW10 kx1bW10 Aa0dW10 Aa1dW10 Ox0dW10 Ox1dW10 CdW10)
            | (go_at_call 32
               refine (br.eqBS a1 xs1 _ _ _ _ W11 Ox1W11.out.ints On11.out.ints hn1).mono ?_
               rintro e W12 ⟨rfl, b12⟩
               clear On11
               have hzW12 : W11.heap.size ≤ W12.heap.size := b12.size
               have kp0aW12 := (b12.cell (p := ⟨w.heap.size, 0, none⟩) (by show w.heap.size < W11.heap.size; omega)).trans kp0aW11
               have kp0bW12 := (b12.cell (p := ⟨w.heap.size, 1, none⟩) (by show w.heap.size < W11.heap.size; omega)).trans kp0bW11
               have kp1aW12 := (b12.cell (p := ⟨w.heap.size + 1, 0, none⟩) (by show w.heap.size + 1 < W11.heap.size; omega)).trans kp1aW11
               have kp1bW12 := (b12.cell (p := ⟨w.heap.size + 1, 1, none⟩) (by show w.heap.size + 1 < W11.heap.size; omega)).trans kp1bW11
               have kx0aW12 := (b12.cell (p := ⟨W6.heap.size, 0, none⟩) (by show W6.heap.size < W11.heap.size; omega)).trans kx0aW11
               have kx0bW12 := (b12.cell (p := ⟨W6.heap.size, 1, none⟩) (by show W6.heap.size < W11.heap.size; omega)).trans kx0bW11
               have kx1aW12 := (b12.cell (p := ⟨W7.heap.size, 0, none⟩) (by show W7.heap.size < W11.heap.size; omega)).trans kx1aW11
               have kx1bW12 := (b12.cell (p := ⟨W7.heap.size, 1, none⟩) (by show W7.heap.size < W11.heap.size; omega)).trans kx1bW11
               have Aa0W12 := sl.hid (Aa0W11.out.chg (sl.Chg.ofBelow (lo := 0) b12) (.inr (Nat.zero_le _)))
               have Aa1W12 := sl.hid (Aa1W11.out.chg (sl.Chg.ofBelow (lo := 0) b12) (.inr (Nat.zero_le _)))
               have Ox0W12 := sl.hid (Ox0W11.out.chg (sl.Chg.ofBelow (lo := 0) b12) (.inr (.inr (Nat.zero_le _))))
               have Ox1W12 := sl.hid (Ox1W11.out.chg (sl.Chg.ofBelow (lo := 0) b12) (.inr (.inr (Nat.zero_le _))))
               have CW12 := sl.hid (CW11.out.trans (b12.mono (by show w.heap.size ≤ W11.heap.size; omega)))
               clear b12 kp0aW11 kp0bW11 kp1aW11 kp1bW11 kx0aW11 kx0bW11 kx1aW11 kx1bW11 Aa0W11 Aa1W11 Ox0W11 Ox1W11 CW11))
        go_wp2
        go_ret
        exact ⟨rfl, CW12.out⟩
    · have hq1 : br.szL (1048576 - (xs0.length : Int)) xs1.length = -1 := by unfold br.szL; rw [if_pos (by omega)]
      rw [hq1] at HS1
      clear hq hq1
      go_enter Try.func14, Try.ntmps14
      go_wp2_with fail
      refine HS.out.mono ?_
      rintro e W1 ⟨rfl, b1⟩
      have C1 := sl.hid (br.box2 b1).2.2.1
      have k0 := (br.box2 b1).2.1 0
      have k1 := (br.box2 b1).2.1 1
      have hz := (br.box2 b1).2.2.2
      simp at k0 k1
      have q0 := k0.1
      have q1 := k1.1
      clear b1 k0 k1
      go_wp2_with fail
      refine (HS1.out _).mono ?_
      rintro e W2 ⟨rfl, b2⟩
      have C2 := sl.hid (C1.out.trans (b2.mono (by omega)))
      clear b2
      go_wp2
      go_ret
      exact ⟨rfl, C2.out⟩
  · have hq : br.szL 1048576 xs0.length = -1 := by unfold br.szL; rw [if_pos (by omega)]
    rw [hq] at HS
    clear hq
    go_enter Try.func14, Try.ntmps14
    go_wp2_with fail
    refine HS.out.mono ?_
    rintro e W1 ⟨rfl, b1⟩
    have C1 := sl.hid (br.box2 b1).2.2.1
    clear b1
    go_wp2
    go_ret
    exact ⟨rfl, C1.out⟩
end Go.Proofs.Ytedajefapddekaa.wcompareBraids
