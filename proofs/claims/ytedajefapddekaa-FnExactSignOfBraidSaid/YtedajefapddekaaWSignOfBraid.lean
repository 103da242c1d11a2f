/-
  The walk of the law of SignOfBraid.
-/
import Derived.Test.YtedajefapddekaaHo1
import Derived.Deep.RegionHeld3
import Derived.Deep.CutRange
namespace Go.Proofs.Ytedajefapddekaa.wsignOfBraid
open Go.RowKit
set_option linter.unusedVariables false

set_option maxRecDepth 20000 in
set_option maxHeartbeats 20000000 in
theorem law (a0 : Int) (b0 : Option Addr) (cap0 : Nat) (xs0 : List Int) (a1 : Int) (w : World) (ha0 : sl.Ints w w.heap.size (.slice b0 xs0.length cap0) xs0) (hcap0 : xs0.length ≤ 9223372036854775807) (h0 : -9223372036854775808 ≤ a0 ∧ a0 ≤ 9223372036854775807) (h1 : -9223372036854775808 ≤ a1 ∧ a1 ≤ 9223372036854775807) :
    Calls Try.prog 13 #[.agg #[.int .i64 a0, .slice b0 xs0.length cap0], .int .i64 a1] w fun e w' => e = .returned (.bool true) ∧ Below w.heap.size w w' := by
  have HS := sl.hid (br.szB a0 b0 xs0.length cap0 1048576 (w.alloc (.cells #[.int .i64 a0, .slice b0 xs0.length cap0] 37)) hcap0 (by omega) (by omega))
  by_cases hbig0 : xs0.length ≤ 1048576
  · have hq : br.szL 1048576 xs0.length = 1048576 - (xs0.length : Int) := by unfold br.szL; rw [if_neg (by omega)]
    have hn0 : xs0.length ≤ 1099511627776 := by omega
    have HA0 := sl.hid ha0
    rw [hq] at HS
    have HC0 := sl.hid (Below.refl w.heap.size w)
    have SP : Hid (∀ (v0 : Value) (W : World) (B0 : Nat), sl.Ints W B0 v0 xs0 → B0 ≤ W.heap.size → hl.SOk v0 → Calls Try.prog 49 #[.agg #[.int .i64 a0, v0], .int .i64 a1] W fun e w' => e = .returned (.tuple #[.int .i64 (hl.soI a0 a1 xs0), .int .i64 (hl.hoC a0 a1 xs0)]) ∧ Below W.heap.size W w') := sl.hid (fun v0 W B0 i0 l0 n0 => hl.specSO a0 xs0 a1 v0 B0 W i0 l0 hn0 n0)
    have IP : Hid (∀ (v0 : Value) (W : World) (B0 : Nat), sl.Ints W B0 v0 xs0 → B0 ≤ W.heap.size → hl.SOk v0 → Calls Try.prog 50 #[.agg #[.int .i64 a0, v0], .int .i64 a1] W fun e w' => e = .returned (.tuple #[.int .i64 (hl.soI a0 a1 xs0), .int .i64 (hl.hoC a0 a1 xs0)]) ∧ Below W.heap.size W w') := sl.hid (fun v0 W B0 i0 l0 n0 => hl.implSO a0 xs0 a1 v0 B0 W i0 l0 hn0 n0)
    generalize hl.soI a0 a1 xs0 = qi at *
    generalize hl.hoC a0 a1 xs0 = qi2 at *
    clear hq ha0 hcap0 h0 h1
    go_enter Try.func13, Try.ntmps13
    go_wp2_with fail
    refine HS.out.mono ?_
    rintro e W1 ⟨rfl, b1⟩
    clear HS
    have bb1 : Below w.heap.size w W1 := ((Below.refl w.heap.size w).alloc (by simp) _).trans (b1.mono (by simp))
    have hzW1 : w.heap.size + 1 ≤ W1.heap.size := by have h := b1.size; simp at h; omega
    have kp0aW1 : W1.cell? ⟨w.heap.size, 0, none⟩ = some (.int .i64 a0) := (b1.cell (p := ⟨w.heap.size, 0, none⟩) (by simp)).trans (World.cell?_alloc_at _ _ _ _ rfl)
    have kp0bW1 : W1.cell? ⟨w.heap.size, 1, none⟩ = some (.slice b0 xs0.length cap0) := (b1.cell (p := ⟨w.heap.size, 1, none⟩) (by simp)).trans (World.cell?_alloc_at _ _ _ _ rfl)
    have Aa0W1 := sl.hid (HA0.out.chg (sl.Chg.ofBelow (lo := 0) bb1) (.inr (Nat.zero_le _)))
    have CW1 := sl.hid (HC0.out.trans (bb1.mono (by omega)))
    clear b1 bb1 HA0 HC0
    go_wp2_with fail
    refine (br.toB a0 xs0 _ _ W1 Aa0W1.out (by omega) hn0).mono ?_
    rintro e W2 ⟨ao2, cap2, rfl, o2, b2⟩
    have On2 := sl.hid o2
    clear o2
    have hzW2 : W1.heap.size ≤ W2.heap.size := b2.size
    have kp0aW2 := (b2.cell (p := ⟨w.heap.size, 0, none⟩) (by show w.heap.size < W1.heap.size; omega)).trans kp0aW1
    have kp0bW2 := (b2.cell (p := ⟨w.heap.size, 1, none⟩) (by show w.heap.size < W1.heap.size; omega)).trans kp0bW1
    have Aa0W2 := sl.hid (Aa0W1.out.chg (sl.Chg.ofBelow (lo := 0) b2) (.inr (Nat.zero_le _)))
    have CW2 := sl.hid (CW1.out.trans (b2.mono (by omega)))
    clear b2 kp0aW1 kp0bW1 Aa0W1 CW1
    go_wp2_with fail
    refine (SP.out _ W2 _ On2.out.ints (by omega) (hl.sok_own On2.out)).mono ?_
    rintro e W3 ⟨rfl, b3⟩
    have hzW3 : W2.heap.size ≤ W3.heap.size := b3.size
    have kp0aW3 := (b3.cell (p := ⟨w.heap.size, 0, none⟩) (by show w.heap.size < W2.heap.size; omega)).trans kp0aW2
    have kp0bW3 := (b3.cell (p := ⟨w.heap.size, 1, none⟩) (by show w.heap.size < W2.heap.size; omega)).trans kp0bW2
    have Aa0W3 := sl.hid (Aa0W2.out.chg (sl.Chg.ofBelow (lo := 0) b3) (.inr (Nat.zero_le _)))
    have Oc0W3 := sl.hid (On2.out.chg (sl.Chg.ofBelow (lo := 0) b3) (.inr (.inr (Nat.zero_le _))))
    have CW3 := sl.hid (CW2.out.trans (b3.mono (by omega)))
    clear b3 kp0aW2 kp0bW2 Aa0W2 On2 CW2
    go_wp2_with fail
    refine (br.toB a0 xs0 _ _ W3 Aa0W3.out (by omega) hn0).mono ?_
    rintro e W4 ⟨ao4, cap4, rfl, o4, b4⟩
    have On4 := sl.hid o4
    clear o4
    have hzW4 : W3.heap.size ≤ W4.heap.size := b4.size
    have kp0aW4 := (b4.cell (p := ⟨w.heap.size, 0, none⟩) (by show w.heap.size < W3.heap.size; omega)).trans kp0aW3
    have kp0bW4 := (b4.cell (p := ⟨w.heap.size, 1, none⟩) (by show w.heap.size < W3.heap.size; omega)).trans kp0bW3
    have Aa0W4 := sl.hid (Aa0W3.out.chg (sl.Chg.ofBelow (lo := 0) b4) (.inr (Nat.zero_le _)))
    have CW4 := sl.hid (CW3.out.trans (b4.mono (by omega)))
    clear b4 kp0aW3 kp0bW3 Aa0W3 CW3
    have bE : Below W4.heap.size W4 (W4.alloc (.cells #[.int .i64 a0, .slice ao4 xs0.length cap4] 39)) := (Below.refl _ _).alloc (Nat.le_refl _) _
    have ep0aW4 := (bE.cell (p := ⟨w.heap.size, 0, none⟩) (by show w.heap.size < W4.heap.size; omega)).trans kp0aW4
    have ep0bW4 := (bE.cell (p := ⟨w.heap.size, 1, none⟩) (by show w.heap.size < W4.heap.size; omega)).trans kp0bW4
    go_wp2_with fail
    refine (IP.out _ (W4.alloc (.cells #[.int .i64 a0, .slice ao4 xs0.length cap4] 39)) _ (br.ints_al On4.out.ints _) (by first | omega | (simp; done) | (simp; omega)) (hl.sok_own On4.out)).mono ?_
    rintro e W5 ⟨rfl, b5⟩
    have bb5 : Below W4.heap.size W4 W5 := ((Below.refl W4.heap.size W4).alloc (by simp) _).trans (b5.mono (by simp))
    have hzW5 : W4.heap.size + 1 ≤ W5.heap.size := by have h := b5.size; simp at h; omega
    have kx0aW5 : W5.cell? ⟨W4.heap.size, 0, none⟩ = some (.int .i64 a0) := (b5.cell (p := ⟨W4.heap.size, 0, none⟩) (by simp)).trans (World.cell?_alloc_at _ _ _ _ rfl)
    have kx0bW5 : W5.cell? ⟨W4.heap.size, 1, none⟩ = some (.slice ao4 xs0.length cap4) := (b5.cell (p := ⟨W4.heap.size, 1, none⟩) (by simp)).trans (World.cell?_alloc_at _ _ _ _ rfl)
    have kp0aW5 := (bb5.cell (p := ⟨w.heap.size, 0, none⟩) (by show w.heap.size < W4.heap.size; omega)).trans kp0aW4
    have kp0bW5 := (bb5.cell (p := ⟨w.heap.size, 1, none⟩) (by show w.heap.size < W4.heap.size; omega)).trans kp0bW4
    have Aa0W5 := sl.hid (Aa0W4.out.chg (sl.Chg.ofBelow (lo := 0) bb5) (.inr (Nat.zero_le _)))
    have Ox0W5 := sl.hid (On4.out.chg (sl.Chg.ofBelow (lo := 0) bb5) (.inr (.inr (Nat.zero_le _))))
    have CW5 := sl.hid (CW4.out.trans (bb5.mono (by omega)))
    clear b5 bE ep0aW4 ep0bW4 bb5 kp0aW4 kp0bW4 Aa0W4 On4 CW4
    go_wp2_with fail
    have bD := (Below.refl W5.heap.size W5).drew
    have Aa0dW5 := sl.hid (Aa0W5.out.chg (sl.Chg.ofBelow (lo := 0) bD) (.inr (Nat.zero_le _)))
    have Ox0dW5 := sl.hid (Ox0W5.out.chg (sl.Chg.ofBelow (lo := 0) bD) (.inr (.inr (Nat.zero_le _))))
    have CdW5 := sl.hid (CW5.out.drew)
    clear bD Aa0W5 Ox0W5 CW5
    go_region_held3 (fun w' => w'.cell? ⟨w.heap.size, 0, none⟩ = some (.int .i64 a0) ∧ w'.cell? ⟨w.heap.size, 1, none⟩ = some (.slice b0 xs0.length cap0) ∧ w'.cell? ⟨W4.heap.size, 0, none⟩ = some (.int .i64 a0) ∧ w'.cell? ⟨W4.heap.size, 1, none⟩ = some (.slice ao4 xs0.length cap4)) (go_keep)
      (first
        | (go_at_call 29
           refine (br.toB a0 xs0 _ _ W5.drew Aa0dW5.out (by show w.heap.size ≤ W5.heap.size; omega) hn0).mono ?_
           rintro e W6 ⟨ao6, cap6, rfl, o6, b6⟩
           have On6 := sl.hid o6
           clear o6
           have hzW6 : W5.heap.size ≤ W6.heap.size := b6.size
           have kp0aW6 := (b6.cell (p := ⟨w.heap.size, 0, none⟩) (by show w.heap.size < W5.heap.size; omega)).trans kp0aW5
           have kp0bW6 := (b6.cell (p := ⟨w.heap.size, 1, none⟩) (by show w.heap.size < W5.heap.size; omega)).trans kp0bW5
           have kx0aW6 := (b6.cell (p := ⟨W4.heap.size, 0, none⟩) (by show W4.heap.size < W5.heap.size; omega)).trans kx0aW5
           have kx0bW6 := (b6.cell (p := ⟨W4.heap.size, 1, none⟩) (by show W4.heap.size < W5.heap.size; omega)).trans kx0bW5
           have Aa0W6 := sl.hid (Aa0dW5.out.chg (sl.Chg.ofBelow (lo := 0) b6) (.inr (Nat.zero_le _)))
           have Ox0W6 := sl.hid (Ox0dW5.out.chg (sl.Chg.ofBelow (lo := 0) b6) (.inr (.inr (Nat.zero_le _))))
           have CW6 := sl.hid (CdW5.out.trans (b6.mono (by show w.heap.size ≤ W5.heap.size; omega)))
           clear b6 kp0aW5 kp0bW5 kx0aW5 kx0bW5 Aa0dW5 Ox0dW5 CdW5)
        | (go_at_call 32
           refine (br.eqBS a0 xs0 _ _ _ _ W6 Ox0W6.out.ints On6.out.ints hn0).mono ?_
           rintro e W7 ⟨rfl, b7⟩
           clear On6
           have hzW7 : W6.heap.size ≤ W7.heap.size := b7.size
           have kp0aW7 := (b7.cell (p := ⟨w.heap.size, 0, none⟩) (by show w.heap.size < W6.heap.size; omega)).trans kp0aW6
           have kp0bW7 := (b7.cell (p := ⟨w.heap.size, 1, none⟩) (by show w.heap.size < W6.heap.size; omega)).trans kp0bW6
           have kx0aW7 := (b7.cell (p := ⟨W4.heap.size, 0, none⟩) (by show W4.heap.size < W6.heap.size; omega)).trans kx0aW6
           have kx0bW7 := (b7.cell (p := ⟨W4.heap.size, 1, none⟩) (by show W4.heap.size < W6.heap.size; omega)).trans kx0bW6
           have Aa0W7 := sl.hid (Aa0W6.out.chg (sl.Chg.ofBelow (lo := 0) b7) (.inr (Nat.zero_le _)))
           have Ox0W7 := sl.hid (Ox0W6.out.chg (sl.Chg.ofBelow (lo := 0) b7) (.inr (.inr (Nat.zero_le _))))
           have CW7 := sl.hid (CW6.out.trans (b7.mono (by show w.heap.size ≤ W6.heap.size; omega)))
           clear b7 kp0aW6 kp0bW6 kx0aW6 kx0bW6 Aa0W6 Ox0W6 CW6))
    go_wp2
    go_ret
    exact ⟨rfl, CW7.out⟩
  · have hq : br.szL 1048576 xs0.length = -1 := by unfold br.szL; rw [if_pos (by omega)]
    rw [hq] at HS
    clear hq
    go_enter Try.func13, Try.ntmps13
    go_wp2_with fail
    refine HS.out.mono ?_
    rintro e W1 ⟨rfl, b1⟩
    have C1 := sl.hid (((Below.refl w.heap.size w).alloc (Nat.le_refl _) (.cells #[.int .i64 a0, .slice b0 xs0.length cap0] 37)).trans (b1.mono (by simp)))
    clear b1
    go_wp2
    go_ret
    exact ⟨rfl, C1.out⟩
end Go.Proofs.Ytedajefapddekaa.wsignOfBraid
