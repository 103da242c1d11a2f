/-
  The walk of the law of FirstHandle.
-/
import Derived.Test.YtedajefapddekaaFh1
import Derived.Deep.RegionHeld3
import Derived.Deep.CutRange
namespace Go.Proofs.Ytedajefapddekaa.wfirstHandle
open Go.RowKit
set_option linter.unusedVariables false

set_option maxRecDepth 20000 in
set_option maxHeartbeats 20000000 in
theorem law (a0 : Int) (b0 : Option Addr) (cap0 : Nat) (xs0 : List Int) (w : World) (ha0 : sl.Ints w w.heap.size (.slice b0 xs0.length cap0) xs0) (hcap0 : xs0.length ≤ 9223372036854775807) (h0 : -9223372036854775808 ≤ a0 ∧ a0 ≤ 9223372036854775807) :
    Calls Try.prog 8 #[.agg #[.int .i64 a0, .slice b0 xs0.length cap0]] w fun e w' => e = .returned (.bool true) ∧ Below w.heap.size w w' := by
  have HS := sl.hid (br.szB a0 b0 xs0.length cap0 1048576 (w.alloc (.cells #[.int .i64 a0, .slice b0 xs0.length cap0] 37)) hcap0 (by omega) (by omega))
  by_cases hbig0 : xs0.length ≤ 1048576
  · have hq : br.szL 1048576 xs0.length = 1048576 - (xs0.length : Int) := by unfold br.szL; rw [if_neg (by omega)]
    have hn0 : xs0.length ≤ 1099511627776 := by omega
    have HA0 := sl.hid ha0
    rw [hq] at HS
    have HC0 := sl.hid (Below.refl w.heap.size w)
    have SP : Hid (∀ (v0 : Value) (W : World) (B0 : Nat), sl.Ints W B0 v0 xs0 → B0 ≤ W.heap.size → Calls Try.prog 37 #[.agg #[.int .i64 a0, v0]] W fun e w' => e = .returned (.tuple #[.agg #[.int .i64 (hl.fiA a0 xs0), .int .i64 (hl.fiB a0 xs0)], .bool (hl.fiK a0 xs0)]) ∧ Below W.heap.size W w') := sl.hid (fun v0 W B0 i0 l0 => hl.specFi a0 xs0 v0 B0 W i0 l0 hn0)
    have IP : Hid (∀ (v0 : Value) (W : World) (B0 : Nat), sl.Ints W B0 v0 xs0 → B0 ≤ W.heap.size → Calls Try.prog 38 #[.agg #[.int .i64 a0, v0]] W fun e w' => e = .returned (.tuple #[.agg #[.int .i64 (hl.fiA a0 xs0), .int .i64 (hl.fiB a0 xs0)], .bool (hl.fiK a0 xs0)]) ∧ Below W.heap.size W w') := sl.hid (fun v0 W B0 i0 l0 => hl.implFi a0 xs0 v0 B0 W i0 l0 hn0)
    generalize hl.fiA a0 xs0 = dA at *
    generalize hl.fiB a0 xs0 = dB at *
    generalize hl.fiK a0 xs0 = qr at *
    clear hq ha0 hcap0 h0
    go_enter Try.func8, Try.ntmps8
    go_wp2_with fail
    refine HS.out.mono ?_
    rintro e W1 ⟨rfl, b1⟩
    clear HS
    have bb1 : Below w.heap.size w W1 := ((Below.refl w.heap.size w).alloc (by simp) _).trans (b1.mono (by simp))
    have hzW1 : w.heap.size + 1 ≤ W1.heap.size := by have h := b1.size; simp at h; omega
    have kp0aW1 : W1.cell? ⟨w.heap.size, 0, none⟩ = some (.int .i64 a0) := (b1.cell (p := ⟨w.heap.size, 0, none⟩) (by simp)).trans (World.cell?_alloc_at _ _ _ _ rfl)
    have kp0bW1 : W1.cell? ⟨w.heap.size, 1, none⟩ = some (.slice b0 xs0.length cap0) := (b1.cell (p := ⟨w.heap.size, 1, none⟩) (by simp)).trans (World.cell?_alloc_at _ _ _ _ rfl)
    have Aa0W1 := sl.hid (HA0.out.chg (sl.Chg.ofBelow (lo := 0) bb1) (.inr (Nat.zero_le _)))
    have CW1 := sl.hid (HC0.out.trans (bb1.mono (by omega)))
    clear b1 bb1 HA0 HC0
    go_wp2_with fail
    refine (br.toB a0 xs0 _ _ W1 Aa0W1.out (by omega) hn0).mono ?_
    rintro e W2 ⟨ao2, cap2, rfl, o2, b2⟩
    have On2 := sl.hid o2
    clear o2
    have hzW2 : W1.heap.size ≤ W2.heap.size := b2.size
    have kp0aW2 := (b2.cell (p := ⟨w.heap.size, 0, none⟩) (by show w.heap.size < W1.heap.size; omega)).trans kp0aW1
    have kp0bW2 := (b2.cell (p := ⟨w.heap.size, 1, none⟩) (by show w.heap.size < W1.heap.size; omega)).trans kp0bW1
    have Aa0W2 := sl.hid (Aa0W1.out.chg (sl.Chg.ofBelow (lo := 0) b2) (.inr (Nat.zero_le _)))
    have CW2 := sl.hid (CW1.out.trans (b2.mono (by omega)))
    clear b2 kp0aW1 kp0bW1 Aa0W1 CW1
    go_wp2_with fail
    refine (SP.out _ W2 _ On2.out.ints (by omega)).mono ?_
    rintro e W3 ⟨rfl, b3⟩
    have hzW3 : W2.heap.size ≤ W3.heap.size := b3.size
    have kp0aW3 := (b3.cell (p := ⟨w.heap.size, 0, none⟩) (by show w.heap.size < W2.heap.size; omega)).trans kp0aW2
    have kp0bW3 := (b3.cell (p := ⟨w.heap.size, 1, none⟩) (by show w.heap.size < W2.heap.size; omega)).trans kp0bW2
    have Aa0W3 := sl.hid (Aa0W2.out.chg (sl.Chg.ofBelow (lo := 0) b3) (.inr (Nat.zero_le _)))
    have Oc0W3 := sl.hid (On2.out.chg (sl.Chg.ofBelow (lo := 0) b3) (.inr (.inr (Nat.zero_le _))))
    have CW3 := sl.hid (CW2.out.trans (b3.mono (by omega)))
    clear b3 kp0aW2 kp0bW2 Aa0W2 On2 CW2
    have bE : Below W3.heap.size W3 (W3.alloc (.cells #[.int .i64 dA, .int .i64 dB] 50)) := (Below.refl _ _).alloc (Nat.le_refl _) _
    have ep0aW3 := (bE.cell (p := ⟨w.heap.size, 0, none⟩) (by show w.heap.size < W3.heap.size; omega)).trans kp0aW3
    have ep0bW3 := (bE.cell (p := ⟨w.heap.size, 1, none⟩) (by show w.heap.size < W3.heap.size; omega)).trans kp0bW3
    go_wp2_with fail
    refine (br.toB a0 xs0 _ _ (W3.alloc (.cells #[.int .i64 dA, .int .i64 dB] 50)) (br.ints_al Aa0W3.out _) (by first | omega | (simp; done) | (simp; omega)) hn0).mono ?_
    rintro e W4 ⟨ao4, cap4, rfl, o4, b4⟩
    have On4 := sl.hid (o4.lo (lo' := W3.heap.size + 1) (by simp))
    clear o4
    have bb4 : Below W3.heap.size W3 W4 := ((Below.refl W3.heap.size W3).alloc (by simp) _).trans (b4.mono (by simp))
    have hzW4 : W3.heap.size + 1 ≤ W4.heap.size := by have h := b4.size; simp at h; omega
    have kraW4 : W4.cell? ⟨W3.heap.size, 0, none⟩ = some (.int .i64 dA) := (b4.cell (p := ⟨W3.heap.size, 0, none⟩) (by simp)).trans (World.cell?_alloc_at _ _ _ _ rfl)
    have krbW4 : W4.cell? ⟨W3.heap.size, 1, none⟩ = some (.int .i64 dB) := (b4.cell (p := ⟨W3.heap.size, 1, none⟩) (by simp)).trans (World.cell?_alloc_at _ _ _ _ rfl)
    have kp0aW4 := (bb4.cell (p := ⟨w.heap.size, 0, none⟩) (by show w.heap.size < W3.heap.size; omega)).trans kp0aW3
    have kp0bW4 := (bb4.cell (p := ⟨w.heap.size, 1, none⟩) (by show w.heap.size < W3.heap.size; omega)).trans kp0bW3
    have Aa0W4 := sl.hid (Aa0W3.out.chg (sl.Chg.ofBelow (lo := 0) bb4) (.inr (Nat.zero_le _)))
    have CW4 := sl.hid (CW3.out.trans (bb4.mono (by omega)))
    clear b4 bE ep0aW3 ep0bW3 bb4 kp0aW3 kp0bW3 Aa0W3 CW3
    have bE : Below W4.heap.size W4 (W4.alloc (.cells #[.int .i64 a0, .slice ao4 xs0.length cap4] 39)) := (Below.refl _ _).alloc (Nat.le_refl _) _
    have ep0aW4 := (bE.cell (p := ⟨w.heap.size, 0, none⟩) (by show w.heap.size < W4.heap.size; omega)).trans kp0aW4
    have ep0bW4 := (bE.cell (p := ⟨w.heap.size, 1, none⟩) (by show w.heap.size < W4.heap.size; omega)).trans kp0bW4
    have eraW4 := (bE.cell (p := ⟨W3.heap.size, 0, none⟩) (by show W3.heap.size < W4.heap.size; omega)).trans kraW4
    have erbW4 := (bE.cell (p := ⟨W3.heap.size, 1, none⟩) (by show W3.heap.size < W4.heap.size; omega)).trans krbW4
    go_wp2_with fail
    refine (IP.out _ (W4.alloc (.cells #[.int .i64 a0, .slice ao4 xs0.length cap4] 39)) _ (br.ints_al On4.out.ints _) (by first | omega | (simp; done) | (simp; omega))).mono ?_
    rintro e W5 ⟨rfl, b5⟩
    have bb5 : Below W4.heap.size W4 W5 := ((Below.refl W4.heap.size W4).alloc (by simp) _).trans (b5.mono (by simp))
    have hzW5 : W4.heap.size + 1 ≤ W5.heap.size := by have h := b5.size; simp at h; omega
    have kx0aW5 : W5.cell? ⟨W4.heap.size, 0, none⟩ = some (.int .i64 a0) := (b5.cell (p := ⟨W4.heap.size, 0, none⟩) (by simp)).trans (World.cell?_alloc_at _ _ _ _ rfl)
    have kx0bW5 : W5.cell? ⟨W4.heap.size, 1, none⟩ = some (.slice ao4 xs0.length cap4) := (b5.cell (p := ⟨W4.heap.size, 1, none⟩) (by simp)).trans (World.cell?_alloc_at _ _ _ _ rfl)
    have kp0aW5 := (bb5.cell (p := ⟨w.heap.size, 0, none⟩) (by show w.heap.size < W4.heap.size; omega)).trans kp0aW4
    have kp0bW5 := (bb5.cell (p := ⟨w.heap.size, 1, none⟩) (by show w.heap.size < W4.heap.size; omega)).trans kp0bW4
    have kraW5 := (bb5.cell (p := ⟨W3.heap.size, 0, none⟩) (by show W3.heap.size < W4.heap.size; omega)).trans kraW4
    have krbW5 := (bb5.cell (p := ⟨W3.heap.size, 1, none⟩) (by show W3.heap.size < W4.heap.size; omega)).trans krbW4
    have Aa0W5 := sl.hid (Aa0W4.out.chg (sl.Chg.ofBelow (lo := 0) bb5) (.inr (Nat.zero_le _)))
    have Ox0W5 := sl.hid (On4.out.chg (sl.Chg.ofBelow (lo := 0) bb5) (.inr (.inr (Nat.zero_le _))))
    have CW5 := sl.hid (CW4.out.trans (bb5.mono (by omega)))
    clear b5 bE ep0aW4 ep0bW4 eraW4 erbW4 bb5 kp0aW4 kp0bW4 kraW4 krbW4 Aa0W4 On4 CW4
    have bE : Below W5.heap.size W5 (W5.alloc (.cells #[.int .i64 dA, .int .i64 dB] 50)) := (Below.refl _ _).alloc (Nat.le_refl _) _
    have ep0aW5 := (bE.cell (p := ⟨w.heap.size, 0, none⟩) (by show w.heap.size < W5.heap.size; omega)).trans kp0aW5
    have ep0bW5 := (bE.cell (p := ⟨w.heap.size, 1, none⟩) (by show w.heap.size < W5.heap.size; omega)).trans kp0bW5
    have eraW5 := (bE.cell (p := ⟨W3.heap.size, 0, none⟩) (by show W3.heap.size < W5.heap.size; omega)).trans kraW5
    have erbW5 := (bE.cell (p := ⟨W3.heap.size, 1, none⟩) (by show W3.heap.size < W5.heap.size; omega)).trans krbW5
    have ex0aW5 := (bE.cell (p := ⟨W4.heap.size, 0, none⟩) (by show W4.heap.size < W5.heap.size; omega)).trans kx0aW5
    have ex0bW5 := (bE.cell (p := ⟨W4.heap.size, 1, none⟩) (by show W4.heap.size < W5.heap.size; omega)).trans kx0bW5
    go_wp2_with fail
    refine (hl.eqH dA dB (W5.alloc (.cells #[.int .i64 dA, .int .i64 dB] 50))).mono ?_
    rintro e W6 ⟨rfl, b6⟩
    have bb6 : Below W5.heap.size W5 W6 := ((Below.refl W5.heap.size W5).alloc (by simp) _).trans (b6.mono (by simp))
    have hzW6 : W5.heap.size + 1 ≤ W6.heap.size := by have h := b6.size; simp at h; omega
    have kgaW6 : W6.cell? ⟨W5.heap.size, 0, none⟩ = some (.int .i64 dA) := (b6.cell (p := ⟨W5.heap.size, 0, none⟩) (by simp)).trans (World.cell?_alloc_at _ _ _ _ rfl)
    have kgbW6 : W6.cell? ⟨W5.heap.size, 1, none⟩ = some (.int .i64 dB) := (b6.cell (p := ⟨W5.heap.size, 1, none⟩) (by simp)).trans (World.cell?_alloc_at _ _ _ _ rfl)
    have kp0aW6 := (bb6.cell (p := ⟨w.heap.size, 0, none⟩) (by show w.heap.size < W5.heap.size; omega)).trans kp0aW5
    have kp0bW6 := (bb6.cell (p := ⟨w.heap.size, 1, none⟩) (by show w.heap.size < W5.heap.size; omega)).trans kp0bW5
    have kraW6 := (bb6.cell (p := ⟨W3.heap.size, 0, none⟩) (by show W3.heap.size < W5.heap.size; omega)).trans kraW5
    have krbW6 := (bb6.cell (p := ⟨W3.heap.size, 1, none⟩) (by show W3.heap.size < W5.heap.size; omega)).trans krbW5
    have kx0aW6 := (bb6.cell (p := ⟨W4.heap.size, 0, none⟩) (by show W4.heap.size < W5.heap.size; omega)).trans kx0aW5
    have kx0bW6 := (bb6.cell (p := ⟨W4.heap.size, 1, none⟩) (by show W4.heap.size < W5.heap.size; omega)).trans kx0bW5
    have Aa0W6 := sl.hid (Aa0W5.out.chg (sl.Chg.ofBelow (lo := 0) bb6) (.inr (Nat.zero_le _)))
    have Ox0W6 := sl.hid (Ox0W5.out.chg (sl.Chg.ofBelow (lo := 0) bb6) (.inr (.inr (Nat.zero_le _))))
    have CW6 := sl.hid (CW5.out.trans (bb6.mono (by omega)))
    clear b6 bE ep0aW5 ep0bW5 eraW5 erbW5 ex0aW5 ex0bW5 bb6 kp0aW5 kp0bW5 kraW5 krbW5 kx0aW5 kx0bW5 Aa0W5 Ox0W5 CW5
    go_wp2_with fail
    have bD := (Below.refl W6.heap.size W6).drew
    have Aa0dW6 := sl.hid (Aa0W6.out.chg (sl.Chg.ofBelow (lo := 0) bD) (.inr (Nat.zero_le _)))
    have Ox0dW6 := sl.hid (Ox0W6.out.chg (sl.Chg.ofBelow (lo := 0) bD) (.inr (.inr (Nat.zero_le _))))
    have CdW6 := sl.hid (CW6.out.drew)
    clear bD Aa0W6 Ox0W6 CW6
    go_region_held3 (fun w' => w'.cell? ⟨w.heap.size, 0, none⟩ = some (.int .i64 a0) ∧ w'.cell? ⟨w.heap.size, 1, none⟩ = some (.slice b0 xs0.length cap0) ∧ w'.cell? ⟨W4.heap.size, 0, none⟩ = some (.int .i64 a0) ∧ w'.cell? ⟨W4.heap.size, 1, none⟩ = some (.slice ao4 xs0.length cap4)) (go_keep)
      (first
        | (go_at_call 29
           refine (br.toB a0 xs0 _ _ W6.drew Aa0dW6.out (by show w.heap.size ≤ W6.heap.size; omega) hn0).mono ?_
           rintro e W7 ⟨ao7, cap7, rfl, o7, b7⟩
           have On7 := sl.hid o7
           clear o7
           have hzW7 : W6.heap.size ≤ W7.heap.size := b7.size
           have kp0aW7 := (b7.cell (p := ⟨w.heap.size, 0, none⟩) (by show w.heap.size < W6.heap.size; omega)).trans kp0aW6
           have kp0bW7 := (b7.cell (p := ⟨w.heap.size, 1, none⟩) (by show w.heap.size < W6.heap.size; omega)).trans kp0bW6
           have kraW7 := (b7.cell (p := ⟨W3.heap.size, 0, none⟩) (by show W3.heap.size < W6.heap.size; omega)).trans kraW6
           have krbW7 := (b7.cell (p := ⟨W3.heap.size, 1, none⟩) (by show W3.heap.size < W6.heap.size; omega)).trans krbW6
           have kx0aW7 := (b7.cell (p := ⟨W4.heap.size, 0, none⟩) (by show W4.heap.size < W6.heap.size; omega)).trans kx0aW6
           have kx0bW7 := (b7.cell (p := ⟨W4.heap.size, 1, none⟩) (by show W4.heap.size < W6.heap.size; omega)).trans kx0bW6
           have kgaW7 := (b7.cell (p := ⟨W5.heap.size, 0, none⟩) (by show W5.heap.size < W6.heap.size; omega)).trans kgaW6
           have kgbW7 := (b7.cell (p := ⟨W5.heap.size, 1, none⟩) (by show W5.heap.size < W6.heap.size; omega)).trans kgbW6
           have Aa0W7 := sl.hid (Aa0dW6.out.chg (sl.Chg.ofBelow (lo := 0) b7) (.inr (Nat.zero_le _)))
           have Ox0W7 := sl.hid (Ox0dW6.out.chg (sl.Chg.ofBelow (lo := 0) b7) (.inr (.inr (Nat.zero_le _))))
           have CW7 := sl.hid (CdW6.out.trans (b7.mono (by show w.heap.size ≤ W6.heap.size; omega)))
           clear b7 kp0aW6 kp0bW6 kraW6 krbW6 kx0aW6 kx0bW6 kgaW6 kgbW6 Aa0dW6 Ox0dW6 CdW6)
        | (go_at_call 32
           refine (br.eqBS a0 xs0 _ _ _ _ W7 Ox0W7.out.ints On7.out.ints hn0).mono ?_
           rintro e W8 ⟨rfl, b8⟩
           clear On7
           have hzW8 : W7.heap.size ≤ W8.heap.size := b8.size
           have kp0aW8 := (b8.cell (p := ⟨w.heap.size, 0, none⟩) (by show w.heap.size < W7.heap.size; omega)).trans kp0aW7
           have kp0bW8 := (b8.cell (p := ⟨w.heap.size, 1, none⟩) (by show w.heap.size < W7.heap.size; omega)).trans kp0bW7
           have kraW8 := (b8.cell (p := ⟨W3.heap.size, 0, none⟩) (by show W3.heap.size < W7.heap.size; omega)).trans kraW7
           have krbW8 := (b8.cell (p := ⟨W3.heap.size, 1, none⟩) (by show W3.heap.size < W7.heap.size; omega)).trans krbW7
           have kx0aW8 := (b8.cell (p := ⟨W4.heap.size, 0, none⟩) (by show W4.heap.size < W7.heap.size; omega)).trans kx0aW7
           have kx0bW8 := (b8.cell (p := ⟨W4.heap.size, 1, none⟩) (by show W4.heap.size < W7.heap.size; omega)).trans kx0bW7
           have kgaW8 := (b8.cell (p := ⟨W5.heap.size, 0, none⟩) (by show W5.heap.size < W7.heap.size; omega)).trans kgaW7
           have kgbW8 := (b8.cell (p := ⟨W5.heap.size, 1, none⟩) (by show W5.heap.size < W7.heap.size; omega)).trans kgbW7
           have Aa0W8 := sl.hid (Aa0W7.out.chg (sl.Chg.ofBelow (lo := 0) b8) (.inr (Nat.zero_le _)))
           have Ox0W8 := sl.hid (Ox0W7.out.chg (sl.Chg.ofBelow (lo := 0) b8) (.inr (.inr (Nat.zero_le _))))
           have CW8 := sl.hid (CW7.out.trans (b8.mono (by show w.heap.size ≤ W7.heap.size; omega)))
           clear b8 kp0aW7 kp0bW7 kraW7 krbW7 kx0aW7 kx0bW7 kgaW7 kgbW7 Aa0W7 Ox0W7 CW7))
    go_wp2
    go_ret
    exact ⟨rfl, CW8.out⟩
  · have hq : br.szL 1048576 xs0.length = -1 := by unfold br.szL; rw [if_pos (by omega)]
    rw [hq] at HS
    clear hq
    go_enter Try.func8, Try.ntmps8
    go_wp2_with fail
    refine HS.out.mono ?_
    rintro e W1 ⟨rfl, b1⟩
    have C1 := sl.hid (((Below.refl w.heap.size w).alloc (Nat.le_refl _) (.cells #[.int .i64 a0, .slice b0 xs0.length cap0] 37)).trans (b1.mono (by simp)))
    clear b1
    go_wp2
    go_ret
    exact ⟨rfl, C1.out⟩
end Go.Proofs.Ytedajefapddekaa.wfirstHandle
