/-
  The walk of the law of HandleForm.
-/
import Derived.Test.YtedajefapddekaaHo1
import Derived.Deep.RegionHeld3
import Derived.Deep.CutRange
namespace Go.Proofs.Ytedajefapddekaa.whandleForm
open Go.RowKit
set_option linter.unusedVariables false

set_option maxRecDepth 20000 in
set_option maxHeartbeats 20000000 in
theorem law (a0 : Int) (b0 : Option Addr) (cap0 : Nat) (xs0 : List Int) (a1 : Int) (w : World) (ha0 : sl.Ints w w.heap.size (.slice b0 xs0.length cap0) xs0) (hcap0 : xs0.length ≤ 9223372036854775807) (h0 : -9223372036854775808 ≤ a0 ∧ a0 ≤ 9223372036854775807) (h1 : -9223372036854775808 ≤ a1 ∧ a1 ≤ 9223372036854775807) :
    Calls Try.prog 10 #[.agg #[.int .i64 a0, .slice b0 xs0.length cap0], .int .i64 a1] w fun e w' => e = .returned (.bool true) ∧ Below w.heap.size w w' := by
  have HS := sl.hid (br.szB a0 b0 xs0.length cap0 1048576 (w.alloc (.cells #[.int .i64 a0, .slice b0 xs0.length cap0] 37)) hcap0 (by omega) (by omega))
  by_cases hbig0 : xs0.length ≤ 1048576
  · have hq : br.szL 1048576 xs0.length = 1048576 - (xs0.length : Int) := by unfold br.szL; rw [if_neg (by omega)]
    have hn0 : xs0.length ≤ 1099511627776 := by omega
    have HA0 := sl.hid ha0
    rw [hq] at HS
    have HC0 := sl.hid (Below.refl w.heap.size w)
    have SP : Hid (∀ (v0 : Value) (W : World) (B0 : Nat), sl.Ints W B0 v0 xs0 → B0 ≤ W.heap.size → hl.SOk v0 → Calls Try.prog 43 #[.agg #[.int .i64 a0, v0], .int .i64 a1] W fun e w' => ∃ ao cap, e = .returned (.tuple #[.slice ao (hl.hoL a0 a1 xs0).length cap, .int .i64 (hl.hoS a0 a1 xs0), .int .i64 (hl.hoC a0 a1 xs0)]) ∧ sl.Own w' W.heap.size w'.heap.size (.slice ao (hl.hoL a0 a1 xs0).length cap) (hl.hoL a0 a1 xs0) ∧ Below W.heap.size W w') := sl.hid (fun v0 W B0 i0 l0 n0 => hl.specHFq a0 xs0 a1 v0 B0 W i0 l0 hn0 n0)
    have IP : Hid (∀ (v0 : Value) (W : World) (B0 : Nat), sl.Ints W B0 v0 xs0 → B0 ≤ W.heap.size → hl.SOk v0 → Calls Try.prog 44 #[.agg #[.int .i64 a0, v0], .int .i64 a1] W fun e w' => ∃ ao cap, e = .returned (.tuple #[.slice ao (hl.hoL a0 a1 xs0).length cap, .int .i64 (hl.hoS a0 a1 xs0), .int .i64 (hl.hoC a0 a1 xs0)]) ∧ sl.Own w' W.heap.size w'.heap.size (.slice ao (hl.hoL a0 a1 xs0).length cap) (hl.hoL a0 a1 xs0) ∧ Below W.heap.size W w') := sl.hid (fun v0 W B0 i0 l0 n0 => hl.implHFq a0 xs0 a1 v0 B0 W i0 l0 hn0 n0)
    have hr : (hl.hoL a0 a1 xs0).length ≤ 1099511627776 := Nat.le_trans (hl.hoL_len a0 a1 xs0) (by omega)
    generalize hl.hoL a0 a1 xs0 = zr at *
    generalize hl.hoS a0 a1 xs0 = qi at *
    generalize hl.hoC a0 a1 xs0 = qi2 at *
    clear hq ha0 hcap0 h0 h1
    go_enter Try.func10, Try.ntmps10
    go_wp2_with fail
    refine HS.out.mono ?_
    rintro e W1 ⟨rfl, b1⟩
    clear HS
    have bb1 : Below w.heap.size w W1 := ((Below.refl w.heap.size w).alloc (by simp) _).trans (b1.mono (by simp))
    have hzW1 : w.heap.size + 1 ≤ W1.heap.size := by have h := b1.size; simp at h; omega
    have kp0aW1 : W1.cell? ⟨w.heap.size, 0, none⟩ = some (.int .i64 a0) := (b1.cell (p := ⟨w.heap.size, 0, none⟩) (by simp)).trans (World.cell?_alloc_at _ _ _ _ rfl)
    have kp0bW1 : W1.cell? ⟨w.heap.size, 1, none⟩ = some (.slice b0 xs0.length cap0) := (b1.cell (p := ⟨w.heap.size, 1, none⟩) (by simp)).trans (World.cell?_alloc_at _ _ _ _ rfl)
    have Aa0W1 := sl.hid (HA0.out.chg (sl.Chg.ofBelow (lo := 0) bb1) (.inr (Nat.zero_le _)))
    have CW1 := sl.hid (HC0.out.trans (bb1.mono (by omega)))
    clear b1 bb1 HA0 HC0
    go_wp2_with fail
    refine (br.toB a0 xs0 _ _ W1 Aa0W1.out (by omega) hn0).mono ?_
    rintro e W2 ⟨ao2, cap2, rfl, o2, b2⟩
    have On2 := sl.hid o2
    clear o2
    have hzW2 : W1.heap.size ≤ W2.heap.size := b2.size
    have kp0aW2 := (b2.cell (p := ⟨w.heap.size, 0, none⟩) (by show w.heap.size < W1.heap.size; omega)).trans kp0aW1
    have kp0bW2 := (b2.cell (p := ⟨w.heap.size, 1, none⟩) (by show w.heap.size < W1.heap.size; omega)).trans kp0bW1
    have Aa0W2 := sl.hid (Aa0W1.out.chg (sl.Chg.ofBelow (lo := 0) b2) (.inr (Nat.zero_le _)))
    have CW2 := sl.hid (CW1.out.trans (b2.mono (by omega)))
    clear b2 kp0aW1 kp0bW1 Aa0W1 CW1
    go_wp2_with fail
    refine (SP.out _ W2 _ On2.out.ints (by omega) (hl.sok_own On2.out)).mono ?_
    rintro e W3 ⟨ao3, cap3, rfl, o3, b3⟩
    have On3 := sl.hid o3
    clear o3
    have hzW3 : W2.heap.size ≤ W3.heap.size := b3.size
    have kp0aW3 := (b3.cell (p := ⟨w.heap.size, 0, none⟩) (by show w.heap.size < W2.heap.size; omega)).trans kp0aW2
    have kp0bW3 := (b3.cell (p := ⟨w.heap.size, 1, none⟩) (by show w.heap.size < W2.heap.size; omega)).trans kp0bW2
    have Aa0W3 := sl.hid (Aa0W2.out.chg (sl.Chg.ofBelow (lo := 0) b3) (.inr (Nat.zero_le _)))
    have Oc0W3 := sl.hid (On2.out.chg (sl.Chg.ofBelow (lo := 0) b3) (.inr (.inr (Nat.zero_le _))))
    have CW3 := sl.hid (CW2.out.trans (b3.mono (by omega)))
    clear b3 kp0aW2 kp0bW2 Aa0W2 On2 CW2
    go_wp2_with fail
    refine (br.toB a0 xs0 _ _ W3 Aa0W3.out (by omega) hn0).mono ?_
    rintro e W4 ⟨ao4, cap4, rfl, o4, b4⟩
    have On4 := sl.hid o4
    clear o4
    have hzW4 : W3.heap.size ≤ W4.heap.size := b4.size
    have kp0aW4 := (b4.cell (p := ⟨w.heap.size, 0, none⟩) (by show w.heap.size < W3.heap.size; omega)).trans kp0aW3
    have kp0bW4 := (b4.cell (p := ⟨w.heap.size, 1, none⟩) (by show w.heap.size < W3.heap.size; omega)).trans kp0bW3
    have Aa0W4 := sl.hid (Aa0W3.out.chg (sl.Chg.ofBelow (lo := 0) b4) (.inr (Nat.zero_le _)))
    have OrW4 := sl.hid (On3.out.chg (sl.Chg.ofBelow (lo := 0) b4) (.inr (.inr (Nat.zero_le _))))
    have CW4 := sl.hid (CW3.out.trans (b4.mono (by omega)))
    clear b4 kp0aW3 kp0bW3 Aa0W3 On3 CW3
    have bE : Below W4.heap.size W4 (W4.alloc (.cells #[.int .i64 a0, .slice ao4 xs0.length cap4] 39)) := (Below.refl _ _).alloc (Nat.le_refl _) _
    have ep0aW4 := (bE.cell (p := ⟨w.heap.size, 0, none⟩) (by show w.heap.size < W4.heap.size; omega)).trans kp0aW4
    have ep0bW4 := (bE.cell (p := ⟨w.heap.size, 1, none⟩) (by show w.heap.size < W4.heap.size; omega)).trans kp0bW4
    go_wp2_with fail
    refine (IP.out _ (W4.alloc (.cells #[.int .i64 a0, .slice ao4 xs0.length cap4] 39)) _ (br.ints_al On4.out.ints _) (by first | omega | (simp; done) | (simp; omega)) (hl.sok_own On4.out)).mono ?_
    rintro e W5 ⟨ao5, cap5, rfl, o5, b5⟩
    have On5 := sl.hid (o5.lo (lo' := W4.heap.size + 1) (by simp))
    clear o5
    have bb5 : Below W4.heap.size W4 W5 := ((Below.refl W4.heap.size W4).alloc (by simp) _).trans (b5.mono (by simp))
    have hzW5 : W4.heap.size + 1 ≤ W5.heap.size := by have h := b5.size; simp at h; omega
    have kx0aW5 : W5.cell? ⟨W4.heap.size, 0, none⟩ = some (.int .i64 a0) := (b5.cell (p := ⟨W4.heap.size, 0, none⟩) (by simp)).trans (World.cell?_alloc_at _ _ _ _ rfl)
    have kx0bW5 : W5.cell? ⟨W4.heap.size, 1, none⟩ = some (.slice ao4 xs0.length cap4) := (b5.cell (p := ⟨W4.heap.size, 1, none⟩) (by simp)).trans (World.cell?_alloc_at _ _ _ _ rfl)
    have kp0aW5 := (bb5.cell (p := ⟨w.heap.size, 0, none⟩) (by show w.heap.size < W4.heap.size; omega)).trans kp0aW4
    have kp0bW5 := (bb5.cell (p := ⟨w.heap.size, 1, none⟩) (by show w.heap.size < W4.heap.size; omega)).trans kp0bW4
    have Aa0W5 := sl.hid (Aa0W4.out.chg (sl.Chg.ofBelow (lo := 0) bb5) (.inr (Nat.zero_le _)))
    have OrW5 := sl.hid (OrW4.out.chg (sl.Chg.ofBelow (lo := 0) bb5) (.inr (.inr (Nat.zero_le _))))
    have Ox0W5 := sl.hid (On4.out.chg (sl.Chg.ofBelow (lo := 0) bb5) (.inr (.inr (Nat.zero_le _))))
    have CW5 := sl.hid (CW4.out.trans (bb5.mono (by omega)))
    clear b5 bE ep0aW4 ep0bW4 bb5 kp0aW4 kp0bW4 Aa0W4 OrW4 On4 CW4
    go_wp2_with fail
    refine (sl.eqS zr _ _ _ _ W5 On5.out.ints OrW5.out.ints hr).mono ?_
    rintro e W6 ⟨rfl, b6⟩
    have hzW6 : W5.heap.size ≤ W6.heap.size := b6.size
    have kp0aW6 := (b6.cell (p := ⟨w.heap.size, 0, none⟩) (by show w.heap.size < W5.heap.size; omega)).trans kp0aW5
    have kp0bW6 := (b6.cell (p := ⟨w.heap.size, 1, none⟩) (by show w.heap.size < W5.heap.size; omega)).trans kp0bW5
    have kx0aW6 := (b6.cell (p := ⟨W4.heap.size, 0, none⟩) (by show W4.heap.size < W5.heap.size; omega)).trans kx0aW5
    have kx0bW6 := (b6.cell (p := ⟨W4.heap.size, 1, none⟩) (by show W4.heap.size < W5.heap.size; omega)).trans kx0bW5
    have Aa0W6 := sl.hid (Aa0W5.out.chg (sl.Chg.ofBelow (lo := 0) b6) (.inr (Nat.zero_le _)))
    have OrW6 := sl.hid (OrW5.out.chg (sl.Chg.ofBelow (lo := 0) b6) (.inr (.inr (Nat.zero_le _))))
    have Ox0W6 := sl.hid (Ox0W5.out.chg (sl.Chg.ofBelow (lo := 0) b6) (.inr (.inr (Nat.zero_le _))))
    have OgW6 := sl.hid (On5.out.chg (sl.Chg.ofBelow (lo := 0) b6) (.inr (.inr (Nat.zero_le _))))
    have CW6 := sl.hid (CW5.out.trans (b6.mono (by omega)))
    clear b6 kp0aW5 kp0bW5 kx0aW5 kx0bW5 Aa0W5 OrW5 Ox0W5 On5 CW5
    go_wp2_with fail
    have bD := (Below.refl W6.heap.size W6).drew
    have Aa0dW6 := sl.hid (Aa0W6.out.chg (sl.Chg.ofBelow (lo := 0) bD) (.inr (Nat.zero_le _)))
    have OrdW6 := sl.hid (OrW6.out.chg (sl.Chg.ofBelow (lo := 0) bD) (.inr (.inr (Nat.zero_le _))))
    have Ox0dW6 := sl.hid (Ox0W6.out.chg (sl.Chg.ofBelow (lo := 0) bD) (.inr (.inr (Nat.zero_le _))))
    have OgdW6 := sl.hid (OgW6.out.chg (sl.Chg.ofBelow (lo := 0) bD) (.inr (.inr (Nat.zero_le _))))
    have CdW6 := sl.hid (CW6.out.drew)
    clear bD Aa0W6 OrW6 Ox0W6 OgW6 CW6
    go_region_held3 (fun w' => w'.cell? ⟨w.heap.size, 0, none⟩ = some (.int .i64 a0) ∧ w'.cell? ⟨w.heap.size, 1, none⟩ = some (.slice b0 xs0.length cap0) ∧ w'.cell? ⟨W4.heap.size, 0, none⟩ = some (.int .i64 a0) ∧ w'.cell? ⟨W4.heap.size, 1, none⟩ = some (.slice ao4 xs0.length cap4)) (go_keep)
      (first
        | (go_at_call 29
           refine (br.toB a0 xs0 _ _ W6.drew Aa0dW6.out (by show w.heap.size ≤ W6.heap.size; omega) hn0).mono ?_
           rintro e W7 ⟨ao7, cap7, rfl, o7, b7⟩
           have On7 := sl.hid o7
           clear o7
           have hzW7 : W6.heap.size ≤ W7.heap.size := b7.size
           have kp0aW7 := (b7.cell (p := ⟨w.heap.size, 0, none⟩) (by show w.heap.size < W6.heap.size; omega)).trans kp0aW6
           have kp0bW7 := (b7.cell (p := ⟨w.heap.size, 1, none⟩) (by show w.heap.size < W6.heap.size; omega)).trans kp0bW6
           have kx0aW7 := (b7.cell (p := ⟨W4.heap.size, 0, none⟩) (by show W4.heap.size < W6.heap.size; omega)).trans kx0aW6
           have kx0bW7 := (b7.cell (p := ⟨W4.heap.size, 1, none⟩) (by show W4.heap.size < W6.heap.size; omega)).trans kx0bW6
           have Aa0W7 := sl.hid (Aa0dW6.out.chg (sl.Chg.ofBelow (lo := 0) b7) (.inr (Nat.zero_le _)))
           have OrW7 := sl.hid (OrdW6.out.chg (sl.Chg.ofBelow (lo := 0) b7) (.inr (.inr (Nat.zero_le _))))
           have Ox0W7 := sl.hid (Ox0dW6.out.chg (sl.Chg.ofBelow (lo := 0) b7) (.inr (.inr (Nat.zero_le _))))
           have OgW7 := sl.hid (OgdW6.out.chg (sl.Chg.ofBelow (lo := 0) b7) (.inr (.inr (Nat.zero_le _))))
           have CW7 := sl.hid (CdW6.out.trans (b7.mono (by show w.heap.size ≤ W6.heap.size; omega)))
           clear b7 kp0aW6 kp0bW6 kx0aW6 kx0bW6 Aa0dW6 OrdW6 Ox0dW6 OgdW6 CdW6)
        | (go_at_call 32
           refine (br.eqBS a0 xs0 _ _ _ _ W7 Ox0W7.out.ints On7.out.ints hn0).mono ?_
           rintro e W8 ⟨rfl, b8⟩
           clear On7
           have hzW8 : W7.heap.size ≤ W8.heap.size := b8.size
           have kp0aW8 := (b8.cell (p := ⟨w.heap.size, 0, none⟩) (by show w.heap.size < W7.heap.size; omega)).trans kp0aW7
           have kp0bW8 := (b8.cell (p := ⟨w.heap.size, 1, none⟩) (by show w.heap.size < W7.heap.size; omega)).trans kp0bW7
           have kx0aW8 := (b8.cell (p := ⟨W4.heap.size, 0, none⟩) (by show W4.heap.size < W7.heap.size; omega)).trans kx0aW7
           have kx0bW8 := (b8.cell (p := ⟨W4.heap.size, 1, none⟩) (by show W4.heap.size < W7.heap.size; omega)).trans kx0bW7
           have Aa0W8 := sl.hid (Aa0W7.out.chg (sl.Chg.ofBelow (lo := 0) b8) (.inr (Nat.zero_le _)))
           have OrW8 := sl.hid (OrW7.out.chg (sl.Chg.ofBelow (lo := 0) b8) (.inr (.inr (Nat.zero_le _))))
           have Ox0W8 := sl.hid (Ox0W7.out.chg (sl.Chg.ofBelow (lo := 0) b8) (.inr (.inr (Nat.zero_le _))))
           have OgW8 := sl.hid (OgW7.out.chg (sl.Chg.ofBelow (lo := 0) b8) (.inr (.inr (Nat.zero_le _))))
           have CW8 := sl.hid (CW7.out.trans (b8.mono (by show w.heap.size ≤ W7.heap.size; omega)))
           clear b8 kp0aW7 kp0bW7 kx0aW7 kx0bW7 Aa0W7 OrW7 Ox0W7 OgW7 CW7))
    go_wp2_with fail
    refine (br.markB _ xs0 _ _ _ (1) W8 Ox0W8.out hn0 (by omega) (by omega)).mono ?_
    rintro e W9 ⟨rfl, o9, c9⟩
    have hzW9 : W8.heap.size ≤ W9.heap.size := c9.size
    have On9 := sl.hid o9
    clear o9
    have kp0aW9 := (World.cell?_of_block (w := W8) (w' := W9) (a := ⟨w.heap.size, 0, none⟩) (c9.block (w.heap.size) (by omega) (by omega))).trans kp0aW8
    have kp0bW9 := (World.cell?_of_block (w := W8) (w' := W9) (a := ⟨w.heap.size, 1, none⟩) (c9.block (w.heap.size) (by omega) (by omega))).trans kp0bW8
    have kx0aW9 := (World.cell?_of_block (w := W8) (w' := W9) (a := ⟨W4.heap.size, 0, none⟩) (c9.block (W4.heap.size) (by omega) (by omega))).trans kx0aW8
    have kx0bW9 := (World.cell?_of_block (w := W8) (w' := W9) (a := ⟨W4.heap.size, 1, none⟩) (c9.block (W4.heap.size) (by omega) (by omega))).trans kx0bW8
    have Aa0W9 := sl.hid (Aa0W8.out.chg c9 (.inl (by omega)))
    have OrW9 := sl.hid (OrW8.out.chg c9 (by omega))
    have OgW9 := sl.hid (OgW8.out.chg c9 (by omega))
    have CW9 := sl.hid (CW8.out.trans (c9.below (by omega) (by omega)))
    clear c9 Ox0W8 kp0aW8 kp0bW8 kx0aW8 kx0bW8 Aa0W8 OrW8 OgW8 CW8
    go_wp2_with fail
    refine (sl.eqS zr _ _ _ _ W9 OgW9.out.ints OrW9.out.ints hr).mono ?_
    rintro e W10 ⟨rfl, b10⟩
    have hzW10 : W9.heap.size ≤ W10.heap.size := b10.size
    have kp0aW10 := (b10.cell (p := ⟨w.heap.size, 0, none⟩) (by show w.heap.size < W9.heap.size; omega)).trans kp0aW9
    have kp0bW10 := (b10.cell (p := ⟨w.heap.size, 1, none⟩) (by show w.heap.size < W9.heap.size; omega)).trans kp0bW9
    have Aa0W10 := sl.hid (Aa0W9.out.chg (sl.Chg.ofBelow (lo := 0) b10) (.inr (Nat.zero_le _)))
    have OrW10 := sl.hid (OrW9.out.chg (sl.Chg.ofBelow (lo := 0) b10) (.inr (.inr (Nat.zero_le _))))
    have OgW10 := sl.hid (OgW9.out.chg (sl.Chg.ofBelow (lo := 0) b10) (.inr (.inr (Nat.zero_le _))))
    have CW10 := sl.hid (CW9.out.trans (b10.mono (by omega)))
    clear b10 kp0aW9 kp0bW9 Aa0W9 OrW9 OgW9 CW9
    go_wp2_with fail
    refine (sl.markI zr _ _ _ (1) W10 OgW10.out hr (by omega) (by omega)).mono ?_
    rintro e W11 ⟨rfl, o11, c11⟩
    have hzW11 : W10.heap.size ≤ W11.heap.size := c11.size
    have On11 := sl.hid o11
    clear o11
    have kp0aW11 := (World.cell?_of_block (w := W10) (w' := W11) (a := ⟨w.heap.size, 0, none⟩) (c11.block (w.heap.size) (by omega) (by omega))).trans kp0aW10
    have kp0bW11 := (World.cell?_of_block (w := W10) (w' := W11) (a := ⟨w.heap.size, 1, none⟩) (c11.block (w.heap.size) (by omega) (by omega))).trans kp0bW10
    have Aa0W11 := sl.hid (Aa0W10.out.chg c11 (.inl (by omega)))
    have OrW11 := sl.hid (OrW10.out.chg c11 (by omega))
    have CW11 := sl.hid (CW10.out.trans (c11.below (by omega) (by omega)))
    clear c11 OgW10 kp0aW10 kp0bW10 Aa0W10 OrW10 CW10
    go_wp2_with fail
    refine (sl.heldI zr.length _ _ 1 W11 On11.out.ints hr (by omega) (by omega)).mono ?_
    rintro e W12 ⟨rfl, rfl⟩
    go_wp2_with fail
    refine (br.toB a0 xs0 _ _ W11 Aa0W11.out (by omega) hn0).mono ?_
    rintro e W13 ⟨ao13, cap13, rfl, o13, b13⟩
    have On13 := sl.hid o13
    clear o13
    have hzW13 : W11.heap.size ≤ W13.heap.size := b13.size
    have kp0aW13 := (b13.cell (p := ⟨w.heap.size, 0, none⟩) (by show w.heap.size < W11.heap.size; omega)).trans kp0aW11
    have kp0bW13 := (b13.cell (p := ⟨w.heap.size, 1, none⟩) (by show w.heap.size < W11.heap.size; omega)).trans kp0bW11
    have Aa0W13 := sl.hid (Aa0W11.out.chg (sl.Chg.ofBelow (lo := 0) b13) (.inr (Nat.zero_le _)))
    have OrW13 := sl.hid (OrW11.out.chg (sl.Chg.ofBelow (lo := 0) b13) (.inr (.inr (Nat.zero_le _))))
    have OgW13 := sl.hid (On11.out.chg (sl.Chg.ofBelow (lo := 0) b13) (.inr (.inr (Nat.zero_le _))))
    have CW13 := sl.hid (CW11.out.trans (b13.mono (by omega)))
    clear b13 kp0aW11 kp0bW11 Aa0W11 OrW11 On11 CW11
    go_wp2_with fail
    refine (IP.out _ W13 _ On13.out.ints (by omega) (hl.sok_own On13.out)).mono ?_
    rintro e W14 ⟨ao14, cap14, rfl, o14, b14⟩
    have On14 := sl.hid o14
    clear o14
    have hzW14 : W13.heap.size ≤ W14.heap.size := b14.size
    have kp0aW14 := (b14.cell (p := ⟨w.heap.size, 0, none⟩) (by show w.heap.size < W13.heap.size; omega)).trans kp0aW13
    have kp0bW14 := (b14.cell (p := ⟨w.heap.size, 1, none⟩) (by show w.heap.size < W13.heap.size; omega)).trans kp0bW13
    have Aa0W14 := sl.hid (Aa0W13.out.chg (sl.Chg.ofBelow (lo := 0) b14) (.inr (Nat.zero_le _)))
    have OrW14 := sl.hid (OrW13.out.chg (sl.Chg.ofBelow (lo := 0) b14) (.inr (.inr (Nat.zero_le _))))
    have OgW14 := sl.hid (OgW13.out.chg (sl.Chg.ofBelow (lo := 0) b14) (.inr (.inr (Nat.zero_le _))))
    have Oz0W14 := sl.hid (On13.out.chg (sl.Chg.ofBelow (lo := 0) b14) (.inr (.inr (Nat.zero_le _))))
    have CW14 := sl.hid (CW13.out.trans (b14.mono (by omega)))
    clear b14 kp0aW13 kp0bW13 Aa0W13 OrW13 OgW13 On13 CW13
    go_wp2_with fail
    refine (sl.eqS zr _ _ _ _ W14 On14.out.ints OrW14.out.ints hr).mono ?_
    rintro e W15 ⟨rfl, b15⟩
    have hzW15 : W14.heap.size ≤ W15.heap.size := b15.size
    have kp0aW15 := (b15.cell (p := ⟨w.heap.size, 0, none⟩) (by show w.heap.size < W14.heap.size; omega)).trans kp0aW14
    have kp0bW15 := (b15.cell (p := ⟨w.heap.size, 1, none⟩) (by show w.heap.size < W14.heap.size; omega)).trans kp0bW14
    have Aa0W15 := sl.hid (Aa0W14.out.chg (sl.Chg.ofBelow (lo := 0) b15) (.inr (Nat.zero_le _)))
    have OrW15 := sl.hid (OrW14.out.chg (sl.Chg.ofBelow (lo := 0) b15) (.inr (.inr (Nat.zero_le _))))
    have OgW15 := sl.hid (OgW14.out.chg (sl.Chg.ofBelow (lo := 0) b15) (.inr (.inr (Nat.zero_le _))))
    have OhW15 := sl.hid (On14.out.chg (sl.Chg.ofBelow (lo := 0) b15) (.inr (.inr (Nat.zero_le _))))
    have CW15 := sl.hid (CW14.out.trans (b15.mono (by omega)))
    clear b15 kp0aW14 kp0bW14 Aa0W14 OrW14 OgW14 On14 CW14
    go_wp2_with fail
    refine (sl.heldI zr.length _ _ 1 W15 OgW15.out.ints hr (by omega) (by omega)).mono ?_
    rintro e W16 ⟨rfl, rfl⟩
    go_wp2
    go_ret
    exact ⟨rfl, CW15.out⟩
  · have hq : br.szL 1048576 xs0.length = -1 := by unfold br.szL; rw [if_pos (by omega)]
    rw [hq] at HS
    clear hq
    go_enter Try.func10, Try.ntmps10
    go_wp2_with fail
    refine HS.out.mono ?_
    rintro e W1 ⟨rfl, b1⟩
    have C1 := sl.hid (((Below.refl w.heap.size w).alloc (Nat.le_refl _) (.cells #[.int .i64 a0, .slice b0 xs0.length cap0] 37)).trans (b1.mono (by simp)))
    clear b1
    go_wp2
    go_ret
    exact ⟨rfl, C1.out⟩
end Go.Proofs.Ytedajefapddekaa.whandleForm
