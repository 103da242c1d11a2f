/-
  The walk of the law of PermutationBraid.
-/
import Derived.Test.YtnnbhgiaaelkiaaH7
import Derived.Deep.RegionHeld3
namespace Go.Proofs.Ytnnbhgiaaelkiaa.wpermutationBraid
open Go.RowKit
set_option linter.unusedVariables false

set_option maxHeartbeats 1000000 in
theorem law (b0 : Option Addr) (cap0 : Nat) (xs0 : List Int) (w : World) (ha0 : sl.Ints w w.heap.size (.slice b0 xs0.length cap0) xs0) (hcap0 : xs0.length ≤ 9223372036854775807) :
    Calls Try.prog 11 #[.slice b0 xs0.length cap0] w fun e w' => e = .returned (.bool true) ∧ Below w.heap.size w w' := by
  by_cases hbig0 : xs0.length ≤ 1048576
  · have hl0 : decide ((1048576 : Int) < (xs0.length : Int)) = false := by simp; omega
    have hn0 : xs0.length ≤ 1099511627776 := by omega
    have HA0 := sl.hid ha0
    have HC0 := sl.hid (Below.refl w.heap.size w)
    have SP : Hid (∀ (v0 : Value) (W : World) (B0 : Nat), sl.Ints W B0 v0 xs0 → B0 ≤ W.heap.size → fn.Fit v0 → Calls Try.prog 35 #[v0] W fun e w' => ∃ ao cap, e = .returned (.tuple #[.agg #[.int .i64 (br.pbS xs0), .slice ao (br.pbW xs0).length cap], .int .i64 (br.pbC xs0)]) ∧ sl.Own w' W.heap.size w'.heap.size (.slice ao (br.pbW xs0).length cap) (br.pbW xs0) ∧ Below W.heap.size W w') := sl.hid (fun v0 W B0 i0 l0 n0 => br.specPB xs0 v0 B0 W i0 l0 hn0 n0)
    have IP : Hid (∀ (v0 : Value) (W : World) (B0 : Nat), sl.Ints W B0 v0 xs0 → B0 ≤ W.heap.size → fn.Fit v0 → Calls Try.prog 36 #[v0] W fun e w' => ∃ ao cap, e = .returned (.tuple #[.agg #[.int .i64 (br.pbS xs0), .slice ao (br.pbW xs0).length cap], .int .i64 (br.pbC xs0)]) ∧ sl.Own w' W.heap.size w'.heap.size (.slice ao (br.pbW xs0).length cap) (br.pbW xs0) ∧ Below W.heap.size W w') := sl.hid (fun v0 W B0 i0 l0 n0 => br.implPB xs0 v0 B0 W i0 l0 hn0 n0)
    have hr : (br.pbW xs0).length ≤ 1099511627776 := Nat.le_trans (br.pbW_len xs0) (by omega)
    generalize br.pbW xs0 = zr at *
    generalize br.pbS xs0 = sr at *
    generalize br.pbC xs0 = qi at *
    clear ha0 hcap0 
    go_enter Try.func11, Try.ntmps11
    go_wp2_with fail
    refine (sl.toI xs0 _ _ w HA0.out (by omega) hn0).mono ?_
    rintro e W1 ⟨v1, rfl, o1, b1⟩
    obtain ⟨ao1, cap1, rfl⟩ := br.own_val o1
    have On1 := sl.hid o1
    clear o1
    have hzW1 : w.heap.size ≤ W1.heap.size := b1.size
    have Aa0W1 := sl.hid (HA0.out.chg (sl.Chg.ofBelow (lo := 0) b1) (.inr (Nat.zero_le _)))
    have CW1 := sl.hid (HC0.out.trans (b1.mono (by omega)))
    clear b1 HA0 HC0
    go_wp2_with fail
    refine (SP.out _ W1 _ On1.out.ints (by omega) (fn.fit_own On1.out)).mono ?_
    rintro e W2 ⟨ao2, cap2, rfl, o2, b2⟩
    have On2 := sl.hid o2
    clear o2
    have hzW2 : W1.heap.size ≤ W2.heap.size := b2.size
    have Aa0W2 := sl.hid (Aa0W1.out.chg (sl.Chg.ofBelow (lo := 0) b2) (.inr (Nat.zero_le _)))
    have Oc0W2 := sl.hid (On1.out.chg (sl.Chg.ofBelow (lo := 0) b2) (.inr (.inr (Nat.zero_le _))))
    have CW2 := sl.hid (CW1.out.trans (b2.mono (by omega)))
    clear b2 Aa0W1 On1 CW1
    have bE : Below W2.heap.size W2 (W2.alloc (.cells #[.int .i64 sr, .slice ao2 zr.length cap2] 32)) := (Below.refl _ _).alloc (Nat.le_refl _) _
    go_wp2_with fail
    refine (sl.toI xs0 _ _ (W2.alloc (.cells #[.int .i64 sr, .slice ao2 zr.length cap2] 32)) (br.ints_al Aa0W2.out _) (by first | omega | (simp; done) | (simp; omega)) hn0).mono ?_
    rintro e W3 ⟨v3, rfl, o3, b3⟩
    obtain ⟨ao3, cap3, rfl⟩ := br.own_val o3
    have On3 := sl.hid (o3.lo (lo' := W2.heap.size + 1) (by simp))
    clear o3
    have bb3 : Below W2.heap.size W2 W3 := ((Below.refl W2.heap.size W2).alloc (by simp) _).trans (b3.mono (by simp))
    have hzW3 : W2.heap.size + 1 ≤ W3.heap.size := by have h := b3.size; simp at h; omega
    have kraW3 : W3.cell? ⟨W2.heap.size, 0, none⟩ = some (.int .i64 sr) := (b3.cell (p := ⟨W2.heap.size, 0, none⟩) (by simp)).trans (World.cell?_alloc_at _ _ _ _ rfl)
    have krbW3 : W3.cell? ⟨W2.heap.size, 1, none⟩ = some (.slice ao2 zr.length cap2) := (b3.cell (p := ⟨W2.heap.size, 1, none⟩) (by simp)).trans (World.cell?_alloc_at _ _ _ _ rfl)
    have Aa0W3 := sl.hid (Aa0W2.out.chg (sl.Chg.ofBelow (lo := 0) bb3) (.inr (Nat.zero_le _)))
    have OrW3 := sl.hid (On2.out.chg (sl.Chg.ofBelow (lo := 0) bb3) (.inr (.inr (Nat.zero_le _))))
    have CW3 := sl.hid (CW2.out.trans (bb3.mono (by omega)))
    clear b3 bE bb3 Aa0W2 On2 CW2
    go_wp2_with fail
    refine (IP.out _ W3 _ On3.out.ints (by omega) (fn.fit_own On3.out)).mono ?_
    rintro e W4 ⟨ao4, cap4, rfl, o4, b4⟩
    have On4 := sl.hid o4
    clear o4
    have hzW4 : W3.heap.size ≤ W4.heap.size := b4.size
    have kraW4 := (b4.cell (p := ⟨W2.heap.size, 0, none⟩) (by show W2.heap.size < W3.heap.size; omega)).trans kraW3
    have krbW4 := (b4.cell (p := ⟨W2.heap.size, 1, none⟩) (by show W2.heap.size < W3.heap.size; omega)).trans krbW3
    have Aa0W4 := sl.hid (Aa0W3.out.chg (sl.Chg.ofBelow (lo := 0) b4) (.inr (Nat.zero_le _)))
    have OrW4 := sl.hid (OrW3.out.chg (sl.Chg.ofBelow (lo := 0) b4) (.inr (.inr (Nat.zero_le _))))
    have Ox0W4 := sl.hid (On3.out.chg (sl.Chg.ofBelow (lo := 0) b4) (.inr (.inr (Nat.zero_le _))))
    have CW4 := sl.hid (CW3.out.trans (b4.mono (by omega)))
    clear b4 kraW3 krbW3 Aa0W3 OrW3 On3 CW3
    have bE : Below W4.heap.size W4 (W4.alloc (.cells #[.int .i64 sr, .slice ao4 zr.length cap4] 32)) := (Below.refl _ _).alloc (Nat.le_refl _) _
    have eraW4 := (bE.cell (p := ⟨W2.heap.size, 0, none⟩) (by show W2.heap.size < W4.heap.size; omega)).trans kraW4
    have erbW4 := (bE.cell (p := ⟨W2.heap.size, 1, none⟩) (by show W2.heap.size < W4.heap.size; omega)).trans krbW4
    go_wp2_with fail
    refine (br.eqBS sr zr _ _ _ _ (W4.alloc (.cells #[.int .i64 sr, .slice ao4 zr.length cap4] 32)) (br.ints_al On4.out.ints _) (br.ints_al OrW4.out.ints _) hr).mono ?_
    rintro e W5 ⟨rfl, b5⟩
    have bb5 : Below W4.heap.size W4 W5 := ((Below.refl W4.heap.size W4).alloc (by simp) _).trans (b5.mono (by simp))
    have hzW5 : W4.heap.size + 1 ≤ W5.heap.size := by have h := b5.size; simp at h; omega
    have kgaW5 : W5.cell? ⟨W4.heap.size, 0, none⟩ = some (.int .i64 sr) := (b5.cell (p := ⟨W4.heap.size, 0, none⟩) (by simp)).trans (World.cell?_alloc_at _ _ _ _ rfl)
    have kgbW5 : W5.cell? ⟨W4.heap.size, 1, none⟩ = some (.slice ao4 zr.length cap4) := (b5.cell (p := ⟨W4.heap.size, 1, none⟩) (by simp)).trans (World.cell?_alloc_at _ _ _ _ rfl)
    have kraW5 := (bb5.cell (p := ⟨W2.heap.size, 0, none⟩) (by show W2.heap.size < W4.heap.size; omega)).trans kraW4
    have krbW5 := (bb5.cell (p := ⟨W2.heap.size, 1, none⟩) (by show W2.heap.size < W4.heap.size; omega)).trans krbW4
    have Aa0W5 := sl.hid (Aa0W4.out.chg (sl.Chg.ofBelow (lo := 0) bb5) (.inr (Nat.zero_le _)))
    have OrW5 := sl.hid (OrW4.out.chg (sl.Chg.ofBelow (lo := 0) bb5) (.inr (.inr (Nat.zero_le _))))
    have Ox0W5 := sl.hid (Ox0W4.out.chg (sl.Chg.ofBelow (lo := 0) bb5) (.inr (.inr (Nat.zero_le _))))
    have OgW5 := sl.hid (On4.out.chg (sl.Chg.ofBelow (lo := 0) bb5) (.inr (.inr (Nat.zero_le _))))
    have CW5 := sl.hid (CW4.out.trans (bb5.mono (by omega)))
    clear b5 bE eraW4 erbW4 bb5 kraW4 krbW4 Aa0W4 OrW4 Ox0W4 On4 CW4
    go_wp2_with fail
    refine (sl.toI xs0 _ _ W5 Aa0W5.out (by omega) hn0).mono ?_
    rintro e W6 ⟨v6, rfl, o6, b6⟩
    obtain ⟨ao6, cap6, rfl⟩ := br.own_val o6
    have On6 := sl.hid o6
    clear o6
    have hzW6 : W5.heap.size ≤ W6.heap.size := b6.size
    have kraW6 := (b6.cell (p := ⟨W2.heap.size, 0, none⟩) (by show W2.heap.size < W5.heap.size; omega)).trans kraW5
    have krbW6 := (b6.cell (p := ⟨W2.heap.size, 1, none⟩) (by show W2.heap.size < W5.heap.size; omega)).trans krbW5
    have kgaW6 := (b6.cell (p := ⟨W4.heap.size, 0, none⟩) (by show W4.heap.size < W5.heap.size; omega)).trans kgaW5
    have kgbW6 := (b6.cell (p := ⟨W4.heap.size, 1, none⟩) (by show W4.heap.size < W5.heap.size; omega)).trans kgbW5
    have Aa0W6 := sl.hid (Aa0W5.out.chg (sl.Chg.ofBelow (lo := 0) b6) (.inr (Nat.zero_le _)))
    have OrW6 := sl.hid (OrW5.out.chg (sl.Chg.ofBelow (lo := 0) b6) (.inr (.inr (Nat.zero_le _))))
    have Ox0W6 := sl.hid (Ox0W5.out.chg (sl.Chg.ofBelow (lo := 0) b6) (.inr (.inr (Nat.zero_le _))))
    have OgW6 := sl.hid (OgW5.out.chg (sl.Chg.ofBelow (lo := 0) b6) (.inr (.inr (Nat.zero_le _))))
    have CW6 := sl.hid (CW5.out.trans (b6.mono (by omega)))
    clear b6 kraW5 krbW5 kgaW5 kgbW5 Aa0W5 OrW5 Ox0W5 OgW5 CW5
    go_wp2_with fail
    refine (sl.eqS xs0 _ _ _ _ W6 Ox0W6.out.ints On6.out.ints hn0).mono ?_
    rintro e W7 ⟨rfl, b7⟩
    have hzW7 : W6.heap.size ≤ W7.heap.size := b7.size
    have kraW7 := (b7.cell (p := ⟨W2.heap.size, 0, none⟩) (by show W2.heap.size < W6.heap.size; omega)).trans kraW6
    have krbW7 := (b7.cell (p := ⟨W2.heap.size, 1, none⟩) (by show W2.heap.size < W6.heap.size; omega)).trans krbW6
    have kgaW7 := (b7.cell (p := ⟨W4.heap.size, 0, none⟩) (by show W4.heap.size < W6.heap.size; omega)).trans kgaW6
    have kgbW7 := (b7.cell (p := ⟨W4.heap.size, 1, none⟩) (by show W4.heap.size < W6.heap.size; omega)).trans kgbW6
    have Aa0W7 := sl.hid (Aa0W6.out.chg (sl.Chg.ofBelow (lo := 0) b7) (.inr (Nat.zero_le _)))
    have OrW7 := sl.hid (OrW6.out.chg (sl.Chg.ofBelow (lo := 0) b7) (.inr (.inr (Nat.zero_le _))))
    have Ox0W7 := sl.hid (Ox0W6.out.chg (sl.Chg.ofBelow (lo := 0) b7) (.inr (.inr (Nat.zero_le _))))
    have OgW7 := sl.hid (OgW6.out.chg (sl.Chg.ofBelow (lo := 0) b7) (.inr (.inr (Nat.zero_le _))))
    have Oy0W7 := sl.hid (On6.out.chg (sl.Chg.ofBelow (lo := 0) b7) (.inr (.inr (Nat.zero_le _))))
    have CW7 := sl.hid (CW6.out.trans (b7.mono (by omega)))
    clear b7 kraW6 krbW6 kgaW6 kgbW6 Aa0W6 OrW6 Ox0W6 OgW6 On6 CW6
    go_wp2_with fail
    refine (sl.markI xs0 _ _ _ (1) W7 Ox0W7.out hn0 (by omega) (by omega)).mono ?_
    rintro e W8 ⟨rfl, o8, c8⟩
    have hzW8 : W7.heap.size ≤ W8.heap.size := c8.size
    have On8 := sl.hid o8
    clear o8
    have kraW8 := (World.cell?_of_block (w := W7) (w' := W8) (a := ⟨W2.heap.size, 0, none⟩) (c8.block (W2.heap.size) (by omega) (by omega))).trans kraW7
    have krbW8 := (World.cell?_of_block (w := W7) (w' := W8) (a := ⟨W2.heap.size, 1, none⟩) (c8.block (W2.heap.size) (by omega) (by omega))).trans krbW7
    have kgaW8 := (World.cell?_of_block (w := W7) (w' := W8) (a := ⟨W4.heap.size, 0, none⟩) (c8.block (W4.heap.size) (by omega) (by omega))).trans kgaW7
    have kgbW8 := (World.cell?_of_block (w := W7) (w' := W8) (a := ⟨W4.heap.size, 1, none⟩) (c8.block (W4.heap.size) (by omega) (by omega))).trans kgbW7
    have Aa0W8 := sl.hid (Aa0W7.out.chg c8 (.inl (by omega)))
    have OrW8 := sl.hid (OrW7.out.chg c8 (by omega))
    have OgW8 := sl.hid (OgW7.out.chg c8 (by omega))
    have CW8 := sl.hid (CW7.out.trans (c8.below (by omega) (by omega)))
    clear c8 Ox0W7 kraW7 krbW7 kgaW7 kgbW7 Aa0W7 OrW7 OgW7 CW7
    go_wp2_with fail
    refine (br.eqBS sr zr _ _ _ _ W8 OgW8.out.ints OrW8.out.ints hr).mono ?_
    rintro e W9 ⟨rfl, b9⟩
    have hzW9 : W8.heap.size ≤ W9.heap.size := b9.size
    have kraW9 := (b9.cell (p := ⟨W2.heap.size, 0, none⟩) (by show W2.heap.size < W8.heap.size; omega)).trans kraW8
    have krbW9 := (b9.cell (p := ⟨W2.heap.size, 1, none⟩) (by show W2.heap.size < W8.heap.size; omega)).trans krbW8
    have kgaW9 := (b9.cell (p := ⟨W4.heap.size, 0, none⟩) (by show W4.heap.size < W8.heap.size; omega)).trans kgaW8
    have kgbW9 := (b9.cell (p := ⟨W4.heap.size, 1, none⟩) (by show W4.heap.size < W8.heap.size; omega)).trans kgbW8
    have Aa0W9 := sl.hid (Aa0W8.out.chg (sl.Chg.ofBelow (lo := 0) b9) (.inr (Nat.zero_le _)))
    have OrW9 := sl.hid (OrW8.out.chg (sl.Chg.ofBelow (lo := 0) b9) (.inr (.inr (Nat.zero_le _))))
    have OgW9 := sl.hid (OgW8.out.chg (sl.Chg.ofBelow (lo := 0) b9) (.inr (.inr (Nat.zero_le _))))
    have CW9 := sl.hid (CW8.out.trans (b9.mono (by omega)))
    clear b9 kraW8 krbW8 kgaW8 kgbW8 Aa0W8 OrW8 OgW8 CW8
    go_wp2_with fail
    refine (br.markB _ zr _ _ _ (1) W9 OgW9.out hr (by omega) (by omega)).mono ?_
    rintro e W10 ⟨rfl, o10, c10⟩
    have hzW10 : W9.heap.size ≤ W10.heap.size := c10.size
    have On10 := sl.hid o10
    clear o10
    have kraW10 := (World.cell?_of_block (w := W9) (w' := W10) (a := ⟨W2.heap.size, 0, none⟩) (c10.block (W2.heap.size) (by omega) (by omega))).trans kraW9
    have krbW10 := (World.cell?_of_block (w := W9) (w' := W10) (a := ⟨W2.heap.size, 1, none⟩) (c10.block (W2.heap.size) (by omega) (by omega))).trans krbW9
    have kgaW10 := (World.cell?_of_block (w := W9) (w' := W10) (a := ⟨W4.heap.size, 0, none⟩) (c10.block (W4.heap.size) (by omega) (by omega))).trans kgaW9
    have kgbW10 := (World.cell?_of_block (w := W9) (w' := W10) (a := ⟨W4.heap.size, 1, none⟩) (c10.block (W4.heap.size) (by omega) (by omega))).trans kgbW9
    have Aa0W10 := sl.hid (Aa0W9.out.chg c10 (.inl (by omega)))
    have OrW10 := sl.hid (OrW9.out.chg c10 (by omega))
    have CW10 := sl.hid (CW9.out.trans (c10.below (by omega) (by omega)))
    clear c10 OgW9 kraW9 krbW9 kgaW9 kgbW9 Aa0W9 OrW9 CW9
    go_wp2_with fail
    refine (br.heldB _ zr.length _ _ 1 W10 On10.out.ints hr (by omega) (by omega)).mono ?_
    rintro e W11 ⟨rfl, b11⟩
    have hzW11 : W10.heap.size ≤ W11.heap.size := b11.size
    have kraW11 := (b11.cell (p := ⟨W2.heap.size, 0, none⟩) (by show W2.heap.size < W10.heap.size; omega)).trans kraW10
    have krbW11 := (b11.cell (p := ⟨W2.heap.size, 1, none⟩) (by show W2.heap.size < W10.heap.size; omega)).trans krbW10
    have kgaW11 := (b11.cell (p := ⟨W4.heap.size, 0, none⟩) (by show W4.heap.size < W10.heap.size; omega)).trans kgaW10
    have kgbW11 := (b11.cell (p := ⟨W4.heap.size, 1, none⟩) (by show W4.heap.size < W10.heap.size; omega)).trans kgbW10
    have Aa0W11 := sl.hid (Aa0W10.out.chg (sl.Chg.ofBelow (lo := 0) b11) (.inr (Nat.zero_le _)))
    have OrW11 := sl.hid (OrW10.out.chg (sl.Chg.ofBelow (lo := 0) b11) (.inr (.inr (Nat.zero_le _))))
    have OgW11 := sl.hid (On10.out.chg (sl.Chg.ofBelow (lo := 0) b11) (.inr (.inr (Nat.zero_le _))))
    have CW11 := sl.hid (CW10.out.trans (b11.mono (by omega)))
    clear b11 kraW10 krbW10 kgaW10 kgbW10 Aa0W10 OrW10 On10 CW10
    go_wp2_with fail
    refine (sl.toI xs0 _ _ W11 Aa0W11.out (by omega) hn0).mono ?_
    rintro e W12 ⟨v12, rfl, o12, b12⟩
    obtain ⟨ao12, cap12, rfl⟩ := br.own_val o12
    have On12 := sl.hid o12
    clear o12
    have hzW12 : W11.heap.size ≤ W12.heap.size := b12.size
    have kraW12 := (b12.cell (p := ⟨W2.heap.size, 0, none⟩) (by show W2.heap.size < W11.heap.size; omega)).trans kraW11
    have krbW12 := (b12.cell (p := ⟨W2.heap.size, 1, none⟩) (by show W2.heap.size < W11.heap.size; omega)).trans krbW11
    have kgaW12 := (b12.cell (p := ⟨W4.heap.size, 0, none⟩) (by show W4.heap.size < W11.heap.size; omega)).trans kgaW11
    have kgbW12 := (b12.cell (p := ⟨W4.heap.size, 1, none⟩) (by show W4.heap.size < W11.heap.size; omega)).trans kgbW11
    have Aa0W12 := sl.hid (Aa0W11.out.chg (sl.Chg.ofBelow (lo := 0) b12) (.inr (Nat.zero_le _)))
    have OrW12 := sl.hid (OrW11.out.chg (sl.Chg.ofBelow (lo := 0) b12) (.inr (.inr (Nat.zero_le _))))
    have OgW12 := sl.hid (OgW11.out.chg (sl.Chg.ofBelow (lo := 0) b12) (.inr (.inr (Nat.zero_le _))))
    have CW12 := sl.hid (CW11.out.trans (b12.mono (by omega)))
    clear b12 kraW11 krbW11 kgaW11 kgbW11 Aa0W11 OrW11 OgW11 CW11
    go_wp2_with fail
    refine (IP.out _ W12 _ On12.out.ints (by omega) (fn.fit_own On12.out)).mono ?_
    rintro e W13 ⟨ao13, cap13, rfl, o13, b13⟩
    have On13 := sl.hid o13
    clear o13
    have hzW13 : W12.heap.size ≤ W13.heap.size := b13.size
    have kraW13 := (b13.cell (p := ⟨W2.heap.size, 0, none⟩) (by show W2.heap.size < W12.heap.size; omega)).trans kraW12
    have krbW13 := (b13.cell (p := ⟨W2.heap.size, 1, none⟩) (by show W2.heap.size < W12.heap.size; omega)).trans krbW12
    have kgaW13 := (b13.cell (p := ⟨W4.heap.size, 0, none⟩) (by show W4.heap.size < W12.heap.size; omega)).trans kgaW12
    have kgbW13 := (b13.cell (p := ⟨W4.heap.size, 1, none⟩) (by show W4.heap.size < W12.heap.size; omega)).trans kgbW12
    have Aa0W13 := sl.hid (Aa0W12.out.chg (sl.Chg.ofBelow (lo := 0) b13) (.inr (Nat.zero_le _)))
    have OrW13 := sl.hid (OrW12.out.chg (sl.Chg.ofBelow (lo := 0) b13) (.inr (.inr (Nat.zero_le _))))
    have OgW13 := sl.hid (OgW12.out.chg (sl.Chg.ofBelow (lo := 0) b13) (.inr (.inr (Nat.zero_le _))))
    have Oz0W13 := sl.hid (On12.out.chg (sl.Chg.ofBelow (lo := 0) b13) (.inr (.inr (Nat.zero_le _))))
    have CW13 := sl.hid (CW12.out.trans (b13.mono (by omega)))
    clear b13 kraW12 krbW12 kgaW12 kgbW12 Aa0W12 OrW12 OgW12 On12 CW12
    have bE : Below W13.heap.size W13 (W13.alloc (.cells #[.int .i64 sr, .slice ao13 zr.length cap13] 32)) := (Below.refl _ _).alloc (Nat.le_refl _) _
    have eraW13 := (bE.cell (p := ⟨W2.heap.size, 0, none⟩) (by show W2.heap.size < W13.heap.size; omega)).trans kraW13
    have erbW13 := (bE.cell (p := ⟨W2.heap.size, 1, none⟩) (by show W2.heap.size < W13.heap.size; omega)).trans krbW13
    have egaW13 := (bE.cell (p := ⟨W4.heap.size, 0, none⟩) (by show W4.heap.size < W13.heap.size; omega)).trans kgaW13
    have egbW13 := (bE.cell (p := ⟨W4.heap.size, 1, none⟩) (by show W4.heap.size < W13.heap.size; omega)).trans kgbW13
    go_wp2_with fail
    refine (br.eqBS sr zr _ _ _ _ (W13.alloc (.cells #[.int .i64 sr, .slice ao13 zr.length cap13] 32)) (br.ints_al On13.out.ints _) (br.ints_al OrW13.out.ints _) hr).mono ?_
    rintro e W14 ⟨rfl, b14⟩
    have bb14 : Below W13.heap.size W13 W14 := ((Below.refl W13.heap.size W13).alloc (by simp) _).trans (b14.mono (by simp))
    have hzW14 : W13.heap.size + 1 ≤ W14.heap.size := by have h := b14.size; simp at h; omega
    have khaW14 : W14.cell? ⟨W13.heap.size, 0, none⟩ = some (.int .i64 sr) := (b14.cell (p := ⟨W13.heap.size, 0, none⟩) (by simp)).trans (World.cell?_alloc_at _ _ _ _ rfl)
    have khbW14 : W14.cell? ⟨W13.heap.size, 1, none⟩ = some (.slice ao13 zr.length cap13) := (b14.cell (p := ⟨W13.heap.size, 1, none⟩) (by simp)).trans (World.cell?_alloc_at _ _ _ _ rfl)
    have kraW14 := (bb14.cell (p := ⟨W2.heap.size, 0, none⟩) (by show W2.heap.size < W13.heap.size; omega)).trans kraW13
    have krbW14 := (bb14.cell (p := ⟨W2.heap.size, 1, none⟩) (by show W2.heap.size < W13.heap.size; omega)).trans krbW13
    have kgaW14 := (bb14.cell (p := ⟨W4.heap.size, 0, none⟩) (by show W4.heap.size < W13.heap.size; omega)).trans kgaW13
    have kgbW14 := (bb14.cell (p := ⟨W4.heap.size, 1, none⟩) (by show W4.heap.size < W13.heap.size; omega)).trans kgbW13
    have Aa0W14 := sl.hid (Aa0W13.out.chg (sl.Chg.ofBelow (lo := 0) bb14) (.inr (Nat.zero_le _)))
    have OrW14 := sl.hid (OrW13.out.chg (sl.Chg.ofBelow (lo := 0) bb14) (.inr (.inr (Nat.zero_le _))))
    have OgW14 := sl.hid (OgW13.out.chg (sl.Chg.ofBelow (lo := 0) bb14) (.inr (.inr (Nat.zero_le _))))
    have OhW14 := sl.hid (On13.out.chg (sl.Chg.ofBelow (lo := 0) bb14) (.inr (.inr (Nat.zero_le _))))
    have CW14 := sl.hid (CW13.out.trans (bb14.mono (by omega)))
    clear b14 bE eraW13 erbW13 egaW13 egbW13 bb14 kraW13 krbW13 kgaW13 kgbW13 Aa0W13 OrW13 OgW13 On13 CW13
    go_wp2_with fail
    refine (br.heldB _ zr.length _ _ 1 W14 OgW14.out.ints hr (by omega) (by omega)).mono ?_
    rintro e W15 ⟨rfl, b15⟩
    have hzW15 : W14.heap.size ≤ W15.heap.size := b15.size
    have kraW15 := (b15.cell (p := ⟨W2.heap.size, 0, none⟩) (by show W2.heap.size < W14.heap.size; omega)).trans kraW14
    have krbW15 := (b15.cell (p := ⟨W2.heap.size, 1, none⟩) (by show W2.heap.size < W14.heap.size; omega)).trans krbW14
    have kgaW15 := (b15.cell (p := ⟨W4.heap.size, 0, none⟩) (by show W4.heap.size < W14.heap.size; omega)).trans kgaW14
    have kgbW15 := (b15.cell (p := ⟨W4.heap.size, 1, none⟩) (by show W4.heap.size < W14.heap.size; omega)).trans kgbW14
    have khaW15 := (b15.cell (p := ⟨W13.heap.size, 0, none⟩) (by show W13.heap.size < W14.heap.size; omega)).trans khaW14
    have khbW15 := (b15.cell (p := ⟨W13.heap.size, 1, none⟩) (by show W13.heap.size < W14.heap.size; omega)).trans khbW14
    have Aa0W15 := sl.hid (Aa0W14.out.chg (sl.Chg.ofBelow (lo := 0) b15) (.inr (Nat.zero_le _)))
    have OrW15 := sl.hid (OrW14.out.chg (sl.Chg.ofBelow (lo := 0) b15) (.inr (.inr (Nat.zero_le _))))
    have OgW15 := sl.hid (OgW14.out.chg (sl.Chg.ofBelow (lo := 0) b15) (.inr (.inr (Nat.zero_le _))))
    have OhW15 := sl.hid (OhW14.out.chg (sl.Chg.ofBelow (lo := 0) b15) (.inr (.inr (Nat.zero_le _))))
    have CW15 := sl.hid (CW14.out.trans (b15.mono (by omega)))
    clear b15 kraW14 krbW14 kgaW14 kgbW14 khaW14 khbW14 Aa0W14 OrW14 OgW14 OhW14 CW14
    go_wp2
    go_ret
    exact ⟨rfl, CW15.out⟩
  · have hl0 : decide ((1048576 : Int) < (xs0.length : Int)) = true := by simp; omega
    go_enter Try.func11, Try.ntmps11
    go_wp2
    go_ret
    exact ⟨rfl, Below.refl _ _⟩
end Go.Proofs.Ytnnbhgiaaelkiaa.wpermutationBraid
