/-
  The walk of the law of ColumnBraid.
-/
import Derived.Test.YtedajefapddekaaCb2
import Derived.Deep.RegionHeld3
import Derived.Deep.CutRange
namespace Go.Proofs.Ytedajefapddekaa.wcolumnBraid
open Go.RowKit
set_option linter.unusedVariables false

set_option maxRecDepth 20000 in
set_option maxHeartbeats 20000000 in
theorem law (a0 : Int) (b0 : Option Addr) (cap0 : Nat) (xs0 : List Int) (b1 : Option Addr) (cap1 : Nat) (xs1 : List Int) (w : World) (ha0 : sl.Ints w w.heap.size (.slice b0 xs0.length cap0) xs0) (hcap0 : xs0.length ≤ 9223372036854775807) (h0 : -9223372036854775808 ≤ a0 ∧ a0 ≤ 9223372036854775807) (ha1 : sl.Ints w w.heap.size (.slice b1 xs1.length cap1) xs1) (hcap1 : xs1.length ≤ 9223372036854775807) :
    Calls Try.prog 6 #[.agg #[.int .i64 a0, .slice b0 xs0.length cap0], .slice b1 xs1.length cap1] w fun e w' => e = .returned (.bool true) ∧ Below w.heap.size w w' := by
  by_cases hbig1 : xs1.length ≤ 1048576
  · have hl1 : decide ((1048576 : Int) < (xs1.length : Int)) = false := by simp; omega
    have HS := sl.hid (br.szB a0 b0 xs0.length cap0 1048576 (w.alloc (.cells #[.int .i64 a0, .slice b0 xs0.length cap0] 37)) hcap0 (by omega) (by omega))
    by_cases hbig0 : xs0.length ≤ 1048576
    · have hq : br.szL 1048576 xs0.length = 1048576 - (xs0.length : Int) := by unfold br.szL; rw [if_neg (by omega)]
      have hn0 : xs0.length ≤ 1099511627776 := by omega
      have HA0 := sl.hid ha0
      have hn1 : xs1.length ≤ 1099511627776 := by omega
      have HA1 := sl.hid ha1
      rw [hq] at HS
      have HC0 := sl.hid (Below.refl w.heap.size w)
      have SP : Hid (∀ (v0 : Value) (v1 : Value) (W : World) (B0 : Nat) (B1 : Nat), sl.Ints W B0 v0 xs0 → B0 ≤ W.heap.size → sl.Ints W B1 v1 xs1 → B1 ≤ W.heap.size → fn.NilOk v0 → fn.NilOk v1 → Calls Try.prog 28 #[.agg #[.int .i64 a0, v0], v1] W fun e w' => ∃ ao cap, e = .returned (.tuple #[.agg #[.int .i64 (cb.cbSt a0 xs0 xs1), .slice ao (cb.cbWo a0 xs0 xs1).length cap], .int .i64 (cb.cbCo a0 xs0 xs1)]) ∧ sl.Own w' W.heap.size w'.heap.size (.slice ao (cb.cbWo a0 xs0 xs1).length cap) (cb.cbWo a0 xs0 xs1) ∧ Below W.heap.size W w') := sl.hid (fun v0 v1 W B0 B1 i0 l0 i1 l1 n0 n1 => cb.specCB a0 xs0 xs1 v0 v1 B0 B1 W i0 l0 i1 l1 hn0 hn1 n0 n1)
      have IP : Hid (∀ (v0 : Value) (v1 : Value) (W : World) (B0 : Nat) (B1 : Nat), sl.Ints W B0 v0 xs0 → B0 ≤ W.heap.size → sl.Ints W B1 v1 xs1 → B1 ≤ W.heap.size → fn.NilOk v0 → fn.NilOk v1 → Calls Try.prog 31 #[.agg #[.int .i64 a0, v0], v1] W fun e w' => ∃ ao cap, e = .returned (.tuple #[.agg #[.int .i64 (cb.cbSt a0 xs0 xs1), .slice ao (cb.cbWo a0 xs0 xs1).length cap], .int .i64 (cb.cbCo a0 xs0 xs1)]) ∧ sl.Own w' W.heap.size w'.heap.size (.slice ao (cb.cbWo a0 xs0 xs1).length cap) (cb.cbWo a0 xs0 xs1) ∧ Below W.heap.size W w') := sl.hid (fun v0 v1 W B0 B1 i0 l0 i1 l1 n0 n1 => cb.implCB a0 xs0 xs1 v0 v1 B0 B1 W i0 l0 i1 l1 hn0 hn1 n0 n1)
      have hr : (cb.cbWo a0 xs0 xs1).length ≤ 1099511627776 := Nat.le_trans (cb.cbWo_len a0 xs0 xs1) (by omega)
      generalize cb.cbWo a0 xs0 xs1 = zr at *
      generalize cb.cbSt a0 xs0 xs1 = sr at *
      generalize cb.cbCo a0 xs0 xs1 = qi at *
      clear hq ha0 hcap0 ha1 hcap1 h0
      go_enter Try.func6, Try.ntmps6
      go_wp2_with fail
      refine HS.out.mono ?_
      rintro e W1 ⟨rfl, b1⟩
      clear HS
      have bb1 : Below w.heap.size w W1 := ((Below.refl w.heap.size w).alloc (by simp) _).trans (b1.mono (by simp))
      have hzW1 : w.heap.size + 1 ≤ W1.heap.size := by have h := b1.size; simp at h; omega
      have kp0aW1 : W1.cell? ⟨w.heap.size, 0, none⟩ = some (.int .i64 a0) := (b1.cell (p := ⟨w.heap.size, 0, none⟩) (by simp)).trans (World.cell?_alloc_at _ _ _ _ rfl)
      have kp0bW1 : W1.cell? ⟨w.heap.size, 1, none⟩ = some (.slice b0 xs0.length cap0) := (b1.cell (p := ⟨w.heap.size, 1, none⟩) (by simp)).trans (World.cell?_alloc_at _ _ _ _ rfl)
      have Aa0W1 := sl.hid (HA0.out.chg (sl.Chg.ofBelow (lo := 0) bb1) (.inr (Nat.zero_le _)))
      have Aa1W1 := sl.hid (HA1.out.chg (sl.Chg.ofBelow (lo := 0) bb1) (.inr (Nat.zero_le _)))
      have CW1 := sl.hid (HC0.out.trans (bb1.mono (by omega)))
      clear b1 bb1 HA0 HA1 HC0
      go_wp2_with fail
      refine (br.toB a0 xs0 _ _ W1 Aa0W1.out (by omega) hn0).mono ?_
      rintro e W2 ⟨ao2, cap2, rfl, o2, b2⟩
      have On2 := sl.hid o2
      clear o2
      have hzW2 : W1.heap.size ≤ W2.heap.size := b2.size
      have kp0aW2 := (b2.cell (p := ⟨w.heap.size, 0, none⟩) (by show w.heap.size < W1.heap.size; omega)).trans kp0aW1
      have kp0bW2 := (b2.cell (p := ⟨w.heap.size, 1, none⟩) (by show w.heap.size < W1.heap.size; omega)).trans kp0bW1
      have Aa0W2 := sl.hid (Aa0W1.out.chg (sl.Chg.ofBelow (lo := 0) b2) (.inr (Nat.zero_le _)))
      have Aa1W2 := sl.hid (Aa1W1.out.chg (sl.Chg.ofBelow (lo := 0) b2) (.inr (Nat.zero_le _)))
      have CW2 := sl.hid (CW1.out.trans (b2.mono (by omega)))
      clear b2 kp0aW1 kp0bW1 Aa0W1 Aa1W1 CW1
      go_wp2_with fail
      refine (sl.toI xs1 _ _ W2 Aa1W2.out (by omega) hn1).mono ?_
      rintro e W3 ⟨v3, rfl, o3, b3⟩
      obtain ⟨ao3, cap3, rfl⟩ := br.own_val o3
      have On3 := sl.hid o3
      clear o3
      have hzW3 : W2.heap.size ≤ W3.heap.size := b3.size
      have kp0aW3 := (b3.cell (p := ⟨w.heap.size, 0, none⟩) (by show w.heap.size < W2.heap.size; omega)).trans kp0aW2
      have kp0bW3 := (b3.cell (p := ⟨w.heap.size, 1, none⟩) (by show w.heap.size < W2.heap.size; omega)).trans kp0bW2
      have Aa0W3 := sl.hid (Aa0W2.out.chg (sl.Chg.ofBelow (lo := 0) b3) (.inr (Nat.zero_le _)))
      have Aa1W3 := sl.hid (Aa1W2.out.chg (sl.Chg.ofBelow (lo := 0) b3) (.inr (Nat.zero_le _)))
      have Oc0W3 := sl.hid (On2.out.chg (sl.Chg.ofBelow (lo := 0) b3) (.inr (.inr (Nat.zero_le _))))
      have CW3 := sl.hid (CW2.out.trans (b3.mono (by omega)))
      clear b3 kp0aW2 kp0bW2 Aa0W2 Aa1W2 On2 CW2
      go_wp2_with fail
      refine (SP.out _ _ W3 _ _ Oc0W3.out.ints (by omega) On3.out.ints (by omega) (fn.nilok_own Oc0W3.out) (fn.nilok_own On3.out)).mono ?_
      rintro e W4 ⟨ao4, cap4, rfl, o4, b4⟩
      have On4 := sl.hid o4
      clear o4
      have hzW4 : W3.heap.size ≤ W4.heap.size := b4.size
      have kp0aW4 := (b4.cell (p := ⟨w.heap.size, 0, none⟩) (by show w.heap.size < W3.heap.size; omega)).trans kp0aW3
      have kp0bW4 := (b4.cell (p := ⟨w.heap.size, 1, none⟩) (by show w.heap.size < W3.heap.size; omega)).trans kp0bW3
      have Aa0W4 := sl.hid (Aa0W3.out.chg (sl.Chg.ofBelow (lo := 0) b4) (.inr (Nat.zero_le _)))
      have Aa1W4 := sl.hid (Aa1W3.out.chg (sl.Chg.ofBelow (lo := 0) b4) (.inr (Nat.zero_le _)))
      have Oc0W4 := sl.hid (Oc0W3.out.chg (sl.Chg.ofBelow (lo := 0) b4) (.inr (.inr (Nat.zero_le _))))
      have Oc1W4 := sl.hid (On3.out.chg (sl.Chg.ofBelow (lo := 0) b4) (.inr (.inr (Nat.zero_le _))))
      have CW4 := sl.hid (CW3.out.trans (b4.mono (by omega)))
      clear b4 kp0aW3 kp0bW3 Aa0W3 Aa1W3 Oc0W3 On3 CW3
      have bE : Below W4.heap.size W4 (W4.alloc (.cells #[.int .i64 sr, .slice ao4 zr.length cap4] 39)) := (Below.refl _ _).alloc (Nat.le_refl _) _
      have ep0aW4 := (bE.cell (p := ⟨w.heap.size, 0, none⟩) (by show w.heap.size < W4.heap.size; omega)).trans kp0aW4
      have ep0bW4 := (bE.cell (p := ⟨w.heap.size, 1, none⟩) (by show w.heap.size < W4.heap.size; omega)).trans kp0bW4
      go_wp2_with fail
      refine (br.toB a0 xs0 _ _ (W4.alloc (.cells #[.int .i64 sr, .slice ao4 zr.length cap4] 39)) (br.ints_al Aa0W4.out _) (by first | omega | (simp; done) | (simp; omega)) hn0).mono ?_
      rintro e W5 ⟨ao5, cap5, rfl, o5, b5⟩
      have On5 := sl.hid (o5.lo (lo' := W4.heap.size + 1) (by simp))
      clear o5
      have bb5 : Below W4.heap.size W4 W5 := ((Below.refl W4.heap.size W4).alloc (by simp) _).trans (b5.mono (by simp))
      have hzW5 : W4.heap.size + 1 ≤ W5.heap.size := by have h := b5.size; simp at h; omega
      have kraW5 : W5.cell? ⟨W4.heap.size, 0, none⟩ = some (.int .i64 sr) := (b5.cell (p := ⟨W4.heap.size, 0, none⟩) (by simp)).trans (World.cell?_alloc_at _ _ _ _ rfl)
      have krbW5 : W5.cell? ⟨W4.heap.size, 1, none⟩ = some (.slice ao4 zr.length cap4) := (b5.cell (p := ⟨W4.heap.size, 1, none⟩) (by simp)).trans (World.cell?_alloc_at _ _ _ _ rfl)
      have kp0aW5 := (bb5.cell (p := ⟨w.heap.size, 0, none⟩) (by show w.heap.size < W4.heap.size; omega)).trans kp0aW4
      have kp0bW5 := (bb5.cell (p := ⟨w.heap.size, 1, none⟩) (by show w.heap.size < W4.heap.size; omega)).trans kp0bW4
      have Aa0W5 := sl.hid (Aa0W4.out.chg (sl.Chg.ofBelow (lo := 0) bb5) (.inr (Nat.zero_le _)))
      have Aa1W5 := sl.hid (Aa1W4.out.chg (sl.Chg.ofBelow (lo := 0) bb5) (.inr (Nat.zero_le _)))
      have OrW5 := sl.hid (On4.out.chg (sl.Chg.ofBelow (lo := 0) bb5) (.inr (.inr (Nat.zero_le _))))
      have CW5 := sl.hid (CW4.out.trans (bb5.mono (by omega)))
      clear b5 bE ep0aW4 ep0bW4 bb5 kp0aW4 kp0bW4 Aa0W4 Aa1W4 On4 CW4
      have bE : Below W5.heap.size W5 (W5.alloc (.cells #[.int .i64 a0, .slice ao5 xs0.length cap5] 39)) := (Below.refl _ _).alloc (Nat.le_refl _) _
      have ep0aW5 := (bE.cell (p := ⟨w.heap.size, 0, none⟩) (by show w.heap.size < W5.heap.size; omega)).trans kp0aW5
      have ep0bW5 := (bE.cell (p := ⟨w.heap.size, 1, none⟩) (by show w.heap.size < W5.heap.size; omega)).trans kp0bW5
      have eraW5 := (bE.cell (p := ⟨W4.heap.size, 0, none⟩) (by show W4.heap.size < W5.heap.size; omega)).trans kraW5
      have erbW5 := (bE.cell (p := ⟨W4.heap.size, 1, none⟩) (by show W4.heap.size < W5.heap.size; omega)).trans krbW5
      go_wp2_with fail
      refine (sl.toI xs1 _ _ (W5.alloc (.cells #[.int .i64 a0, .slice ao5 xs0.length cap5] 39)) (br.ints_al Aa1W5.out _) (by first | omega | (simp; done) | (simp; omega)) hn1).mono ?_
      rintro e W6 ⟨v6, rfl, o6, b6⟩
      obtain ⟨ao6, cap6, rfl⟩ := br.own_val o6
      have On6 := sl.hid (o6.lo (lo' := W5.heap.size + 1) (by simp))
      clear o6
      have bb6 : Below W5.heap.size W5 W6 := ((Below.refl W5.heap.size W5).alloc (by simp) _).trans (b6.mono (by simp))
      have hzW6 : W5.heap.size + 1 ≤ W6.heap.size := by have h := b6.size; simp at h; omega
      have kx0aW6 : W6.cell? ⟨W5.heap.size, 0, none⟩ = some (.int .i64 a0) := (b6.cell (p := ⟨W5.heap.size, 0, none⟩) (by simp)).trans (World.cell?_alloc_at _ _ _ _ rfl)
      have kx0bW6 : W6.cell? ⟨W5.heap.size, 1, none⟩ = some (.slice ao5 xs0.length cap5) := (b6.cell (p := ⟨W5.heap.size, 1, none⟩) (by simp)).trans (World.cell?_alloc_at _ _ _ _ rfl)
      have kp0aW6 := (bb6.cell (p := ⟨w.heap.size, 0, none⟩) (by show w.heap.size < W5.heap.size; omega)).trans kp0aW5
      have kp0bW6 := (bb6.cell (p := ⟨w.heap.size, 1, none⟩) (by show w.heap.size < W5.heap.size; omega)).trans kp0bW5
      have kraW6 := (bb6.cell (p := ⟨W4.heap.size, 0, none⟩) (by show W4.heap.size < W5.heap.size; omega)).trans kraW5
      have krbW6 := (bb6.cell (p := ⟨W4.heap.size, 1, none⟩) (by show W4.heap.size < W5.heap.size; omega)).trans krbW5
      have Aa0W6 := sl.hid (Aa0W5.out.chg (sl.Chg.ofBelow (lo := 0) bb6) (.inr (Nat.zero_le _)))
      have Aa1W6 := sl.hid (Aa1W5.out.chg (sl.Chg.ofBelow (lo := 0) bb6) (.inr (Nat.zero_le _)))
      have OrW6 := sl.hid (OrW5.out.chg (sl.Chg.ofBelow (lo := 0) bb6) (.inr (.inr (Nat.zero_le _))))
      have Ox0W6 := sl.hid (On5.out.chg (sl.Chg.ofBelow (lo := 0) bb6) (.inr (.inr (Nat.zero_le _))))
      have CW6 := sl.hid (CW5.out.trans (bb6.mono (by omega)))
      clear b6 bE ep0aW5 ep0bW5 eraW5 erbW5 bb6 kp0aW5 kp0bW5 kraW5 krbW5 Aa0W5 Aa1W5 OrW5 On5 CW5
      go_wp2_with fail
      refine (IP.out _ _ W6 _ _ Ox0W6.out.ints (by omega) On6.out.ints (by omega) (fn.nilok_own Ox0W6.out) (fn.nilok_own On6.out)).mono ?_
      rintro e W7 ⟨ao7, cap7, rfl, o7, b7⟩
      have On7 := sl.hid o7
      clear o7
      have hzW7 : W6.heap.size ≤ W7.heap.size := b7.size
      have kp0aW7 := (b7.cell (p := ⟨w.heap.size, 0, none⟩) (by show w.heap.size < W6.heap.size; omega)).trans kp0aW6
      have kp0bW7 := (b7.cell (p := ⟨w.heap.size, 1, none⟩) (by show w.heap.size < W6.heap.size; omega)).trans kp0bW6
      have kraW7 := (b7.cell (p := ⟨W4.heap.size, 0, none⟩) (by show W4.heap.size < W6.heap.size; omega)).trans kraW6
      have krbW7 := (b7.cell (p := ⟨W4.heap.size, 1, none⟩) (by show W4.heap.size < W6.heap.size; omega)).trans krbW6
      have kx0aW7 := (b7.cell (p := ⟨W5.heap.size, 0, none⟩) (by show W5.heap.size < W6.heap.size; omega)).trans kx0aW6
      have kx0bW7 := (b7.cell (p := ⟨W5.heap.size, 1, none⟩) (by show W5.heap.size < W6.heap.size; omega)).trans kx0bW6
      have Aa0W7 := sl.hid (Aa0W6.out.chg (sl.Chg.ofBelow (lo := 0) b7) (.inr (Nat.zero_le _)))
      have Aa1W7 := sl.hid (Aa1W6.out.chg (sl.Chg.ofBelow (lo := 0) b7) (.inr (Nat.zero_le _)))
      have OrW7 := sl.hid (OrW6.out.chg (sl.Chg.ofBelow (lo := 0) b7) (.inr (.inr (Nat.zero_le _))))
      have Ox0W7 := sl.hid (Ox0W6.out.chg (sl.Chg.ofBelow (lo := 0) b7) (.inr (.inr (Nat.zero_le _))))
      have Ox1W7 := sl.hid (On6.out.chg (sl.Chg.ofBelow (lo := 0) b7) (.inr (.inr (Nat.zero_le _))))
      have CW7 := sl.hid (CW6.out.trans (b7.mono (by omega)))
      clear b7 kp0aW6 kp0bW6 kraW6 krbW6 kx0aW6 kx0bW6 Aa0W6 Aa1W6 OrW6 Ox0W6 On6 CW6
      have bE : Below W7.heap.size W7 (W7.alloc (.cells #[.int .i64 sr, .slice ao7 zr.length cap7] 39)) := (Below.refl _ _).alloc (Nat.le_refl _) _
      have ep0aW7 := (bE.cell (p := ⟨w.heap.size, 0, none⟩) (by show w.heap.size < W7.heap.size; omega)).trans kp0aW7
      have ep0bW7 := (bE.cell (p := ⟨w.heap.size, 1, none⟩) (by show w.heap.size < W7.heap.size; omega)).trans kp0bW7
      have eraW7 := (bE.cell (p := ⟨W4.heap.size, 0, none⟩) (by show W4.heap.size < W7.heap.size; omega)).trans kraW7
      have erbW7 := (bE.cell (p := ⟨W4.heap.size, 1, none⟩) (by show W4.heap.size < W7.heap.size; omega)).trans krbW7
      have ex0aW7 := (bE.cell (p := ⟨W5.heap.size, 0, none⟩) (by show W5.heap.size < W7.heap.size; omega)).trans kx0aW7
      have ex0bW7 := (bE.cell (p := ⟨W5.heap.size, 1, none⟩) (by show W5.heap.size < W7.heap.size; omega)).trans kx0bW7
      go_wp2_with fail
      refine (br.eqBS sr zr _ _ _ _ (W7.alloc (.cells #[.int .i64 sr, .slice ao7 zr.length cap7] 39)) (br.ints_al On7.out.ints _) (br.ints_al OrW7.out.ints _) hr).mono ?_
      rintro e W8 ⟨rfl, b8⟩
      have bb8 : Below W7.heap.size W7 W8 := ((Below.refl W7.heap.size W7).alloc (by simp) _).trans (b8.mono (by simp))
      have hzW8 : W7.heap.size + 1 ≤ W8.heap.size := by have h := b8.size; simp at h; omega
      have kgaW8 : W8.cell? ⟨W7.heap.size, 0, none⟩ = some (.int .i64 sr) := (b8.cell (p := ⟨W7.heap.size, 0, none⟩) (by simp)).trans (World.cell?_alloc_at _ _ _ _ rfl)
      have kgbW8 : W8.cell? ⟨W7.heap.size, 1, none⟩ = some (.slice ao7 zr.length cap7) := (b8.cell (p := ⟨W7.heap.size, 1, none⟩) (by simp)).trans (World.cell?_alloc_at _ _ _ _ rfl)
      have kp0aW8 := (bb8.cell (p := ⟨w.heap.size, 0, none⟩) (by show w.heap.size < W7.heap.size; omega)).trans kp0aW7
      have kp0bW8 := (bb8.cell (p := ⟨w.heap.size, 1, none⟩) (by show w.heap.size < W7.heap.size; omega)).trans kp0bW7
      have kraW8 := (bb8.cell (p := ⟨W4.heap.size, 0, none⟩) (by show W4.heap.size < W7.heap.size; omega)).trans kraW7
      have krbW8 := (bb8.cell (p := ⟨W4.heap.size, 1, none⟩) (by show W4.heap.size < W7.heap.size; omega)).trans krbW7
      have kx0aW8 := (bb8.cell (p := ⟨W5.heap.size, 0, none⟩) (by show W5.heap.size < W7.heap.size; omega)).trans kx0aW7
      have kx0bW8 := (bb8.cell (p := ⟨W5.heap.size, 1, none⟩) (by show W5.heap.size < W7.heap.size; omega)).trans kx0bW7
      have Aa0W8 := sl.hid (Aa0W7.out.chg (sl.Chg.ofBelow (lo := 0) bb8) (.inr (Nat.zero_le _)))
      have Aa1W8 := sl.hid (Aa1W7.out.chg (sl.Chg.ofBelow (lo := 0) bb8) (.inr (Nat.zero_le _)))
      have OrW8 := sl.hid (OrW7.out.chg (sl.Chg.ofBelow (lo := 0) bb8) (.inr (.inr (Nat.zero_le _))))
      have Ox0W8 := sl.hid (Ox0W7.out.chg (sl.Chg.ofBelow (lo := 0) bb8) (.inr (.inr (Nat.zero_le _))))
      have Ox1W8 := sl.hid (Ox1W7.out.chg (sl.Chg.ofBelow (lo := 0) bb8) (.inr (.inr (Nat.zero_le _))))
      have OgW8 := sl.hid (On7.out.chg (sl.Chg.ofBelow (lo := 0) bb8) (.inr (.inr (Nat.zero_le _))))
      have CW8 := sl.hid (CW7.out.trans (bb8.mono (by omega)))
      clear b8 bE ep0aW7 ep0bW7 eraW7 erbW7 ex0aW7 ex0bW7 bb8 kp0aW7 kp0bW7 kraW7 krbW7 kx0aW7 kx0bW7 Aa0W7 Aa1W7 OrW7 Ox0W7 Ox1W7 On7 CW7
      go_wp2_with fail
      have bD := (Below.refl W8.heap.size W8).drew
      have Aa0dW8 := sl.hid (Aa0W8.out.chg (sl.Chg.ofBelow (lo := 0) bD) (.inr (Nat.zero_le _)))
      have Aa1dW8 := sl.hid (Aa1W8.out.chg (sl.Chg.ofBelow (lo := 0) bD) (.inr (Nat.zero_le _)))
      have OrdW8 := sl.hid (OrW8.out.chg (sl.Chg.ofBelow (lo := 0) bD) (.inr (.inr (Nat.zero_le _))))
      have Ox0dW8 := sl.hid (Ox0W8.out.chg (sl.Chg.ofBelow (lo := 0) bD) (.inr (.inr (Nat.zero_le _))))
      have Ox1dW8 := sl.hid (Ox1W8.out.chg (sl.Chg.ofBelow (lo := 0) bD) (.inr (.inr (Nat.zero_le _))))
      have OgdW8 := sl.hid (OgW8.out.chg (sl.Chg.ofBelow (lo := 0) bD) (.inr (.inr (Nat.zero_le _))))
      have CdW8 := sl.hid (CW8.out.drew)
      clear bD Aa0W8 Aa1W8 OrW8 Ox0W8 Ox1W8 OgW8 CW8
      go_region_held3 (fun w' => w'.cell? ⟨w.heap.size, 0, none⟩ = some (.int .i64 a0) ∧ w'.cell? ⟨w.heap.size, 1, none⟩ = some (.slice b0 xs0.length cap0) ∧ w'.cell? ⟨W5.heap.size, 0, none⟩ = some (.int .i64 a0) ∧ w'.cell? ⟨W5.heap.size, 1, none⟩ = some (.slice ao5 xs0.length cap5)) (go_keep)
        (first
          | (go_at_call 29
             refine (br.toB a0 xs0 _ _ W8.drew Aa0dW8.out (by show w.heap.size ≤ W8.heap.size; omega) hn0).mono ?_
             rintro e W9 ⟨ao9, cap9, rfl, o9, b9⟩
             have On9 := sl.hid o9
             clear o9
             have hzW9 : W8.heap.size ≤ W9.heap.size := b9.size
             have kp0aW9 := (b9.cell (p := ⟨w.heap.size, 0, none⟩) (by show w.heap.size < W8.heap.size; omega)).trans kp0aW8
             have kp0bW9 := (b9.cell (p := ⟨w.heap.size, 1, none⟩) (by show w.heap.size < W8.heap.size; omega)).trans kp0bW8
             have kraW9 := (b9.cell (p := ⟨W4.heap.size, 0, none⟩) (by show W4.heap.size < W8.heap.size; omega)).trans kraW8
             have krbW9 := (b9.cell (p := ⟨W4.heap.size, 1, none⟩) (by show W4.heap.size < W8.heap.size; omega)).trans krbW8
             have kx0aW9 := (b9.cell (p := ⟨W5.heap.size, 0, none⟩) (by show W5.heap.size < W8.heap.size; omega)).trans kx0aW8
             have kx0bW9 := (b9.cell (p := ⟨W5.heap.size, 1, none⟩) (by show W5.heap.size < W8.heap.size; omega)).trans kx0bW8
             have kgaW9 := (b9.cell (p := ⟨W7.heap.size, 0, none⟩) (by show W7.heap.size < W8.heap.size; omega)).trans kgaW8
             have kgbW9 := (b9.cell (p := ⟨W7.heap.size, 1, none⟩) (by show W7.heap.size < W8.heap.size; omega)).trans kgbW8
             have Aa0W9 := sl.hid (Aa0dW8.out.chg (sl.Chg.ofBelow (lo := 0) b9) (.inr (Nat.zero_le _)))
             have Aa1W9 := sl.hid (Aa1dW8.out.chg (sl.Chg.ofBelow (lo := 0) b9) (.inr (Nat.zero_le _)))
             have OrW9 := sl.hid (OrdW8.out.chg (sl.Chg.ofBelow (lo := 0) b9) (.inr (.inr (Nat.zero_le _))))
             have Ox0W9 := sl.hid (Ox0dW8.out.chg (sl.Chg.ofBelow (lo := 0) b9) (.inr (.inr (Nat.zero_le _))))
             have Ox1W9 := sl.hid (Ox1dW8.out.chg (sl.Chg.ofBelow (lo := 0) b9) (.inr (.inr (Nat.zero_le _))))
             have OgW9 := sl.hid (OgdW8.out.chg (sl.Chg.ofBelow (lo := 0) b9) (.inr (.inr (Nat.zero_le _))))
             have CW9 := sl.hid (CdW8.out.trans (b9.mono (by show w.heap.size ≤ W8.heap.size; omega)))
             clear b9 kp0aW8 kp0bW8 kraW8 krbW8 kx0aW8 kx0bW8 kgaW8 kgbW8 Aa0dW8 Aa1dW8 OrdW8 Ox0dW8 Ox1dW8 OgdW8 CdW8)
          | (go_at_call 32
             refine (br.eqBS a0 xs0 _ _ _ _ W9 Ox0W9.out.ints On9.out.ints hn0).mono ?_
             rintro e W10 ⟨rfl, b10⟩
             clear On9
             have hzW10 : W9.heap.size ≤ W10.heap.size := b10.size
             have kp0aW10 := (b10.cell (p := ⟨w.heap.size, 0, none⟩) (by show w.heap.size < W9.heap.size; omega)).trans kp0aW9
             have kp0bW10 := (b10.cell (p := ⟨w.heap.size, 1, none⟩) (by show w.heap.size < W9.heap.size; omega)).trans kp0bW9
             have kraW10 := (b10.cell (p := ⟨W4.heap.size, 0, none⟩) (by show W4.heap.size < W9.heap.size; omega)).trans kraW9
             have krbW10 := (b10.cell (p := ⟨W4.heap.size, 1, none⟩) (by show W4.heap.size < W9.heap.size; omega)).trans krbW9
             have kx0aW10 := (b10.cell (p := ⟨W5.heap.size, 0, none⟩) (by show W5.heap.size < W9.heap.size; omega)).trans kx0aW9
             have kx0bW10 := (b10.cell (p := ⟨W5.heap.size, 1, none⟩) (by show W5.heap.size < W9.heap.size; omega)).trans kx0bW9
             have kgaW10 := (b10.cell (p := ⟨W7.heap.size, 0, none⟩) (by show W7.heap.size < W9.heap.size; omega)).trans kgaW9
             have kgbW10 := (b10.cell (p := ⟨W7.heap.size, 1, none⟩) (by show W7.heap.size < W9.heap.size; omega)).trans kgbW9
             have Aa0W10 := sl.hid (Aa0W9.out.chg (sl.Chg.ofBelow (lo := 0) b10) (.inr (Nat.zero_le _)))
             have Aa1W10 := sl.hid (Aa1W9.out.chg (sl.Chg.ofBelow (lo := 0) b10) (.inr (Nat.zero_le _)))
             have OrW10 := sl.hid (OrW9.out.chg (sl.Chg.ofBelow (lo := 0) b10) (.inr (.inr (Nat.zero_le _))))
             have Ox0W10 := sl.hid (Ox0W9.out.chg (sl.Chg.ofBelow (lo := 0) b10) (.inr (.inr (Nat.zero_le _))))
             have Ox1W10 := sl.hid (Ox1W9.out.chg (sl.Chg.ofBelow (lo := 0) b10) (.inr (.inr (Nat.zero_le _))))
             have OgW10 := sl.hid (OgW9.out.chg (sl.Chg.ofBelow (lo := 0) b10) (.inr (.inr (Nat.zero_le _))))
             have CW10 := sl.hid (CW9.out.trans (b10.mono (by show w.heap.size ≤ W9.heap.size; omega)))
             clear b10 kp0aW9 kp0bW9 kraW9 krbW9 kx0aW9 kx0bW9 kgaW9 kgbW9 Aa0W9 Aa1W9 OrW9 Ox0W9 Ox1W9 OgW9 CW9))
      go_wp2_with fail
      refine (sl.toI xs1 _ _ W10 Aa1W10.out (by omega) hn1).mono ?_
      rintro e W11 ⟨v11, rfl, o11, b11⟩
      obtain ⟨ao11, cap11, rfl⟩ := br.own_val o11
      have On11 := sl.hid o11
      clear o11
      have hzW11 : W10.heap.size ≤ W11.heap.size := b11.size
      have kp0aW11 := (b11.cell (p := ⟨w.heap.size, 0, none⟩) (by show w.heap.size < W10.heap.size; omega)).trans kp0aW10
      have kp0bW11 := (b11.cell (p := ⟨w.heap.size, 1, none⟩) (by show w.heap.size < W10.heap.size; omega)).trans kp0bW10
      have kraW11 := (b11.cell (p := ⟨W4.heap.size, 0, none⟩) (by show W4.heap.size < W10.heap.size; omega)).trans kraW10
      have krbW11 := (b11.cell (p := ⟨W4.heap.size, 1, none⟩) (by show W4.heap.size < W10.heap.size; omega)).trans krbW10
      have kx0aW11 := (b11.cell (p := ⟨W5.heap.size, 0, none⟩) (by show W5.heap.size < W10.heap.size; omega)).trans kx0aW10
      have kx0bW11 := (b11.cell (p := ⟨W5.heap.size, 1, none⟩) (by show W5.heap.size < W10.heap.size; omega)).trans kx0bW10
      have kgaW11 := (b11.cell (p := ⟨W7.heap.size, 0, none⟩) (by show W7.heap.size < W10.heap.size; omega)).trans kgaW10
      have kgbW11 := (b11.cell (p := ⟨W7.heap.size, 1, none⟩) (by show W7.heap.size < W10.heap.size; omega)).trans kgbW10
      have Aa0W11 := sl.hid (Aa0W10.out.chg (sl.Chg.ofBelow (lo := 0) b11) (.inr (Nat.zero_le _)))
      have Aa1W11 := sl.hid (Aa1W10.out.chg (sl.Chg.ofBelow (lo := 0) b11) (.inr (Nat.zero_le _)))
      have OrW11 := sl.hid (OrW10.out.chg (sl.Chg.ofBelow (lo := 0) b11) (.inr (.inr (Nat.zero_le _))))
      have Ox0W11 := sl.hid (Ox0W10.out.chg (sl.Chg.ofBelow (lo := 0) b11) (.inr (.inr (Nat.zero_le _))))
      have Ox1W11 := sl.hid (Ox1W10.out.chg (sl.Chg.ofBelow (lo := 0) b11) (.inr (.inr (Nat.zero_le _))))
      have OgW11 := sl.hid (OgW10.out.chg (sl.Chg.ofBelow (lo := 0) b11) (.inr (.inr (Nat.zero_le _))))
      have CW11 := sl.hid (CW10.out.trans (b11.mono (by omega)))
      clear b11 kp0aW10 kp0bW10 kraW10 krbW10 kx0aW10 kx0bW10 kgaW10 kgbW10 Aa0W10 Aa1W10 OrW10 Ox0W10 Ox1W10 OgW10 CW10
      go_wp2_with fail
      refine (sl.eqS xs1 _ _ _ _ W11 Ox1W11.out.ints On11.out.ints hn1).mono ?_
      rintro e W12 ⟨rfl, b12⟩
      have hzW12 : W11.heap.size ≤ W12.heap.size := b12.size
      have kp0aW12 := (b12.cell (p := ⟨w.heap.size, 0, none⟩) (by show w.heap.size < W11.heap.size; omega)).trans kp0aW11
      have kp0bW12 := (b12.cell (p := ⟨w.heap.size, 1, none⟩) (by show w.heap.size < W11.heap.size; omega)).trans kp0bW11
      have kraW12 := (b12.cell (p := ⟨W4.heap.size, 0, none⟩) (by show W4.heap.size < W11.heap.size; omega)).trans kraW11
      have krbW12 := (b12.cell (p := ⟨W4.heap.size, 1, none⟩) (by show W4.heap.size < W11.heap.size; omega)).trans krbW11
      have kx0aW12 := (b12.cell (p := ⟨W5.heap.size, 0, none⟩) (by show W5.heap.size < W11.heap.size; omega)).trans kx0aW11
      have kx0bW12 := (b12.cell (p := ⟨W5.heap.size, 1, none⟩) (by show W5.heap.size < W11.heap.size; omega)).trans kx0bW11
      have kgaW12 := (b12.cell (p := ⟨W7.heap.size, 0, none⟩) (by show W7.heap.size < W11.heap.size; omega)).trans kgaW11
      have kgbW12 := (b12.cell (p := ⟨W7.heap.size, 1, none⟩) (by show W7.heap.size < W11.heap.size; omega)).trans kgbW11
      have Aa0W12 := sl.hid (Aa0W11.out.chg (sl.Chg.ofBelow (lo := 0) b12) (.inr (Nat.zero_le _)))
      have Aa1W12 := sl.hid (Aa1W11.out.chg (sl.Chg.ofBelow (lo := 0) b12) (.inr (Nat.zero_le _)))
      have OrW12 := sl.hid (OrW11.out.chg (sl.Chg.ofBelow (lo := 0) b12) (.inr (.inr (Nat.zero_le _))))
      have Ox0W12 := sl.hid (Ox0W11.out.chg (sl.Chg.ofBelow (lo := 0) b12) (.inr (.inr (Nat.zero_le _))))
      have Ox1W12 := sl.hid (Ox1W11.out.chg (sl.Chg.ofBelow (lo := 0) b12) (.inr (.inr (Nat.zero_le _))))
      have OgW12 := sl.hid (OgW11.out.chg (sl.Chg.ofBelow (lo := 0) b12) (.inr (.inr (Nat.zero_le _))))
      have Oy1W12 := sl.hid (On11.out.chg (sl.Chg.ofBelow (lo := 0) b12) (.inr (.inr (Nat.zero_le _))))
      have CW12 := sl.hid (CW11.out.trans (b12.mono (by omega)))
      clear b12 kp0aW11 kp0bW11 kraW11 krbW11 kx0aW11 kx0bW11 kgaW11 kgbW11 Aa0W11 Aa1W11 OrW11 Ox0W11 Ox1W11 OgW11 On11 CW11
      go_wp2_with fail
      refine (br.markB _ xs0 _ _ _ (1) W12 Ox0W12.out hn0 (by omega) (by omega)).mono ?_
      rintro e W13 ⟨rfl, o13, c13⟩
      have hzW13 : W12.heap.size ≤ W13.heap.size := c13.size
      have On13 := sl.hid o13
      clear o13
      have kp0aW13 := (World.cell?_of_block (w := W12) (w' := W13) (a := ⟨w.heap.size, 0, none⟩) (c13.block (w.heap.size) (by omega) (by omega))).trans kp0aW12
      have kp0bW13 := (World.cell?_of_block (w := W12) (w' := W13) (a := ⟨w.heap.size, 1, none⟩) (c13.block (w.heap.size) (by omega) (by omega))).trans kp0bW12
      have kraW13 := (World.cell?_of_block (w := W12) (w' := W13) (a := ⟨W4.heap.size, 0, none⟩) (c13.block (W4.heap.size) (by omega) (by omega))).trans kraW12
      have krbW13 := (World.cell?_of_block (w := W12) (w' := W13) (a := ⟨W4.heap.size, 1, none⟩) (c13.block (W4.heap.size) (by omega) (by omega))).trans krbW12
      have kx0aW13 := (World.cell?_of_block (w := W12) (w' := W13) (a := ⟨W5.heap.size, 0, none⟩) (c13.block (W5.heap.size) (by omega) (by omega))).trans kx0aW12
      have kx0bW13 := (World.cell?_of_block (w := W12) (w' := W13) (a := ⟨W5.heap.size, 1, none⟩) (c13.block (W5.heap.size) (by omega) (by omega))).trans kx0bW12
      have kgaW13 := (World.cell?_of_block (w := W12) (w' := W13) (a := ⟨W7.heap.size, 0, none⟩) (c13.block (W7.heap.size) (by omega) (by omega))).trans kgaW12
      have kgbW13 := (World.cell?_of_block (w := W12) (w' := W13) (a := ⟨W7.heap.size, 1, none⟩) (c13.block (W7.heap.size) (by omega) (by omega))).trans kgbW12
      have Aa0W13 := sl.hid (Aa0W12.out.chg c13 (.inl (by omega)))
      have Aa1W13 := sl.hid (Aa1W12.out.chg c13 (.inl (by omega)))
      have OrW13 := sl.hid (OrW12.out.chg c13 (by omega))
      have Ox1W13 := sl.hid (Ox1W12.out.chg c13 (by omega))
      have OgW13 := sl.hid (OgW12.out.chg c13 (by omega))
      have CW13 := sl.hid (CW12.out.trans (c13.below (by omega) (by omega)))
      clear c13 Ox0W12 kp0aW12 kp0bW12 kraW12 krbW12 kx0aW12 kx0bW12 kgaW12 kgbW12 Aa0W12 Aa1W12 OrW12 Ox1W12 OgW12 CW12
      go_wp2_with fail
      refine (sl.markI xs1 _ _ _ (1 + (xs0.length : Nat)) W13 Ox1W13.out hn1 (by omega) (by omega)).mono ?_
      rintro e W14 ⟨rfl, o14, c14⟩
      have hzW14 : W13.heap.size ≤ W14.heap.size := c14.size
      have On14 := sl.hid o14
      clear o14
      have kp0aW14 := (World.cell?_of_block (w := W13) (w' := W14) (a := ⟨w.heap.size, 0, none⟩) (c14.block (w.heap.size) (by omega) (by omega))).trans kp0aW13
      have kp0bW14 := (World.cell?_of_block (w := W13) (w' := W14) (a := ⟨w.heap.size, 1, none⟩) (c14.block (w.heap.size) (by omega) (by omega))).trans kp0bW13
      have kraW14 := (World.cell?_of_block (w := W13) (w' := W14) (a := ⟨W4.heap.size, 0, none⟩) (c14.block (W4.heap.size) (by omega) (by omega))).trans kraW13
      have krbW14 := (World.cell?_of_block (w := W13) (w' := W14) (a := ⟨W4.heap.size, 1, none⟩) (c14.block (W4.heap.size) (by omega) (by omega))).trans krbW13
      have kx0aW14 := (World.cell?_of_block (w := W13) (w' := W14) (a := ⟨W5.heap.size, 0, none⟩) (c14.block (W5.heap.size) (by omega) (by omega))).trans kx0aW13
      have kx0bW14 := (World.cell?_of_block (w := W13) (w' := W14) (a := ⟨W5.heap.size, 1, none⟩) (c14.block (W5.heap.size) (by omega) (by omega))).trans kx0bW13
      have kgaW14 := (World.cell?_of_block (w := W13) (w' := W14) (a := ⟨W7.heap.size, 0, none⟩) (c14.block (W7.heap.size) (by omega) (by omega))).trans kgaW13
      have kgbW14 := (World.cell?_of_block (w := W13) (w' := W14) (a := ⟨W7.heap.size, 1, none⟩) (c14.block (W7.heap.size) (by omega) (by omega))).trans kgbW13
      have Aa0W14 := sl.hid (Aa0W13.out.chg c14 (.inl (by omega)))
      have Aa1W14 := sl.hid (Aa1W13.out.chg c14 (.inl (by omega)))
      have OrW14 := sl.hid (OrW13.out.chg c14 (by omega))
      have Ox0W14 := sl.hid (On13.out.chg c14 (by omega))
      have OgW14 := sl.hid (OgW13.out.chg c14 (by omega))
      have CW14 := sl.hid (CW13.out.trans (c14.below (by omega) (by omega)))
      clear c14 Ox1W13 kp0aW13 kp0bW13 kraW13 krbW13 kx0aW13 kx0bW13 kgaW13 kgbW13 Aa0W13 Aa1W13 OrW13 On13 OgW13 CW13
      go_wp2_with fail
      refine (br.eqBS sr zr _ _ _ _ W14 OgW14.out.ints OrW14.out.ints hr).mono ?_
      rintro e W15 ⟨rfl, b15⟩
      have hzW15 : W14.heap.size ≤ W15.heap.size := b15.size
      have kp0aW15 := (b15.cell (p := ⟨w.heap.size, 0, none⟩) (by show w.heap.size < W14.heap.size; omega)).trans kp0aW14
      have kp0bW15 := (b15.cell (p := ⟨w.heap.size, 1, none⟩) (by show w.heap.size < W14.heap.size; omega)).trans kp0bW14
      have kraW15 := (b15.cell (p := ⟨W4.heap.size, 0, none⟩) (by show W4.heap.size < W14.heap.size; omega)).trans kraW14
      have krbW15 := (b15.cell (p := ⟨W4.heap.size, 1, none⟩) (by show W4.heap.size < W14.heap.size; omega)).trans krbW14
      have kgaW15 := (b15.cell (p := ⟨W7.heap.size, 0, none⟩) (by show W7.heap.size < W14.heap.size; omega)).trans kgaW14
      have kgbW15 := (b15.cell (p := ⟨W7.heap.size, 1, none⟩) (by show W7.heap.size < W14.heap.size; omega)).trans kgbW14
      have Aa0W15 := sl.hid (Aa0W14.out.chg (sl.Chg.ofBelow (lo := 0) b15) (.inr (Nat.zero_le _)))
      have Aa1W15 := sl.hid (Aa1W14.out.chg (sl.Chg.ofBelow (lo := 0) b15) (.inr (Nat.zero_le _)))
      have OrW15 := sl.hid (OrW14.out.chg (sl.Chg.ofBelow (lo := 0) b15) (.inr (.inr (Nat.zero_le _))))
      have OgW15 := sl.hid (OgW14.out.chg (sl.Chg.ofBelow (lo := 0) b15) (.inr (.inr (Nat.zero_le _))))
      have CW15 := sl.hid (CW14.out.trans (b15.mono (by omega)))
      clear b15 kp0aW14 kp0bW14 kraW14 krbW14 kgaW14 kgbW14 Aa0W14 Aa1W14 OrW14 OgW14 CW14
      go_wp2_with fail
      refine (br.markB _ zr _ _ _ (1) W15 OgW15.out hr (by omega) (by omega)).mono ?_
      rintro e W16 ⟨rfl, o16, c16⟩
      have hzW16 : W15.heap.size ≤ W16.heap.size := c16.size
      have On16 := sl.hid o16
      clear o16
      have kp0aW16 := (World.cell?_of_block (w := W15) (w' := W16) (a := ⟨w.heap.size, 0, none⟩) (c16.block (w.heap.size) (by omega) (by omega))).trans kp0aW15
      have kp0bW16 := (World.cell?_of_block (w := W15) (w' := W16) (a := ⟨w.heap.size, 1, none⟩) (c16.block (w.heap.size) (by omega) (by omega))).trans kp0bW15
      have kraW16 := (World.cell?_of_block (w := W15) (w' := W16) (a := ⟨W4.heap.size, 0, none⟩) (c16.block (W4.heap.size) (by omega) (by omega))).trans kraW15
      have krbW16 := (World.cell?_of_block (w := W15) (w' := W16) (a := ⟨W4.heap.size, 1, none⟩) (c16.block (W4.heap.size) (by omega) (by omega))).trans krbW15
      have kgaW16 := (World.cell?_of_block (w := W15) (w' := W16) (a := ⟨W7.heap.size, 0, none⟩) (c16.block (W7.heap.size) (by omega) (by omega))).trans kgaW15
      have kgbW16 := (World.cell?_of_block (w := W15) (w' := W16) (a := ⟨W7.heap.size, 1, none⟩) (c16.block (W7.heap.size) (by omega) (by omega))).trans kgbW15
      have Aa0W16 := sl.hid (Aa0W15.out.chg c16 (.inl (by omega)))
      have Aa1W16 := sl.hid (Aa1W15.out.chg c16 (.inl (by omega)))
      have OrW16 := sl.hid (OrW15.out.chg c16 (by omega))
      have CW16 := sl.hid (CW15.out.trans (c16.below (by omega) (by omega)))
      clear c16 OgW15 kp0aW15 kp0bW15 kraW15 krbW15 kgaW15 kgbW15 Aa0W15 Aa1W15 OrW15 CW15
      go_wp2_with fail
      refine (br.heldB _ zr.length _ _ 1 W16 On16.out.ints hr (by omega) (by omega)).mono ?_
      rintro e W17 ⟨rfl, b17⟩
      have hzW17 : W16.heap.size ≤ W17.heap.size := b17.size
      have kp0aW17 := (b17.cell (p := ⟨w.heap.size, 0, none⟩) (by show w.heap.size < W16.heap.size; omega)).trans kp0aW16
      have kp0bW17 := (b17.cell (p := ⟨w.heap.size, 1, none⟩) (by show w.heap.size < W16.heap.size; omega)).trans kp0bW16
      have kraW17 := (b17.cell (p := ⟨W4.heap.size, 0, none⟩) (by show W4.heap.size < W16.heap.size; omega)).trans kraW16
      have krbW17 := (b17.cell (p := ⟨W4.heap.size, 1, none⟩) (by show W4.heap.size < W16.heap.size; omega)).trans krbW16
      have kgaW17 := (b17.cell (p := ⟨W7.heap.size, 0, none⟩) (by show W7.heap.size < W16.heap.size; omega)).trans kgaW16
      have kgbW17 := (b17.cell (p := ⟨W7.heap.size, 1, none⟩) (by show W7.heap.size < W16.heap.size; omega)).trans kgbW16
      have Aa0W17 := sl.hid (Aa0W16.out.chg (sl.Chg.ofBelow (lo := 0) b17) (.inr (Nat.zero_le _)))
      have Aa1W17 := sl.hid (Aa1W16.out.chg (sl.Chg.ofBelow (lo := 0) b17) (.inr (Nat.zero_le _)))
      have OrW17 := sl.hid (OrW16.out.chg (sl.Chg.ofBelow (lo := 0) b17) (.inr (.inr (Nat.zero_le _))))
      have OgW17 := sl.hid (On16.out.chg (sl.Chg.ofBelow (lo := 0) b17) (.inr (.inr (Nat.zero_le _))))
      have CW17 := sl.hid (CW16.out.trans (b17.mono (by omega)))
      clear b17 kp0aW16 kp0bW16 kraW16 krbW16 kgaW16 kgbW16 Aa0W16 Aa1W16 OrW16 On16 CW16
      go_wp2_with fail
      refine (br.toB a0 xs0 _ _ W17 Aa0W17.out (by omega) hn0).mono ?_
      rintro e W18 ⟨ao18, cap18, rfl, o18, b18⟩
      have On18 := sl.hid o18
      clear o18
      have hzW18 : W17.heap.size ≤ W18.heap.size := b18.size
      have kp0aW18 := (b18.cell (p := ⟨w.heap.size, 0, none⟩) (by show w.heap.size < W17.heap.size; omega)).trans kp0aW17
      have kp0bW18 := (b18.cell (p := ⟨w.heap.size, 1, none⟩) (by show w.heap.size < W17.heap.size; omega)).trans kp0bW17
      have kraW18 := (b18.cell (p := ⟨W4.heap.size, 0, none⟩) (by show W4.heap.size < W17.heap.size; omega)).trans kraW17
      have krbW18 := (b18.cell (p := ⟨W4.heap.size, 1, none⟩) (by show W4.heap.size < W17.heap.size; omega)).trans krbW17
      have kgaW18 := (b18.cell (p := ⟨W7.heap.size, 0, none⟩) (by show W7.heap.size < W17.heap.size; omega)).trans kgaW17
      have kgbW18 := (b18.cell (p := ⟨W7.heap.size, 1, none⟩) (by show W7.heap.size < W17.heap.size; omega)).trans kgbW17
      have Aa0W18 := sl.hid (Aa0W17.out.chg (sl.Chg.ofBelow (lo := 0) b18) (.inr (Nat.zero_le _)))
      have Aa1W18 := sl.hid (Aa1W17.out.chg (sl.Chg.ofBelow (lo := 0) b18) (.inr (Nat.zero_le _)))
      have OrW18 := sl.hid (OrW17.out.chg (sl.Chg.ofBelow (lo := 0) b18) (.inr (.inr (Nat.zero_le _))))
      have OgW18 := sl.hid (OgW17.out.chg (sl.Chg.ofBelow (lo := 0) b18) (.inr (.inr (Nat.zero_le _))))
      have CW18 := sl.hid (CW17.out.trans (b18.mono (by omega)))
      clear b18 kp0aW17 kp0bW17 kraW17 krbW17 kgaW17 kgbW17 Aa0W17 Aa1W17 OrW17 OgW17 CW17
      go_wp2_with fail
      refine (sl.toI xs1 _ _ W18 Aa1W18.out (by omega) hn1).mono ?_
      rintro e W19 ⟨v19, rfl, o19, b19⟩
      obtain ⟨ao19, cap19, rfl⟩ := br.own_val o19
      have On19 := sl.hid o19
      clear o19
      have hzW19 : W18.heap.size ≤ W19.heap.size := b19.size
      have kp0aW19 := (b19.cell (p := ⟨w.heap.size, 0, none⟩) (by show w.heap.size < W18.heap.size; omega)).trans kp0aW18
      have kp0bW19 := (b19.cell (p := ⟨w.heap.size, 1, none⟩) (by show w.heap.size < W18.heap.size; omega)).trans kp0bW18
      have kraW19 := (b19.cell (p := ⟨W4.heap.size, 0, none⟩) (by show W4.heap.size < W18.heap.size; omega)).trans kraW18
      have krbW19 := (b19.cell (p := ⟨W4.heap.size, 1, none⟩) (by show W4.heap.size < W18.heap.size; omega)).trans krbW18
      have kgaW19 := (b19.cell (p := ⟨W7.heap.size, 0, none⟩) (by show W7.heap.size < W18.heap.size; omega)).trans kgaW18
      have kgbW19 := (b19.cell (p := ⟨W7.heap.size, 1, none⟩) (by show W7.heap.size < W18.heap.size; omega)).trans kgbW18
      have Aa0W19 := sl.hid (Aa0W18.out.chg (sl.Chg.ofBelow (lo := 0) b19) (.inr (Nat.zero_le _)))
      have Aa1W19 := sl.hid (Aa1W18.out.chg (sl.Chg.ofBelow (lo := 0) b19) (.inr (Nat.zero_le _)))
      have OrW19 := sl.hid (OrW18.out.chg (sl.Chg.ofBelow (lo := 0) b19) (.inr (.inr (Nat.zero_le _))))
      have OgW19 := sl.hid (OgW18.out.chg (sl.Chg.ofBelow (lo := 0) b19) (.inr (.inr (Nat.zero_le _))))
      have Oz0W19 := sl.hid (On18.out.chg (sl.Chg.ofBelow (lo := 0) b19) (.inr (.inr (Nat.zero_le _))))
      have CW19 := sl.hid (CW18.out.trans (b19.mono (by omega)))
      clear b19 kp0aW18 kp0bW18 kraW18 krbW18 kgaW18 kgbW18 Aa0W18 Aa1W18 OrW18 OgW18 On18 CW18
      go_wp2_with fail
      refine (IP.out _ _ W19 _ _ Oz0W19.out.ints (by omega) On19.out.ints (by omega) (fn.nilok_own Oz0W19.out) (fn.nilok_own On19.out)).mono ?_
      rintro e W20 ⟨ao20, cap20, rfl, o20, b20⟩
      have On20 := sl.hid o20
      clear o20
      have hzW20 : W19.heap.size ≤ W20.heap.size := b20.size
      have kp0aW20 := (b20.cell (p := ⟨w.heap.size, 0, none⟩) (by show w.heap.size < W19.heap.size; omega)).trans kp0aW19
      have kp0bW20 := (b20.cell (p := ⟨w.heap.size, 1, none⟩) (by show w.heap.size < W19.heap.size; omega)).trans kp0bW19
      have kraW20 := (b20.cell (p := ⟨W4.heap.size, 0, none⟩) (by show W4.heap.size < W19.heap.size; omega)).trans kraW19
      have krbW20 := (b20.cell (p := ⟨W4.heap.size, 1, none⟩) (by show W4.heap.size < W19.heap.size; omega)).trans krbW19
      have kgaW20 := (b20.cell (p := ⟨W7.heap.size, 0, none⟩) (by show W7.heap.size < W19.heap.size; omega)).trans kgaW19
      have kgbW20 := (b20.cell (p := ⟨W7.heap.size, 1, none⟩) (by show W7.heap.size < W19.heap.size; omega)).trans kgbW19
      have Aa0W20 := sl.hid (Aa0W19.out.chg (sl.Chg.ofBelow (lo := 0) b20) (.inr (Nat.zero_le _)))
      have Aa1W20 := sl.hid (Aa1W19.out.chg (sl.Chg.ofBelow (lo := 0) b20) (.inr (Nat.zero_le _)))
      have OrW20 := sl.hid (OrW19.out.chg (sl.Chg.ofBelow (lo := 0) b20) (.inr (.inr (Nat.zero_le _))))
      have OgW20 := sl.hid (OgW19.out.chg (sl.Chg.ofBelow (lo := 0) b20) (.inr (.inr (Nat.zero_le _))))
      have Oz0W20 := sl.hid (Oz0W19.out.chg (sl.Chg.ofBelow (lo := 0) b20) (.inr (.inr (Nat.zero_le _))))
      have Oz1W20 := sl.hid (On19.out.chg (sl.Chg.ofBelow (lo := 0) b20) (.inr (.inr (Nat.zero_le _))))
      have CW20 := sl.hid (CW19.out.trans (b20.mono (by omega)))
      clear b20 kp0aW19 kp0bW19 kraW19 krbW19 kgaW19 kgbW19 Aa0W19 Aa1W19 OrW19 OgW19 Oz0W19 On19 CW19
      have bE : Below W20.heap.size W20 (W20.alloc (.cells #[.int .i64 sr, .slice ao20 zr.length cap20] 39)) := (Below.refl _ _).alloc (Nat.le_refl _) _
      have ep0aW20 := (bE.cell (p := ⟨w.heap.size, 0, none⟩) (by show w.heap.size < W20.heap.size; omega)).trans kp0aW20
      have ep0bW20 := (bE.cell (p := ⟨w.heap.size, 1, none⟩) (by show w.heap.size < W20.heap.size; omega)).trans kp0bW20
      have eraW20 := (bE.cell (p := ⟨W4.heap.size, 0, none⟩) (by show W4.heap.size < W20.heap.size; omega)).trans kraW20
      have erbW20 := (bE.cell (p := ⟨W4.heap.size, 1, none⟩) (by show W4.heap.size < W20.heap.size; omega)).trans krbW20
      have egaW20 := (bE.cell (p := ⟨W7.heap.size, 0, none⟩) (by show W7.heap.size < W20.heap.size; omega)).trans kgaW20
      have egbW20 := (bE.cell (p := ⟨W7.heap.size, 1, none⟩) (by show W7.heap.size < W20.heap.size; omega)).trans kgbW20
      go_wp2_with fail
      refine (br.eqBS sr zr _ _ _ _ (W20.alloc (.cells #[.int .i64 sr, .slice ao20 zr.length cap20] 39)) (br.ints_al On20.out.ints _) (br.ints_al OrW20.out.ints _) hr).mono ?_
      rintro e W21 ⟨rfl, b21⟩
      have bb21 : Below W20.heap.size W20 W21 := ((Below.refl W20.heap.size W20).alloc (by simp) _).trans (b21.mono (by simp))
      have hzW21 : W20.heap.size + 1 ≤ W21.heap.size := by have h := b21.size; simp at h; omega
      have khaW21 : W21.cell? ⟨W20.heap.size, 0, none⟩ = some (.int .i64 sr) := (b21.cell (p := ⟨W20.heap.size, 0, none⟩) (by simp)).trans (World.cell?_alloc_at _ _ _ _ rfl)
      have khbW21 : W21.cell? ⟨W20.heap.size, 1, none⟩ = some (.slice ao20 zr.length cap20) := (b21.cell (p := ⟨W20.heap.size, 1, none⟩) (by simp)).trans (World.cell?_alloc_at _ _ _ _ rfl)
      have kp0aW21 := (bb21.cell (p := ⟨w.heap.size, 0, none⟩) (by show w.heap.size < W20.heap.size; omega)).trans kp0aW20
      have kp0bW21 := (bb21.cell (p := ⟨w.heap.size, 1, none⟩) (by show w.heap.size < W20.heap.size; omega)).trans kp0bW20
      have kraW21 := (bb21.cell (p := ⟨W4.heap.size, 0, none⟩) (by show W4.heap.size < W20.heap.size; omega)).trans kraW20
      have krbW21 := (bb21.cell (p := ⟨W4.heap.size, 1, none⟩) (by show W4.heap.size < W20.heap.size; omega)).trans krbW20
      have kgaW21 := (bb21.cell (p := ⟨W7.heap.size, 0, none⟩) (by show W7.heap.size < W20.heap.size; omega)).trans kgaW20
      have kgbW21 := (bb21.cell (p := ⟨W7.heap.size, 1, none⟩) (by show W7.heap.size < W20.heap.size; omega)).trans kgbW20
      have Aa0W21 := sl.hid (Aa0W20.out.chg (sl.Chg.ofBelow (lo := 0) bb21) (.inr (Nat.zero_le _)))
      have Aa1W21 := sl.hid (Aa1W20.out.chg (sl.Chg.ofBelow (lo := 0) bb21) (.inr (Nat.zero_le _)))
      have OrW21 := sl.hid (OrW20.out.chg (sl.Chg.ofBelow (lo := 0) bb21) (.inr (.inr (Nat.zero_le _))))
      have OgW21 := sl.hid (OgW20.out.chg (sl.Chg.ofBelow (lo := 0) bb21) (.inr (.inr (Nat.zero_le _))))
      have OhW21 := sl.hid (On20.out.chg (sl.Chg.ofBelow (lo := 0) bb21) (.inr (.inr (Nat.zero_le _))))
      have CW21 := sl.hid (CW20.out.trans (bb21.mono (by omega)))
      clear b21 bE ep0aW20 ep0bW20 eraW20 erbW20 egaW20 egbW20 bb21 kp0aW20 kp0bW20 kraW20 krbW20 kgaW20 kgbW20 Aa0W20 Aa1W20 OrW20 OgW20 On20 CW20
      go_wp2_with fail
      refine (br.heldB _ zr.length _ _ 1 W21 OgW21.out.ints hr (by omega) (by omega)).mono ?_
      rintro e W22 ⟨rfl, b22⟩
      have hzW22 : W21.heap.size ≤ W22.heap.size := b22.size
      have kp0aW22 := (b22.cell (p := ⟨w.heap.size, 0, none⟩) (by show w.heap.size < W21.heap.size; omega)).trans kp0aW21
      have kp0bW22 := (b22.cell (p := ⟨w.heap.size, 1, none⟩) (by show w.heap.size < W21.heap.size; omega)).trans kp0bW21
      have kraW22 := (b22.cell (p := ⟨W4.heap.size, 0, none⟩) (by show W4.heap.size < W21.heap.size; omega)).trans kraW21
      have krbW22 := (b22.cell (p := ⟨W4.heap.size, 1, none⟩) (by show W4.heap.size < W21.heap.size; omega)).trans krbW21
      have kgaW22 := (b22.cell (p := ⟨W7.heap.size, 0, none⟩) (by show W7.heap.size < W21.heap.size; omega)).trans kgaW21
      have kgbW22 := (b22.cell (p := ⟨W7.heap.size, 1, none⟩) (by show W7.heap.size < W21.heap.size; omega)).trans kgbW21
      have khaW22 := (b22.cell (p := ⟨W20.heap.size, 0, none⟩) (by show W20.heap.size < W21.heap.size; omega)).trans khaW21
      have khbW22 := (b22.cell (p := ⟨W20.heap.size, 1, none⟩) (by show W20.heap.size < W21.heap.size; omega)).trans khbW21
      have Aa0W22 := sl.hid (Aa0W21.out.chg (sl.Chg.ofBelow (lo := 0) b22) (.inr (Nat.zero_le _)))
      have Aa1W22 := sl.hid (Aa1W21.out.chg (sl.Chg.ofBelow (lo := 0) b22) (.inr (Nat.zero_le _)))
      have OrW22 := sl.hid (OrW21.out.chg (sl.Chg.ofBelow (lo := 0) b22) (.inr (.inr (Nat.zero_le _))))
      have OgW22 := sl.hid (OgW21.out.chg (sl.Chg.ofBelow (lo := 0) b22) (.inr (.inr (Nat.zero_le _))))
      have OhW22 := sl.hid (OhW21.out.chg (sl.Chg.ofBelow (lo := 0) b22) (.inr (.inr (Nat.zero_le _))))
      have CW22 := sl.hid (CW21.out.trans (b22.mono (by omega)))
      clear b22 kp0aW21 kp0bW21 kraW21 krbW21 kgaW21 kgbW21 khaW21 khbW21 Aa0W21 Aa1W21 OrW21 OgW21 OhW21 CW21
      go_wp2
      go_ret
      exact ⟨rfl, CW22.out⟩
    · have hq : br.szL 1048576 xs0.length = -1 := by unfold br.szL; rw [if_pos (by omega)]
      rw [hq] at HS
      clear hq
      go_enter Try.func6, Try.ntmps6
      go_wp2_with fail
      refine HS.out.mono ?_
      rintro e W1 ⟨rfl, b1⟩
      have C1 := sl.hid (((Below.refl w.heap.size w).alloc (Nat.le_refl _) (.cells #[.int .i64 a0, .slice b0 xs0.length cap0] 37)).trans (b1.mono (by simp)))
      clear b1
      go_wp2
      go_ret
      exact ⟨rfl, C1.out⟩
  · have hl1 : decide ((1048576 : Int) < (xs1.length : Int)) = true := by simp; omega
    go_enter Try.func6, Try.ntmps6
    go_wp2
    go_ret
    exact ⟨rfl, (Below.refl w.heap.size w).alloc (Nat.le_refl _) _⟩
end Go.Proofs.Ytedajefapddekaa.wcolumnBraid
