/-
  The walk of the law of CrossingBraid.
-/
import Derived.Test.YtlhpipcmebmpdaaEvd
import Derived.Test.YtlhpipcmebmpdaaL5
namespace Go.Proofs.Ytlhpipcmebmpdaa.wcrossingBraid
open Go.RowKit
set_option linter.unusedVariables false

set_option maxRecDepth 100000 in
set_option maxHeartbeats 20000000 in
theorem law (a0 : Int) (f1 : Value) (xs1 : List ev.V) (w : World) (h0 : -9223372036854775808 ≤ a0 ∧ a0 ≤ 9223372036854775807) (hi1 : ev.OpsIn w f1 xs1) :
    Calls Try.prog 10 #[.int .i64 a0, f1] w fun e w' => e = .returned (.bool true) ∧ Below w.heap.size w w' := by
  have HA1 := sl.hid hi1.rd
  have HZ1 := sl.hid (fun W B h => ev.szO xs1 f1 B (1048576) W h hi1.len (by omega) (by omega))
  rcases ev.szL_pos (n := xs1.length) (left := 1048576) (by omega) with hzc1 | hzc1
  · rw [hzc1] at HZ1
    clear hzc1 hi1
    have C0 : Hid (Below w.heap.size w w) := sl.hid (Below.refl _ _)
    go_enter Try.func10, Try.ntmps10
    go_wp2_with fail
    refine (HZ1.out w _ HA1.out).mono ?_
    rintro e w' ⟨rfl, rfl⟩
    go_wp2
    go_ret
    exact ⟨rfl, Below.refl _ _⟩
  · have HQ1 := sl.hid (ev.small_of (by omega) (by omega) hzc1)
    have htot1 : xs1.length ≤ 1048576 := HQ1.out.len
    have hzl1 := (ev.szL_bound (n := xs1.length) (left := 1048576) (by omega) hzc1).1
    generalize br.szL (1048576) xs1.length = z1 at *
    have SP : Hid (∀ (g1 : Value) (B1 : Nat) (W : World), ev.Ops W B1 g1 xs1 → B1 ≤ W.heap.size → Calls Try.prog 43 #[.int .i64 a0, g1] W fun e w' => ∃ ao cap, e = .returned (.tuple #[.agg #[.int .i64 (ev.cbS a0 xs1), .slice ao (ev.cbW a0 xs1).length cap], .int .i64 (ev.cbC a0 xs1)]) ∧ sl.Own w' W.heap.size w'.heap.size (.slice ao (ev.cbW a0 xs1).length cap) (ev.cbW a0 xs1) ∧ Below W.heap.size W w') := sl.hid (fun g1 B1 W j1 l1 => ev.specCB a0 xs1 g1 B1 W j1 l1 HQ1.out )
    have IP : Hid (∀ (g1 : Value) (B1 : Nat) (W : World), ev.Ops W B1 g1 xs1 → B1 ≤ W.heap.size → Calls Try.prog 44 #[.int .i64 a0, g1] W fun e w' => ∃ ao cap, e = .returned (.tuple #[.agg #[.int .i64 (ev.cbS a0 xs1), .slice ao (ev.cbW a0 xs1).length cap], .int .i64 (ev.cbC a0 xs1)]) ∧ sl.Own w' W.heap.size w'.heap.size (.slice ao (ev.cbW a0 xs1).length cap) (ev.cbW a0 xs1) ∧ Below W.heap.size W w') := sl.hid (fun g1 B1 W j1 l1 => ev.implCB a0 xs1 g1 B1 W j1 l1 HQ1.out )
    have hr0 : (ev.cbW a0 xs1).length ≤ 20000 := ev.cbW_len a0 xs1
    have hr : (ev.cbW a0 xs1).length ≤ 1099511627776 := by omega
    generalize ev.cbW a0 xs1 = zr at *
    generalize ev.cbS a0 xs1 = sr at *
    generalize ev.cbC a0 xs1 = q1 at *
    clear hi1
    have C0 : Hid (Below w.heap.size w w) := sl.hid (Below.refl _ _)
    go_enter Try.func10, Try.ntmps10
    go_wp2_with fail
    refine (HZ1.out w _ HA1.out).mono ?_
    rintro e w' ⟨rfl, rfl⟩
    go_wp2_with fail
    refine (ev.toOS xs1 _ _ w HA1.out (by omega) HQ1.out).mono ?_
    rintro e W1 ⟨v1, rfl, o1, b1⟩
    have hz1 := b1.size
    have O1 := sl.hid o1
    clear o1
    have K2 := sl.hid (HA1.out.chg (sl.Chg.ofBelow (lo := 0) b1) (.inr (Nat.zero_le _)))
    have C3 := sl.hid (C0.out.trans (b1.mono (by omega)))
    clear b1 HA1 C0
    go_wp2_with fail
    refine (SP.out _ _ W1 O1.out.ops (by omega)).mono ?_
    rintro e W2 ⟨ao4, cap4, rfl, o4, b4⟩
    have hz2 := b4.size
    have O4 := sl.hid o4
    clear o4
    have K5 := sl.hid (K2.out.chg (sl.Chg.ofBelow (lo := 0) b4) (.inr (Nat.zero_le _)))
    have K6 := sl.hid (O1.out.chg (sl.Chg.ofBelow (lo := 0) b4) (.inr (.inr (Nat.zero_le _))))
    have C7 := sl.hid (C3.out.trans (b4.mono (by omega)))
    clear b4 K2 O1 C3
    have bE8 := (Below.refl W2.heap.size W2).alloc (Nat.le_refl _) (.cells #[.int .i64 sr, .slice ao4 zr.length cap4] 26)
    have hz3 : W2.heap.size + 1 ≤ (W2.alloc (.cells #[.int .i64 sr, .slice ao4 zr.length cap4] 26)).heap.size := by simp
    have Y8 : (W2.alloc (.cells #[.int .i64 sr, .slice ao4 zr.length cap4] 26)).cell? ⟨W2.heap.size, 0, none⟩ = some (.int .i64 sr) := World.cell?_alloc_at _ _ _ _ rfl
    have Z8 : (W2.alloc (.cells #[.int .i64 sr, .slice ao4 zr.length cap4] 26)).cell? ⟨W2.heap.size, 1, none⟩ = some (.slice ao4 zr.length cap4) := World.cell?_alloc_at _ _ _ _ rfl
    have K9 := sl.hid (K5.out.chg (sl.Chg.ofBelow (lo := 0) bE8) (.inr (Nat.zero_le _)))
    have K10 := sl.hid (K6.out.chg (sl.Chg.ofBelow (lo := 0) bE8) (.inr (.inr (Nat.zero_le _))))
    have K11 := sl.hid (O4.out.chg (sl.Chg.ofBelow (lo := 0) bE8) (.inr (.inr (Nat.zero_le _))))
    have C12 := sl.hid (C7.out.trans (bE8.mono (by omega)))
    clear bE8 K5 K6 O4 C7
    go_wp2_with fail
    generalize (W2.alloc (.cells #[.int .i64 sr, .slice ao4 zr.length cap4] 26)) = W3 at *
    refine (ev.toOS xs1 _ _ W3 K9.out (by omega) HQ1.out).mono ?_
    rintro e W4 ⟨v13, rfl, o13, b13⟩
    have hz4 := b13.size
    have O13 := sl.hid o13
    clear o13
    have K14 := sl.hid (K9.out.chg (sl.Chg.ofBelow (lo := 0) b13) (.inr (Nat.zero_le _)))
    have K15 := sl.hid (K11.out.chg (sl.Chg.ofBelow (lo := 0) b13) (.inr (.inr (Nat.zero_le _))))
    have C16 := sl.hid (C12.out.trans (b13.mono (by omega)))
    have X17 := (b13.cell (p := ⟨W2.heap.size, 0, none⟩) (by show W2.heap.size < W3.heap.size; omega)).trans Y8
    have X18 := (b13.cell (p := ⟨W2.heap.size, 1, none⟩) (by show W2.heap.size < W3.heap.size; omega)).trans Z8
    clear b13 K9 K11 C12 Y8 Z8
    go_wp2_with fail
    refine (IP.out _ _ W4 O13.out.ops (by omega)).mono ?_
    rintro e W5 ⟨ao19, cap19, rfl, o19, b19⟩
    have hz5 := b19.size
    have O19 := sl.hid o19
    clear o19
    have K20 := sl.hid (K14.out.chg (sl.Chg.ofBelow (lo := 0) b19) (.inr (Nat.zero_le _)))
    have K21 := sl.hid (K15.out.chg (sl.Chg.ofBelow (lo := 0) b19) (.inr (.inr (Nat.zero_le _))))
    have K22 := sl.hid (O13.out.chg (sl.Chg.ofBelow (lo := 0) b19) (.inr (.inr (Nat.zero_le _))))
    have C23 := sl.hid (C16.out.trans (b19.mono (by omega)))
    have X24 := (b19.cell (p := ⟨W2.heap.size, 0, none⟩) (by show W2.heap.size < W4.heap.size; omega)).trans X17
    have X25 := (b19.cell (p := ⟨W2.heap.size, 1, none⟩) (by show W2.heap.size < W4.heap.size; omega)).trans X18
    clear b19 K14 K15 O13 C16 X17 X18
    have bE26 := (Below.refl W5.heap.size W5).alloc (Nat.le_refl _) (.cells #[.int .i64 sr, .slice ao19 zr.length cap19] 26)
    have hz6 : W5.heap.size + 1 ≤ (W5.alloc (.cells #[.int .i64 sr, .slice ao19 zr.length cap19] 26)).heap.size := by simp
    have Y26 : (W5.alloc (.cells #[.int .i64 sr, .slice ao19 zr.length cap19] 26)).cell? ⟨W5.heap.size, 0, none⟩ = some (.int .i64 sr) := World.cell?_alloc_at _ _ _ _ rfl
    have Z26 : (W5.alloc (.cells #[.int .i64 sr, .slice ao19 zr.length cap19] 26)).cell? ⟨W5.heap.size, 1, none⟩ = some (.slice ao19 zr.length cap19) := World.cell?_alloc_at _ _ _ _ rfl
    have K27 := sl.hid (K20.out.chg (sl.Chg.ofBelow (lo := 0) bE26) (.inr (Nat.zero_le _)))
    have K28 := sl.hid (K21.out.chg (sl.Chg.ofBelow (lo := 0) bE26) (.inr (.inr (Nat.zero_le _))))
    have K29 := sl.hid (K22.out.chg (sl.Chg.ofBelow (lo := 0) bE26) (.inr (.inr (Nat.zero_le _))))
    have K30 := sl.hid (O19.out.chg (sl.Chg.ofBelow (lo := 0) bE26) (.inr (.inr (Nat.zero_le _))))
    have C31 := sl.hid (C23.out.trans (bE26.mono (by omega)))
    have X32 := (bE26.cell (p := ⟨W2.heap.size, 0, none⟩) (by show W2.heap.size < W5.heap.size; omega)).trans X24
    have X33 := (bE26.cell (p := ⟨W2.heap.size, 1, none⟩) (by show W2.heap.size < W5.heap.size; omega)).trans X25
    clear bE26 K20 K21 K22 O19 C23 X24 X25
    go_wp2_with fail
    generalize (W5.alloc (.cells #[.int .i64 sr, .slice ao19 zr.length cap19] 26)) = W6 at *
    refine (br.eqBS sr zr _ _ _ _ W6 K30.out.ints K28.out.ints hr).mono ?_
    rintro e W7 ⟨rfl, b34⟩
    have hz7 := b34.size
    have K35 := sl.hid (K27.out.chg (sl.Chg.ofBelow (lo := 0) b34) (.inr (Nat.zero_le _)))
    have K36 := sl.hid (K28.out.chg (sl.Chg.ofBelow (lo := 0) b34) (.inr (.inr (Nat.zero_le _))))
    have K37 := sl.hid (K29.out.chg (sl.Chg.ofBelow (lo := 0) b34) (.inr (.inr (Nat.zero_le _))))
    have K38 := sl.hid (K30.out.chg (sl.Chg.ofBelow (lo := 0) b34) (.inr (.inr (Nat.zero_le _))))
    have C39 := sl.hid (C31.out.trans (b34.mono (by omega)))
    have X40 := (b34.cell (p := ⟨W2.heap.size, 0, none⟩) (by show W2.heap.size < W6.heap.size; omega)).trans X32
    have X41 := (b34.cell (p := ⟨W2.heap.size, 1, none⟩) (by show W2.heap.size < W6.heap.size; omega)).trans X33
    have X42 := (b34.cell (p := ⟨W5.heap.size, 0, none⟩) (by show W5.heap.size < W6.heap.size; omega)).trans Y26
    have X43 := (b34.cell (p := ⟨W5.heap.size, 1, none⟩) (by show W5.heap.size < W6.heap.size; omega)).trans Z26
    clear b34 K27 K28 K29 K30 C31 X32 X33 Y26 Z26
    go_wp2_with fail
    refine (ev.toOS xs1 _ _ W7 K35.out (by omega) HQ1.out).mono ?_
    rintro e W8 ⟨v44, rfl, o44, b44⟩
    have hz8 := b44.size
    have O44 := sl.hid o44
    clear o44
    have K45 := sl.hid (K35.out.chg (sl.Chg.ofBelow (lo := 0) b44) (.inr (Nat.zero_le _)))
    have K46 := sl.hid (K36.out.chg (sl.Chg.ofBelow (lo := 0) b44) (.inr (.inr (Nat.zero_le _))))
    have K47 := sl.hid (K37.out.chg (sl.Chg.ofBelow (lo := 0) b44) (.inr (.inr (Nat.zero_le _))))
    have K48 := sl.hid (K38.out.chg (sl.Chg.ofBelow (lo := 0) b44) (.inr (.inr (Nat.zero_le _))))
    have C49 := sl.hid (C39.out.trans (b44.mono (by omega)))
    have X50 := (b44.cell (p := ⟨W2.heap.size, 0, none⟩) (by show W2.heap.size < W7.heap.size; omega)).trans X40
    have X51 := (b44.cell (p := ⟨W2.heap.size, 1, none⟩) (by show W2.heap.size < W7.heap.size; omega)).trans X41
    have X52 := (b44.cell (p := ⟨W5.heap.size, 0, none⟩) (by show W5.heap.size < W7.heap.size; omega)).trans X42
    have X53 := (b44.cell (p := ⟨W5.heap.size, 1, none⟩) (by show W5.heap.size < W7.heap.size; omega)).trans X43
    clear b44 K35 K36 K37 K38 C39 X40 X41 X42 X43
    go_wp2_with fail
    refine (ev.eqOS xs1 _ _ _ _ W8 K47.out.ops O44.out.ops HQ1.out).mono ?_
    rintro e W9 ⟨rfl, b54⟩
    have hz9 := b54.size
    have K55 := sl.hid (K45.out.chg (sl.Chg.ofBelow (lo := 0) b54) (.inr (Nat.zero_le _)))
    have K56 := sl.hid (K46.out.chg (sl.Chg.ofBelow (lo := 0) b54) (.inr (.inr (Nat.zero_le _))))
    have K57 := sl.hid (K47.out.chg (sl.Chg.ofBelow (lo := 0) b54) (.inr (.inr (Nat.zero_le _))))
    have K58 := sl.hid (K48.out.chg (sl.Chg.ofBelow (lo := 0) b54) (.inr (.inr (Nat.zero_le _))))
    have K59 := sl.hid (O44.out.chg (sl.Chg.ofBelow (lo := 0) b54) (.inr (.inr (Nat.zero_le _))))
    have C60 := sl.hid (C49.out.trans (b54.mono (by omega)))
    have X61 := (b54.cell (p := ⟨W2.heap.size, 0, none⟩) (by show W2.heap.size < W8.heap.size; omega)).trans X50
    have X62 := (b54.cell (p := ⟨W2.heap.size, 1, none⟩) (by show W2.heap.size < W8.heap.size; omega)).trans X51
    have X63 := (b54.cell (p := ⟨W5.heap.size, 0, none⟩) (by show W5.heap.size < W8.heap.size; omega)).trans X52
    have X64 := (b54.cell (p := ⟨W5.heap.size, 1, none⟩) (by show W5.heap.size < W8.heap.size; omega)).trans X53
    clear b54 K45 K46 K47 K48 O44 C49 X50 X51 X52 X53
    go_wp2_with fail
    refine (ev.markOS xs1 _ _ _ (1) W9 K57.out HQ1.out (by omega) (by omega)).mono ?_
    rintro e W10 ⟨rfl, o65, c65⟩
    have hz10 := c65.size
    have O65 := sl.hid o65
    clear o65 K57
    have K66 := sl.hid (K55.out.chg c65 (by omega))
    have K67 := sl.hid (K56.out.chg c65 (by omega))
    have K68 := sl.hid (K58.out.chg c65 (by omega))
    have C69 := sl.hid (C60.out.trans (c65.below (by omega) (by omega)))
    have X70 := (World.cell?_of_block (w := W9) (w' := W10) (a := ⟨W2.heap.size, 0, none⟩) (c65.block (W2.heap.size) (by omega) (by omega))).trans X61
    have X71 := (World.cell?_of_block (w := W9) (w' := W10) (a := ⟨W2.heap.size, 1, none⟩) (c65.block (W2.heap.size) (by omega) (by omega))).trans X62
    have X72 := (World.cell?_of_block (w := W9) (w' := W10) (a := ⟨W5.heap.size, 0, none⟩) (c65.block (W5.heap.size) (by omega) (by omega))).trans X63
    have X73 := (World.cell?_of_block (w := W9) (w' := W10) (a := ⟨W5.heap.size, 1, none⟩) (c65.block (W5.heap.size) (by omega) (by omega))).trans X64
    clear c65 K55 K56 K58 C60 X61 X62 X63 X64
    go_wp2_with fail
    refine (br.eqBS sr zr _ _ _ _ W10 K68.out.ints K67.out.ints hr).mono ?_
    rintro e W11 ⟨rfl, b74⟩
    have hz11 := b74.size
    have K75 := sl.hid (K66.out.chg (sl.Chg.ofBelow (lo := 0) b74) (.inr (Nat.zero_le _)))
    have K76 := sl.hid (K67.out.chg (sl.Chg.ofBelow (lo := 0) b74) (.inr (.inr (Nat.zero_le _))))
    have K77 := sl.hid (K68.out.chg (sl.Chg.ofBelow (lo := 0) b74) (.inr (.inr (Nat.zero_le _))))
    have C78 := sl.hid (C69.out.trans (b74.mono (by omega)))
    have X79 := (b74.cell (p := ⟨W2.heap.size, 0, none⟩) (by show W2.heap.size < W10.heap.size; omega)).trans X70
    have X80 := (b74.cell (p := ⟨W2.heap.size, 1, none⟩) (by show W2.heap.size < W10.heap.size; omega)).trans X71
    have X81 := (b74.cell (p := ⟨W5.heap.size, 0, none⟩) (by show W5.heap.size < W10.heap.size; omega)).trans X72
    have X82 := (b74.cell (p := ⟨W5.heap.size, 1, none⟩) (by show W5.heap.size < W10.heap.size; omega)).trans X73
    clear b74 K66 K67 K68 C69 X70 X71 X72 X73
    go_wp2_with fail
    refine (br.markB _ zr _ _ _ (1) W11 K77.out hr (by omega) (by omega)).mono ?_
    rintro e W12 ⟨rfl, o83, c83⟩
    have hz12 := c83.size
    have O83 := sl.hid o83
    clear o83 K77
    have K84 := sl.hid (K75.out.chg c83 (by omega))
    have K85 := sl.hid (K76.out.chg c83 (by omega))
    have C86 := sl.hid (C78.out.trans (c83.below (by omega) (by omega)))
    have X87 := (World.cell?_of_block (w := W11) (w' := W12) (a := ⟨W2.heap.size, 0, none⟩) (c83.block (W2.heap.size) (by omega) (by omega))).trans X79
    have X88 := (World.cell?_of_block (w := W11) (w' := W12) (a := ⟨W2.heap.size, 1, none⟩) (c83.block (W2.heap.size) (by omega) (by omega))).trans X80
    have X89 := (World.cell?_of_block (w := W11) (w' := W12) (a := ⟨W5.heap.size, 0, none⟩) (c83.block (W5.heap.size) (by omega) (by omega))).trans X81
    have X90 := (World.cell?_of_block (w := W11) (w' := W12) (a := ⟨W5.heap.size, 1, none⟩) (c83.block (W5.heap.size) (by omega) (by omega))).trans X82
    clear c83 K75 K76 C78 X79 X80 X81 X82
    go_wp2_with fail
    refine (br.heldB _ zr.length _ _ 1 W12 O83.out.ints hr (by omega) (by omega)).mono ?_
    rintro e W13 ⟨rfl, b91⟩
    have hz13 := b91.size
    have K92 := sl.hid (K84.out.chg (sl.Chg.ofBelow (lo := 0) b91) (.inr (Nat.zero_le _)))
    have K93 := sl.hid (K85.out.chg (sl.Chg.ofBelow (lo := 0) b91) (.inr (.inr (Nat.zero_le _))))
    have K94 := sl.hid (O83.out.chg (sl.Chg.ofBelow (lo := 0) b91) (.inr (.inr (Nat.zero_le _))))
    have C95 := sl.hid (C86.out.trans (b91.mono (by omega)))
    have X96 := (b91.cell (p := ⟨W2.heap.size, 0, none⟩) (by show W2.heap.size < W12.heap.size; omega)).trans X87
    have X97 := (b91.cell (p := ⟨W2.heap.size, 1, none⟩) (by show W2.heap.size < W12.heap.size; omega)).trans X88
    have X98 := (b91.cell (p := ⟨W5.heap.size, 0, none⟩) (by show W5.heap.size < W12.heap.size; omega)).trans X89
    have X99 := (b91.cell (p := ⟨W5.heap.size, 1, none⟩) (by show W5.heap.size < W12.heap.size; omega)).trans X90
    clear b91 K84 K85 O83 C86 X87 X88 X89 X90
    go_wp2_with fail
    refine (ev.toOS xs1 _ _ W13 K92.out (by omega) HQ1.out).mono ?_
    rintro e W14 ⟨v100, rfl, o100, b100⟩
    have hz14 := b100.size
    have O100 := sl.hid o100
    clear o100
    have K101 := sl.hid (K92.out.chg (sl.Chg.ofBelow (lo := 0) b100) (.inr (Nat.zero_le _)))
    have K102 := sl.hid (K93.out.chg (sl.Chg.ofBelow (lo := 0) b100) (.inr (.inr (Nat.zero_le _))))
    have K103 := sl.hid (K94.out.chg (sl.Chg.ofBelow (lo := 0) b100) (.inr (.inr (Nat.zero_le _))))
    have C104 := sl.hid (C95.out.trans (b100.mono (by omega)))
    have X105 := (b100.cell (p := ⟨W2.heap.size, 0, none⟩) (by show W2.heap.size < W13.heap.size; omega)).trans X96
    have X106 := (b100.cell (p := ⟨W2.heap.size, 1, none⟩) (by show W2.heap.size < W13.heap.size; omega)).trans X97
    have X107 := (b100.cell (p := ⟨W5.heap.size, 0, none⟩) (by show W5.heap.size < W13.heap.size; omega)).trans X98
    have X108 := (b100.cell (p := ⟨W5.heap.size, 1, none⟩) (by show W5.heap.size < W13.heap.size; omega)).trans X99
    clear b100 K92 K93 K94 C95 X96 X97 X98 X99
    go_wp2_with fail
    refine (IP.out _ _ W14 O100.out.ops (by omega)).mono ?_
    rintro e W15 ⟨ao109, cap109, rfl, o109, b109⟩
    have hz15 := b109.size
    have O109 := sl.hid o109
    clear o109
    have K110 := sl.hid (K101.out.chg (sl.Chg.ofBelow (lo := 0) b109) (.inr (Nat.zero_le _)))
    have K111 := sl.hid (K102.out.chg (sl.Chg.ofBelow (lo := 0) b109) (.inr (.inr (Nat.zero_le _))))
    have K112 := sl.hid (K103.out.chg (sl.Chg.ofBelow (lo := 0) b109) (.inr (.inr (Nat.zero_le _))))
    have K113 := sl.hid (O100.out.chg (sl.Chg.ofBelow (lo := 0) b109) (.inr (.inr (Nat.zero_le _))))
    have C114 := sl.hid (C104.out.trans (b109.mono (by omega)))
    have X115 := (b109.cell (p := ⟨W2.heap.size, 0, none⟩) (by show W2.heap.size < W14.heap.size; omega)).trans X105
    have X116 := (b109.cell (p := ⟨W2.heap.size, 1, none⟩) (by show W2.heap.size < W14.heap.size; omega)).trans X106
    have X117 := (b109.cell (p := ⟨W5.heap.size, 0, none⟩) (by show W5.heap.size < W14.heap.size; omega)).trans X107
    have X118 := (b109.cell (p := ⟨W5.heap.size, 1, none⟩) (by show W5.heap.size < W14.heap.size; omega)).trans X108
    clear b109 K101 K102 K103 O100 C104 X105 X106 X107 X108
    have bE119 := (Below.refl W15.heap.size W15).alloc (Nat.le_refl _) (.cells #[.int .i64 sr, .slice ao109 zr.length cap109] 26)
    have hz16 : W15.heap.size + 1 ≤ (W15.alloc (.cells #[.int .i64 sr, .slice ao109 zr.length cap109] 26)).heap.size := by simp
    have Y119 : (W15.alloc (.cells #[.int .i64 sr, .slice ao109 zr.length cap109] 26)).cell? ⟨W15.heap.size, 0, none⟩ = some (.int .i64 sr) := World.cell?_alloc_at _ _ _ _ rfl
    have Z119 : (W15.alloc (.cells #[.int .i64 sr, .slice ao109 zr.length cap109] 26)).cell? ⟨W15.heap.size, 1, none⟩ = some (.slice ao109 zr.length cap109) := World.cell?_alloc_at _ _ _ _ rfl
    have K120 := sl.hid (K110.out.chg (sl.Chg.ofBelow (lo := 0) bE119) (.inr (Nat.zero_le _)))
    have K121 := sl.hid (K111.out.chg (sl.Chg.ofBelow (lo := 0) bE119) (.inr (.inr (Nat.zero_le _))))
    have K122 := sl.hid (K112.out.chg (sl.Chg.ofBelow (lo := 0) bE119) (.inr (.inr (Nat.zero_le _))))
    have K123 := sl.hid (K113.out.chg (sl.Chg.ofBelow (lo := 0) bE119) (.inr (.inr (Nat.zero_le _))))
    have K124 := sl.hid (O109.out.chg (sl.Chg.ofBelow (lo := 0) bE119) (.inr (.inr (Nat.zero_le _))))
    have C125 := sl.hid (C114.out.trans (bE119.mono (by omega)))
    have X126 := (bE119.cell (p := ⟨W2.heap.size, 0, none⟩) (by show W2.heap.size < W15.heap.size; omega)).trans X115
    have X127 := (bE119.cell (p := ⟨W2.heap.size, 1, none⟩) (by show W2.heap.size < W15.heap.size; omega)).trans X116
    have X128 := (bE119.cell (p := ⟨W5.heap.size, 0, none⟩) (by show W5.heap.size < W15.heap.size; omega)).trans X117
    have X129 := (bE119.cell (p := ⟨W5.heap.size, 1, none⟩) (by show W5.heap.size < W15.heap.size; omega)).trans X118
    clear bE119 K110 K111 K112 K113 O109 C114 X115 X116 X117 X118
    go_wp2_with fail
    generalize (W15.alloc (.cells #[.int .i64 sr, .slice ao109 zr.length cap109] 26)) = W16 at *
    refine (br.eqBS sr zr _ _ _ _ W16 K124.out.ints K121.out.ints hr).mono ?_
    rintro e W17 ⟨rfl, b130⟩
    have hz17 := b130.size
    have K131 := sl.hid (K120.out.chg (sl.Chg.ofBelow (lo := 0) b130) (.inr (Nat.zero_le _)))
    have K132 := sl.hid (K121.out.chg (sl.Chg.ofBelow (lo := 0) b130) (.inr (.inr (Nat.zero_le _))))
    have K133 := sl.hid (K122.out.chg (sl.Chg.ofBelow (lo := 0) b130) (.inr (.inr (Nat.zero_le _))))
    have K134 := sl.hid (K124.out.chg (sl.Chg.ofBelow (lo := 0) b130) (.inr (.inr (Nat.zero_le _))))
    have C135 := sl.hid (C125.out.trans (b130.mono (by omega)))
    have X136 := (b130.cell (p := ⟨W2.heap.size, 0, none⟩) (by show W2.heap.size < W16.heap.size; omega)).trans X126
    have X137 := (b130.cell (p := ⟨W2.heap.size, 1, none⟩) (by show W2.heap.size < W16.heap.size; omega)).trans X127
    have X138 := (b130.cell (p := ⟨W5.heap.size, 0, none⟩) (by show W5.heap.size < W16.heap.size; omega)).trans X128
    have X139 := (b130.cell (p := ⟨W5.heap.size, 1, none⟩) (by show W5.heap.size < W16.heap.size; omega)).trans X129
    have X140 := (b130.cell (p := ⟨W15.heap.size, 0, none⟩) (by show W15.heap.size < W16.heap.size; omega)).trans Y119
    have X141 := (b130.cell (p := ⟨W15.heap.size, 1, none⟩) (by show W15.heap.size < W16.heap.size; omega)).trans Z119
    clear b130 K120 K121 K122 K124 C125 X126 X127 X128 X129 Y119 Z119
    go_wp2_with fail
    refine (br.heldB _ zr.length _ _ 1 W17 K133.out.ints hr (by omega) (by omega)).mono ?_
    rintro e W18 ⟨rfl, b142⟩
    have hz18 := b142.size
    have K143 := sl.hid (K131.out.chg (sl.Chg.ofBelow (lo := 0) b142) (.inr (Nat.zero_le _)))
    have K144 := sl.hid (K132.out.chg (sl.Chg.ofBelow (lo := 0) b142) (.inr (.inr (Nat.zero_le _))))
    have K145 := sl.hid (K133.out.chg (sl.Chg.ofBelow (lo := 0) b142) (.inr (.inr (Nat.zero_le _))))
    have K146 := sl.hid (K134.out.chg (sl.Chg.ofBelow (lo := 0) b142) (.inr (.inr (Nat.zero_le _))))
    have C147 := sl.hid (C135.out.trans (b142.mono (by omega)))
    have X148 := (b142.cell (p := ⟨W2.heap.size, 0, none⟩) (by show W2.heap.size < W17.heap.size; omega)).trans X136
    have X149 := (b142.cell (p := ⟨W2.heap.size, 1, none⟩) (by show W2.heap.size < W17.heap.size; omega)).trans X137
    have X150 := (b142.cell (p := ⟨W5.heap.size, 0, none⟩) (by show W5.heap.size < W17.heap.size; omega)).trans X138
    have X151 := (b142.cell (p := ⟨W5.heap.size, 1, none⟩) (by show W5.heap.size < W17.heap.size; omega)).trans X139
    have X152 := (b142.cell (p := ⟨W15.heap.size, 0, none⟩) (by show W15.heap.size < W17.heap.size; omega)).trans X140
    have X153 := (b142.cell (p := ⟨W15.heap.size, 1, none⟩) (by show W15.heap.size < W17.heap.size; omega)).trans X141
    clear b142 K131 K132 K133 K134 C135 X136 X137 X138 X139 X140 X141
    go_wp2
    go_ret
    exact ⟨rfl, C147.out⟩
end Go.Proofs.Ytlhpipcmebmpdaa.wcrossingBraid
