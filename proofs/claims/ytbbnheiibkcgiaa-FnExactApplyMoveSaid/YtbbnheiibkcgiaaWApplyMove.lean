/-
  The walk of the law of ApplyMove.
-/
import Derived.Test.YtbbnheiibkcgiaaAm3
import Derived.Test.YtbbnheiibkcgiaaOz0
import Derived.Test.YtbbnheiibkcgiaaL5
import Derived.Deep.RegionHeld3
import Derived.Deep.CutRange
namespace Go.Proofs.Ytbbnheiibkcgiaa.wapplyMove
open Go.RowKit
set_option linter.unusedVariables false

set_option maxRecDepth 100000 in
set_option maxHeartbeats 20000000 in
theorem law (f0 : Value) (xs0 : List Int) (a1 c1 : Int) (w : World) (hi0 : l5.IntsIn w f0 xs0) :
    Calls Try.prog 6 #[f0, .agg #[.int .i64 a1, .int .i64 c1]] w fun e w' => e = .returned (.bool true) ∧ Below w.heap.size w w' := by
  have HA0 := sl.hid hi0.rd
  obtain ⟨b0, cap0, hv0⟩ := br.ints_val hi0.rd
  by_cases hbig0 : 1048576 < xs0.length
  · have hl0 : decide ((1048576 : Int) < (xs0.length : Int)) = true := by simp; omega
    clear hbig0 HA0
    have hlen0 := hi0.len
    generalize xs0.length = n0 at *
    subst hv0
    go_enter Try.func6, Try.ntmps6
    go_wp2
    go_ret
    exact ⟨rfl, (Below.refl _ _).alloc (Nat.le_refl _) _⟩
  · have hl0 : decide ((1048576 : Int) < (xs0.length : Int)) = false := by simp; omega
    have HQ0 : Hid (l5.Small xs0) := sl.hid ⟨by omega⟩
    have hn0 : xs0.length ≤ 1099511627776 := by omega
    have hm0 : xs0.length ≤ 1048576 := by omega
    have SP : Hid (∀ (g0 : Value) (B0 : Nat) (W : World), sl.Ints W B0 g0 xs0 → B0 ≤ W.heap.size → Calls Try.prog 18 #[g0, .agg #[.int .i64 a1, .int .i64 c1]] W fun e w' => ∃ v', e = .returned (.tuple #[v', .int .i64 (mo.amC xs0 a1 c1)]) ∧ sl.Own w' W.heap.size w'.heap.size v' (mo.amW xs0 a1 c1) ∧ Below W.heap.size W w') := sl.hid (fun g0 B0 W  j0 l0 => mo.specAM xs0 a1 c1 g0 B0 W j0 l0 HQ0.out )
    have IP : Hid (∀ (g0 : Value) (B0 : Nat) (W : World), sl.Ints W B0 g0 xs0 → B0 ≤ W.heap.size → Calls Try.prog 20 #[g0, .agg #[.int .i64 a1, .int .i64 c1]] W fun e w' => ∃ v', e = .returned (.tuple #[v', .int .i64 (mo.amC xs0 a1 c1)]) ∧ sl.Own w' W.heap.size w'.heap.size v' (mo.amW xs0 a1 c1) ∧ Below W.heap.size W w') := sl.hid (fun g0 B0 W  j0 l0 => mo.implAM xs0 a1 c1 g0 B0 W j0 l0 HQ0.out )
    have hr0 : (mo.amW xs0 a1 c1).length ≤ 20000 := Nat.le_trans (mo.amW_len xs0 a1 c1) (by omega)
    have hr : (mo.amW xs0 a1 c1).length ≤ 1099511627776 := by omega
    generalize mo.amW xs0 a1 c1 = zr at *
    generalize mo.amC xs0 a1 c1 = q1 at *
    clear hi0
    subst hv0
    have C0 : Hid (Below w.heap.size w w) := sl.hid (Below.refl _ _)
    go_enter Try.func6, Try.ntmps6
    have bE1 := (Below.refl w.heap.size w).alloc (Nat.le_refl _) (.cells #[.int .i64 a1, .int .i64 c1] 30)
    have hz1 : w.heap.size + 1 ≤ (w.alloc (.cells #[.int .i64 a1, .int .i64 c1] 30)).heap.size := by simp
    have Y1 : (w.alloc (.cells #[.int .i64 a1, .int .i64 c1] 30)).cell? ⟨w.heap.size, 0, none⟩ = some (.int .i64 a1) := World.cell?_alloc_at _ _ _ _ rfl
    have Z1 : (w.alloc (.cells #[.int .i64 a1, .int .i64 c1] 30)).cell? ⟨w.heap.size, 1, none⟩ = some (.int .i64 c1) := World.cell?_alloc_at _ _ _ _ rfl
    have K2 := sl.hid (HA0.out.chg (sl.Chg.ofBelow (lo := 0) bE1) (.inr (Nat.zero_le _)))
    have C3 := sl.hid (C0.out.trans (bE1.mono (by omega)))
    clear bE1 HA0 C0
    go_upto_region 3 with fail
    generalize (w.alloc (.cells #[.int .i64 a1, .int .i64 c1] 30)) = W1 at *
    go_cut [5, 6] from 18 to 25 (fun s5 s6 wx => s6 = .int .i64 q1 ∧ sl.Own wx W1.heap.size wx.heap.size s5 zr ∧ Below W1.heap.size W1 wx)
    case first =>
      have HTo := sl.hid (fun W (b : Below W1.heap.size W1 W) => sl.toI xs0 _ _ W (K2.out.chg (sl.Chg.ofBelow (lo := 0) b) (.inr (Nat.zero_le _))) (by have := b.size; omega) (by have := HQ0.out.len; omega))
      have bD := sl.hid ((Below.refl W1.heap.size W1).drew)
      go_region_held3 (fun w' => w'.cell? ⟨w.heap.size, 0, none⟩ = some (.int .i64 a1) ∧ w'.cell? ⟨w.heap.size, 1, none⟩ = some (.int .i64 c1)) (go_keep)
        (first
        | (go_at_call 18
           with_reducible refine (SP.out _ _ _ HV3.out.ints (by omega)).mono ?_
           rintro e w4 ⟨v4, rfl, o4, b4⟩
           have HR4 := sl.hid (o4.lo HB3.out.size)
           have HB4 := sl.hid (HB3.out.trans (b4.mono HB3.out.size))
           have p0 := (b4.cell (p := ⟨w.heap.size, 0, none⟩) (by show w.heap.size < w3.heap.size; omega)).trans n0
           have p1 := (b4.cell (p := ⟨w.heap.size, 1, none⟩) (by show w.heap.size < w3.heap.size; omega)).trans n1
           clear o4 b4 n0 n1)
        | (go_at_call 19
           have hchk := HVA
           with_reducible refine (mo.toMv a1 c1 _).mono ?_
           rintro e w3 ⟨rfl, b3⟩
           have HV3 := sl.hid (HVA.out.chg (sl.Chg.ofBelow (lo := 0) b3) (.inr (.inr (Nat.zero_le _))))
           have HB3 := sl.hid (HB2.out.trans (b3.mono HB2.out.size))
           have hz3 := HB3.out.size
           have hz4 := b3.size
           have n0 := (b3.cell (p := ⟨w.heap.size, 0, none⟩) (by show w.heap.size < w2.heap.size; omega)).trans m0
           have n1 := (b3.cell (p := ⟨w.heap.size, 1, none⟩) (by show w.heap.size < w2.heap.size; omega)).trans m1
           clear b3 m0 m1 hchk HVA)
        | (go_at_call 15
           have hchk := HMB
           with_reducible refine (HTo.out _ HB2.out).mono ?_
           rintro e w3 ⟨v3, rfl, o3, b3⟩
           have HV3 := sl.hid (o3.lo HB2.out.size)
           have HB3 := sl.hid (HB2.out.trans (b3.mono HB2.out.size))
           have hz3 := HB3.out.size
           have hz4 := b3.size
           have n0 := (b3.cell (p := ⟨w.heap.size, 0, none⟩) (by show w.heap.size < w2.heap.size; omega)).trans m0
           have n1 := (b3.cell (p := ⟨w.heap.size, 1, none⟩) (by show w.heap.size < w2.heap.size; omega)).trans m1
           clear b3 o3 m0 m1 hchk HMB)
        | (go_at_call 15
           with_reducible refine (HTo.out _ bD.out).mono ?_
           rintro e w2 ⟨v3, rfl, o3, b2⟩
           have HVA := sl.hid (show sl.Own w2 W1.heap.size w2.heap.size v3 xs0 from o3)
           have HB2 := sl.hid (bD.out.trans b2)
           have hz2 := HB2.out.size
           have m0 := (b2.cell (p := ⟨w.heap.size, 0, none⟩) (by show w.heap.size < W1.heap.size; omega)).trans Y1
           have m1 := (b2.cell (p := ⟨w.heap.size, 1, none⟩) (by show w.heap.size < W1.heap.size; omega)).trans Z1
           clear b2 o3 Y1 Z1)
        | (go_at_call 19
           with_reducible refine (mo.toMv a1 c1 _).mono ?_
           rintro e w2 ⟨rfl, b2⟩
           have HMB := sl.hid True.intro
           have HB2 := sl.hid (bD.out.trans b2)
           have hz2 := HB2.out.size
           have m0 := (b2.cell (p := ⟨w.heap.size, 0, none⟩) (by show w.heap.size < W1.heap.size; omega)).trans Y1
           have m1 := (b2.cell (p := ⟨w.heap.size, 1, none⟩) (by show w.heap.size < W1.heap.size; omega)).trans Z1
           clear b2 Y1 Z1))
      all_goals
        go_wp2_with fail
        go_meet
        exact ⟨rfl, HR4.out, HB4.out⟩
    case rest =>
      obtain ⟨rfl, o4, b4⟩ := hcut
      generalize wc = W2 at *
      have hz2 := b4.size
      have O4 := sl.hid o4
      clear o4
      have K5 := sl.hid (K2.out.chg (sl.Chg.ofBelow (lo := 0) b4) (.inr (Nat.zero_le _)))
      have C6 := sl.hid (C3.out.trans (b4.mono (by omega)))
      have X7 := (b4.cell (p := ⟨w.heap.size, 0, none⟩) (by show w.heap.size < W1.heap.size; omega)).trans Y1
      have X8 := (b4.cell (p := ⟨w.heap.size, 1, none⟩) (by show w.heap.size < W1.heap.size; omega)).trans Z1
      clear b4 K2 C3 Y1 Z1
      go_wp2_with fail
      refine (sl.toI xs0 _ _ W2 K5.out (by omega) (by have := HQ0.out.len; omega)).mono ?_
      rintro e W3 ⟨v9, rfl, o9, b9⟩
      have hz3 := b9.size
      have O9 := sl.hid o9
      clear o9
      have K10 := sl.hid (K5.out.chg (sl.Chg.ofBelow (lo := 0) b9) (.inr (Nat.zero_le _)))
      have K11 := sl.hid (O4.out.chg (sl.Chg.ofBelow (lo := 0) b9) (.inr (.inr (Nat.zero_le _))))
      have C12 := sl.hid (C6.out.trans (b9.mono (by omega)))
      have X13 := (b9.cell (p := ⟨w.heap.size, 0, none⟩) (by show w.heap.size < W2.heap.size; omega)).trans X7
      have X14 := (b9.cell (p := ⟨w.heap.size, 1, none⟩) (by show w.heap.size < W2.heap.size; omega)).trans X8
      clear b9 K5 O4 C6 X7 X8
      go_wp2_with fail
      refine (mo.toMv a1 c1 W3).mono ?_
      rintro e W4 ⟨rfl, b15⟩
      have hz4 := b15.size
      have K16 := sl.hid (K10.out.chg (sl.Chg.ofBelow (lo := 0) b15) (.inr (Nat.zero_le _)))
      have K17 := sl.hid (K11.out.chg (sl.Chg.ofBelow (lo := 0) b15) (.inr (.inr (Nat.zero_le _))))
      have K18 := sl.hid (O9.out.chg (sl.Chg.ofBelow (lo := 0) b15) (.inr (.inr (Nat.zero_le _))))
      have C19 := sl.hid (C12.out.trans (b15.mono (by omega)))
      have X20 := (b15.cell (p := ⟨w.heap.size, 0, none⟩) (by show w.heap.size < W3.heap.size; omega)).trans X13
      have X21 := (b15.cell (p := ⟨w.heap.size, 1, none⟩) (by show w.heap.size < W3.heap.size; omega)).trans X14
      clear b15 K10 K11 O9 C12 X13 X14
      go_wp2_with fail
      refine (IP.out _ _ W4 K18.out.ints (by omega)).mono ?_
      rintro e W5 ⟨v22, rfl, o22, b22⟩
      have hz5 := b22.size
      have O22 := sl.hid o22
      clear o22
      have K23 := sl.hid (K16.out.chg (sl.Chg.ofBelow (lo := 0) b22) (.inr (Nat.zero_le _)))
      have K24 := sl.hid (K17.out.chg (sl.Chg.ofBelow (lo := 0) b22) (.inr (.inr (Nat.zero_le _))))
      have K25 := sl.hid (K18.out.chg (sl.Chg.ofBelow (lo := 0) b22) (.inr (.inr (Nat.zero_le _))))
      have C26 := sl.hid (C19.out.trans (b22.mono (by omega)))
      have X27 := (b22.cell (p := ⟨w.heap.size, 0, none⟩) (by show w.heap.size < W4.heap.size; omega)).trans X20
      have X28 := (b22.cell (p := ⟨w.heap.size, 1, none⟩) (by show w.heap.size < W4.heap.size; omega)).trans X21
      clear b22 K16 K17 K18 C19 X20 X21
      go_wp2_with fail
      refine (sl.eqS zr _ _ _ _ W5 O22.out.ints K24.out.ints hr).mono ?_
      rintro e W6 ⟨rfl, b29⟩
      have hz6 := b29.size
      have K30 := sl.hid (K23.out.chg (sl.Chg.ofBelow (lo := 0) b29) (.inr (Nat.zero_le _)))
      have K31 := sl.hid (K24.out.chg (sl.Chg.ofBelow (lo := 0) b29) (.inr (.inr (Nat.zero_le _))))
      have K32 := sl.hid (K25.out.chg (sl.Chg.ofBelow (lo := 0) b29) (.inr (.inr (Nat.zero_le _))))
      have K33 := sl.hid (O22.out.chg (sl.Chg.ofBelow (lo := 0) b29) (.inr (.inr (Nat.zero_le _))))
      have C34 := sl.hid (C26.out.trans (b29.mono (by omega)))
      have X35 := (b29.cell (p := ⟨w.heap.size, 0, none⟩) (by show w.heap.size < W5.heap.size; omega)).trans X27
      have X36 := (b29.cell (p := ⟨w.heap.size, 1, none⟩) (by show w.heap.size < W5.heap.size; omega)).trans X28
      clear b29 K23 K24 K25 O22 C26 X27 X28
      go_wp2_with fail
      refine (sl.toI xs0 _ _ W6 K30.out (by omega) (by have := HQ0.out.len; omega)).mono ?_
      rintro e W7 ⟨v37, rfl, o37, b37⟩
      have hz7 := b37.size
      have O37 := sl.hid o37
      clear o37
      have K38 := sl.hid (K30.out.chg (sl.Chg.ofBelow (lo := 0) b37) (.inr (Nat.zero_le _)))
      have K39 := sl.hid (K31.out.chg (sl.Chg.ofBelow (lo := 0) b37) (.inr (.inr (Nat.zero_le _))))
      have K40 := sl.hid (K32.out.chg (sl.Chg.ofBelow (lo := 0) b37) (.inr (.inr (Nat.zero_le _))))
      have K41 := sl.hid (K33.out.chg (sl.Chg.ofBelow (lo := 0) b37) (.inr (.inr (Nat.zero_le _))))
      have C42 := sl.hid (C34.out.trans (b37.mono (by omega)))
      have X43 := (b37.cell (p := ⟨w.heap.size, 0, none⟩) (by show w.heap.size < W6.heap.size; omega)).trans X35
      have X44 := (b37.cell (p := ⟨w.heap.size, 1, none⟩) (by show w.heap.size < W6.heap.size; omega)).trans X36
      clear b37 K30 K31 K32 K33 C34 X35 X36
      go_wp2_with fail
      refine (sl.eqS xs0 _ _ _ _ W7 K40.out.ints O37.out.ints (by have := HQ0.out.len; omega)).mono ?_
      rintro e W8 ⟨rfl, b45⟩
      have hz8 := b45.size
      have K46 := sl.hid (K38.out.chg (sl.Chg.ofBelow (lo := 0) b45) (.inr (Nat.zero_le _)))
      have K47 := sl.hid (K39.out.chg (sl.Chg.ofBelow (lo := 0) b45) (.inr (.inr (Nat.zero_le _))))
      have K48 := sl.hid (K40.out.chg (sl.Chg.ofBelow (lo := 0) b45) (.inr (.inr (Nat.zero_le _))))
      have K49 := sl.hid (K41.out.chg (sl.Chg.ofBelow (lo := 0) b45) (.inr (.inr (Nat.zero_le _))))
      have K50 := sl.hid (O37.out.chg (sl.Chg.ofBelow (lo := 0) b45) (.inr (.inr (Nat.zero_le _))))
      have C51 := sl.hid (C42.out.trans (b45.mono (by omega)))
      have X52 := (b45.cell (p := ⟨w.heap.size, 0, none⟩) (by show w.heap.size < W7.heap.size; omega)).trans X43
      have X53 := (b45.cell (p := ⟨w.heap.size, 1, none⟩) (by show w.heap.size < W7.heap.size; omega)).trans X44
      clear b45 K38 K39 K40 K41 O37 C42 X43 X44
      go_wp2_with fail
      refine (sl.markI xs0 _ _ _ (1) W8 K48.out hn0 (by omega) (by omega)).mono ?_
      rintro e W9 ⟨rfl, o54, c54⟩
      have hz9 := c54.size
      have O54 := sl.hid o54
      clear o54 K48
      have K55 := sl.hid (K46.out.chg c54 (by omega))
      have K56 := sl.hid (K47.out.chg c54 (by omega))
      have K57 := sl.hid (K49.out.chg c54 (by omega))
      have C58 := sl.hid (C51.out.trans (c54.below (by omega) (by omega)))
      have X59 := (World.cell?_of_block (w := W8) (w' := W9) (a := ⟨w.heap.size, 0, none⟩) (c54.block (w.heap.size) (by omega) (by omega))).trans X52
      have X60 := (World.cell?_of_block (w := W8) (w' := W9) (a := ⟨w.heap.size, 1, none⟩) (c54.block (w.heap.size) (by omega) (by omega))).trans X53
      clear c54 K46 K47 K49 C51 X52 X53
      go_wp2_with fail
      refine (sl.eqS zr _ _ _ _ W9 K57.out.ints K56.out.ints hr).mono ?_
      rintro e W10 ⟨rfl, b61⟩
      have hz10 := b61.size
      have K62 := sl.hid (K55.out.chg (sl.Chg.ofBelow (lo := 0) b61) (.inr (Nat.zero_le _)))
      have K63 := sl.hid (K56.out.chg (sl.Chg.ofBelow (lo := 0) b61) (.inr (.inr (Nat.zero_le _))))
      have K64 := sl.hid (K57.out.chg (sl.Chg.ofBelow (lo := 0) b61) (.inr (.inr (Nat.zero_le _))))
      have C65 := sl.hid (C58.out.trans (b61.mono (by omega)))
      have X66 := (b61.cell (p := ⟨w.heap.size, 0, none⟩) (by show w.heap.size < W9.heap.size; omega)).trans X59
      have X67 := (b61.cell (p := ⟨w.heap.size, 1, none⟩) (by show w.heap.size < W9.heap.size; omega)).trans X60
      clear b61 K55 K56 K57 C58 X59 X60
      go_wp2_with fail
      refine (sl.markI zr _ _ _ (1) W10 K64.out hr (by omega) (by omega)).mono ?_
      rintro e W11 ⟨rfl, o68, c68⟩
      have hz11 := c68.size
      have O68 := sl.hid o68
      clear o68 K64
      have K69 := sl.hid (K62.out.chg c68 (by omega))
      have K70 := sl.hid (K63.out.chg c68 (by omega))
      have C71 := sl.hid (C65.out.trans (c68.below (by omega) (by omega)))
      have X72 := (World.cell?_of_block (w := W10) (w' := W11) (a := ⟨w.heap.size, 0, none⟩) (c68.block (w.heap.size) (by omega) (by omega))).trans X66
      have X73 := (World.cell?_of_block (w := W10) (w' := W11) (a := ⟨w.heap.size, 1, none⟩) (c68.block (w.heap.size) (by omega) (by omega))).trans X67
      clear c68 K62 K63 C65 X66 X67
      go_wp2_with fail
      refine (sl.heldI zr.length _ _ 1 W11 O68.out.ints hr (by omega) (by omega)).mono ?_
      rintro e W12 ⟨rfl, rfl⟩
      go_upto_region 22 with fail
      go_cut [13, 14] from 76 to 83 (fun s5 s6 wx => s6 = .int .i64 q1 ∧ sl.Own wx W11.heap.size wx.heap.size s5 zr ∧ Below W11.heap.size W11 wx)
      case first =>
        have HTo := sl.hid (fun W (b : Below W11.heap.size W11 W) => sl.toI xs0 _ _ W (K69.out.chg (sl.Chg.ofBelow (lo := 0) b) (.inr (Nat.zero_le _))) (by have := b.size; omega) (by have := HQ0.out.len; omega))
        have bD := sl.hid ((Below.refl W11.heap.size W11).drew)
        go_region_held3 (fun w' => w'.cell? ⟨w.heap.size, 0, none⟩ = some (.int .i64 a1) ∧ w'.cell? ⟨w.heap.size, 1, none⟩ = some (.int .i64 c1)) (go_keep)
          (first
          | (go_at_call 20
             with_reducible refine (IP.out _ _ _ HV3.out.ints (by omega)).mono ?_
             rintro e w4 ⟨v4, rfl, o4, b4⟩
             have HR4 := sl.hid (o4.lo HB3.out.size)
             have HB4 := sl.hid (HB3.out.trans (b4.mono HB3.out.size))
             have p0 := (b4.cell (p := ⟨w.heap.size, 0, none⟩) (by show w.heap.size < w3.heap.size; omega)).trans n0
             have p1 := (b4.cell (p := ⟨w.heap.size, 1, none⟩) (by show w.heap.size < w3.heap.size; omega)).trans n1
             clear o4 b4 n0 n1)
          | (go_at_call 19
             have hchk := HVA
             with_reducible refine (mo.toMv a1 c1 _).mono ?_
             rintro e w3 ⟨rfl, b3⟩
             have HV3 := sl.hid (HVA.out.chg (sl.Chg.ofBelow (lo := 0) b3) (.inr (.inr (Nat.zero_le _))))
             have HB3 := sl.hid (HB2.out.trans (b3.mono HB2.out.size))
             have hz3 := HB3.out.size
             have hz4 := b3.size
             have n0 := (b3.cell (p := ⟨w.heap.size, 0, none⟩) (by show w.heap.size < w2.heap.size; omega)).trans m0
             have n1 := (b3.cell (p := ⟨w.heap.size, 1, none⟩) (by show w.heap.size < w2.heap.size; omega)).trans m1
             clear b3 m0 m1 hchk HVA)
          | (go_at_call 15
             have hchk := HMB
             with_reducible refine (HTo.out _ HB2.out).mono ?_
             rintro e w3 ⟨v3, rfl, o3, b3⟩
             have HV3 := sl.hid (o3.lo HB2.out.size)
             have HB3 := sl.hid (HB2.out.trans (b3.mono HB2.out.size))
             have hz3 := HB3.out.size
             have hz4 := b3.size
             have n0 := (b3.cell (p := ⟨w.heap.size, 0, none⟩) (by show w.heap.size < w2.heap.size; omega)).trans m0
             have n1 := (b3.cell (p := ⟨w.heap.size, 1, none⟩) (by show w.heap.size < w2.heap.size; omega)).trans m1
             clear b3 o3 m0 m1 hchk HMB)
          | (go_at_call 15
             with_reducible refine (HTo.out _ bD.out).mono ?_
             rintro e w2 ⟨v3, rfl, o3, b2⟩
             have HVA := sl.hid (show sl.Own w2 W11.heap.size w2.heap.size v3 xs0 from o3)
             have HB2 := sl.hid (bD.out.trans b2)
             have hz2 := HB2.out.size
             have m0 := (b2.cell (p := ⟨w.heap.size, 0, none⟩) (by show w.heap.size < W11.heap.size; omega)).trans X72
             have m1 := (b2.cell (p := ⟨w.heap.size, 1, none⟩) (by show w.heap.size < W11.heap.size; omega)).trans X73
             clear b2 o3 X72 X73)
          | (go_at_call 19
             with_reducible refine (mo.toMv a1 c1 _).mono ?_
             rintro e w2 ⟨rfl, b2⟩
             have HMB := sl.hid True.intro
             have HB2 := sl.hid (bD.out.trans b2)
             have hz2 := HB2.out.size
             have m0 := (b2.cell (p := ⟨w.heap.size, 0, none⟩) (by show w.heap.size < W11.heap.size; omega)).trans X72
             have m1 := (b2.cell (p := ⟨w.heap.size, 1, none⟩) (by show w.heap.size < W11.heap.size; omega)).trans X73
             clear b2 X72 X73))
        all_goals
          go_wp2_with fail
          go_meet
          exact ⟨rfl, HR4.out, HB4.out⟩
      case rest =>
        obtain ⟨rfl, o74, b74⟩ := hcut
        generalize wc = W13 at *
        have hz13 := b74.size
        have O74 := sl.hid o74
        clear o74
        have K75 := sl.hid (K69.out.chg (sl.Chg.ofBelow (lo := 0) b74) (.inr (Nat.zero_le _)))
        have K76 := sl.hid (K70.out.chg (sl.Chg.ofBelow (lo := 0) b74) (.inr (.inr (Nat.zero_le _))))
        have K77 := sl.hid (O68.out.chg (sl.Chg.ofBelow (lo := 0) b74) (.inr (.inr (Nat.zero_le _))))
        have C78 := sl.hid (C71.out.trans (b74.mono (by omega)))
        have X79 := (b74.cell (p := ⟨w.heap.size, 0, none⟩) (by show w.heap.size < W11.heap.size; omega)).trans X72
        have X80 := (b74.cell (p := ⟨w.heap.size, 1, none⟩) (by show w.heap.size < W11.heap.size; omega)).trans X73
        clear b74 K69 K70 O68 C71 X72 X73
        go_wp2_with fail
        refine (sl.eqS zr _ _ _ _ W13 O74.out.ints K76.out.ints hr).mono ?_
        rintro e W14 ⟨rfl, b81⟩
        have hz14 := b81.size
        have K82 := sl.hid (K75.out.chg (sl.Chg.ofBelow (lo := 0) b81) (.inr (Nat.zero_le _)))
        have K83 := sl.hid (K76.out.chg (sl.Chg.ofBelow (lo := 0) b81) (.inr (.inr (Nat.zero_le _))))
        have K84 := sl.hid (K77.out.chg (sl.Chg.ofBelow (lo := 0) b81) (.inr (.inr (Nat.zero_le _))))
        have K85 := sl.hid (O74.out.chg (sl.Chg.ofBelow (lo := 0) b81) (.inr (.inr (Nat.zero_le _))))
        have C86 := sl.hid (C78.out.trans (b81.mono (by omega)))
        have X87 := (b81.cell (p := ⟨w.heap.size, 0, none⟩) (by show w.heap.size < W13.heap.size; omega)).trans X79
        have X88 := (b81.cell (p := ⟨w.heap.size, 1, none⟩) (by show w.heap.size < W13.heap.size; omega)).trans X80
        clear b81 K75 K76 K77 O74 C78 X79 X80
        go_wp2_with fail
        refine (sl.heldI zr.length _ _ 1 W14 K84.out.ints hr (by omega) (by omega)).mono ?_
        rintro e W15 ⟨rfl, rfl⟩
        go_wp2
        go_ret
        exact ⟨rfl, C86.out⟩
end Go.Proofs.Ytbbnheiibkcgiaa.wapplyMove
