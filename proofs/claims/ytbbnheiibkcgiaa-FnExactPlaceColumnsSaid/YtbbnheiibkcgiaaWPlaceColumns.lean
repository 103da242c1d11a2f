/-
  The walk of the law of PlaceColumns.
-/
import Derived.Test.YtbbnheiibkcgiaaPz1
import Derived.Test.YtbbnheiibkcgiaaL5
namespace Go.Proofs.Ytbbnheiibkcgiaa.wplaceColumns
open Go.RowKit
set_option linter.unusedVariables false

set_option maxRecDepth 100000 in
set_option maxHeartbeats 20000000 in
theorem law (f0 : Value) (xs0 : List Int) (a1 : Int) (w : World) (hi0 : l5.IntsIn w f0 xs0) (h1 : -9223372036854775808 ≤ a1 ∧ a1 ≤ 9223372036854775807) :
    Calls Try.prog 8 #[f0, .int .i64 a1] w fun e w' => e = .returned (.bool true) ∧ Below w.heap.size w w' := by
  have HA0 := sl.hid hi0.rd
  obtain ⟨b0, cap0, hv0⟩ := br.ints_val hi0.rd
  by_cases hbig0 : 1048576 < xs0.length
  · have hl0 : decide ((1048576 : Int) < (xs0.length : Int)) = true := by simp; omega
    clear hbig0 HA0
    have hlen0 := hi0.len
    generalize xs0.length = n0 at *
    subst hv0
    go_enter Try.func8, Try.ntmps8
    go_wp2
    go_ret
    exact ⟨rfl, Below.refl _ _⟩
  · have hl0 : decide ((1048576 : Int) < (xs0.length : Int)) = false := by simp; omega
    have HQ0 : Hid (l5.Small xs0) := sl.hid ⟨by omega⟩
    have hn0 : xs0.length ≤ 1099511627776 := by omega
    have hm0 : xs0.length ≤ 1048576 := by omega
    have SP : Hid (∀ (g0 : Value) (B0 : Nat) (W : World), sl.Ints W B0 g0 xs0 → B0 ≤ W.heap.size → Calls Try.prog 28 #[g0, .int .i64 a1] W fun e w' => ∃ v', e = .returned (.tuple #[v', .int .i64 (mo.pcC xs0 a1)]) ∧ qo.OOwn w' W.heap.size w'.heap.size v' (mo.pcW xs0 a1) ∧ Below W.heap.size W w') := sl.hid (fun g0 B0 W  j0 l0 => mo.specPC xs0 a1 g0 B0 W j0 l0 HQ0.out )
    have IP : Hid (∀ (g0 : Value) (B0 : Nat) (W : World), sl.Ints W B0 g0 xs0 → B0 ≤ W.heap.size → Calls Try.prog 29 #[g0, .int .i64 a1] W fun e w' => ∃ v', e = .returned (.tuple #[v', .int .i64 (mo.pcC xs0 a1)]) ∧ qo.OOwn w' W.heap.size w'.heap.size v' (mo.pcW xs0 a1) ∧ Below W.heap.size W w') := sl.hid (fun g0 B0 W  j0 l0 => mo.implPC xs0 a1 g0 B0 W j0 l0 HQ0.out )
    have hr0 : (mo.pcW xs0 a1).length ≤ 20000 := mo.pcW_len xs0 a1
    have hr : (mo.pcW xs0 a1).length ≤ 1099511627776 := by omega
    have HQr : Hid (qo.Small (mo.pcW xs0 a1)) := sl.hid ⟨by omega⟩
    generalize mo.pcW xs0 a1 = zr at *
    generalize mo.pcC xs0 a1 = q1 at *
    clear hi0
    subst hv0
    have C0 : Hid (Below w.heap.size w w) := sl.hid (Below.refl _ _)
    go_enter Try.func8, Try.ntmps8
    go_wp2_with fail
    refine (sl.toI xs0 _ _ w HA0.out (by omega) (by have := HQ0.out.len; omega)).mono ?_
    rintro e W1 ⟨v1, rfl, o1, b1⟩
    have hz1 := b1.size
    have O1 := sl.hid o1
    clear o1
    have K2 := sl.hid (HA0.out.chg (sl.Chg.ofBelow (lo := 0) b1) (.inr (Nat.zero_le _)))
    have C3 := sl.hid (C0.out.trans (b1.mono (by omega)))
    clear b1 HA0 C0
    go_wp2_with fail
    refine (SP.out _ _ W1 O1.out.ints (by omega)).mono ?_
    rintro e W2 ⟨v4, rfl, o4, b4⟩
    have hz2 := b4.size
    have O4 := sl.hid o4
    clear o4
    have K5 := sl.hid (K2.out.chg (sl.Chg.ofBelow (lo := 0) b4) (.inr (Nat.zero_le _)))
    have K6 := sl.hid (O1.out.chg (sl.Chg.ofBelow (lo := 0) b4) (.inr (.inr (Nat.zero_le _))))
    have C7 := sl.hid (C3.out.trans (b4.mono (by omega)))
    clear b4 K2 O1 C3
    go_wp2_with fail
    refine (sl.toI xs0 _ _ W2 K5.out (by omega) (by have := HQ0.out.len; omega)).mono ?_
    rintro e W3 ⟨v8, rfl, o8, b8⟩
    have hz3 := b8.size
    have O8 := sl.hid o8
    clear o8
    have K9 := sl.hid (K5.out.chg (sl.Chg.ofBelow (lo := 0) b8) (.inr (Nat.zero_le _)))
    have K10 := sl.hid (O4.out.chg (sl.Chg.ofBelow (lo := 0) b8) (.inr (.inr (Nat.zero_le _))))
    have C11 := sl.hid (C7.out.trans (b8.mono (by omega)))
    clear b8 K5 O4 C7
    go_wp2_with fail
    refine (IP.out _ _ W3 O8.out.ints (by omega)).mono ?_
    rintro e W4 ⟨v12, rfl, o12, b12⟩
    have hz4 := b12.size
    have O12 := sl.hid o12
    clear o12
    have K13 := sl.hid (K9.out.chg (sl.Chg.ofBelow (lo := 0) b12) (.inr (Nat.zero_le _)))
    have K14 := sl.hid (K10.out.chg (sl.Chg.ofBelow (lo := 0) b12) (.inr (.inr (Nat.zero_le _))))
    have K15 := sl.hid (O8.out.chg (sl.Chg.ofBelow (lo := 0) b12) (.inr (.inr (Nat.zero_le _))))
    have C16 := sl.hid (C11.out.trans (b12.mono (by omega)))
    clear b12 K9 K10 O8 C11
    go_wp2_with fail
    refine (qo.eqOS zr _ _ _ _ W4 O12.out.ops K14.out.ops HQr.out).mono ?_
    rintro e W5 ⟨rfl, b17⟩
    have hz5 := b17.size
    have K18 := sl.hid (K13.out.chg (sl.Chg.ofBelow (lo := 0) b17) (.inr (Nat.zero_le _)))
    have K19 := sl.hid (K14.out.chg (sl.Chg.ofBelow (lo := 0) b17) (.inr (.inr (Nat.zero_le _))))
    have K20 := sl.hid (K15.out.chg (sl.Chg.ofBelow (lo := 0) b17) (.inr (.inr (Nat.zero_le _))))
    have K21 := sl.hid (O12.out.chg (sl.Chg.ofBelow (lo := 0) b17) (.inr (.inr (Nat.zero_le _))))
    have C22 := sl.hid (C16.out.trans (b17.mono (by omega)))
    clear b17 K13 K14 K15 O12 C16
    go_wp2_with fail
    refine (sl.toI xs0 _ _ W5 K18.out (by omega) (by have := HQ0.out.len; omega)).mono ?_
    rintro e W6 ⟨v23, rfl, o23, b23⟩
    have hz6 := b23.size
    have O23 := sl.hid o23
    clear o23
    have K24 := sl.hid (K18.out.chg (sl.Chg.ofBelow (lo := 0) b23) (.inr (Nat.zero_le _)))
    have K25 := sl.hid (K19.out.chg (sl.Chg.ofBelow (lo := 0) b23) (.inr (.inr (Nat.zero_le _))))
    have K26 := sl.hid (K20.out.chg (sl.Chg.ofBelow (lo := 0) b23) (.inr (.inr (Nat.zero_le _))))
    have K27 := sl.hid (K21.out.chg (sl.Chg.ofBelow (lo := 0) b23) (.inr (.inr (Nat.zero_le _))))
    have C28 := sl.hid (C22.out.trans (b23.mono (by omega)))
    clear b23 K18 K19 K20 K21 C22
    go_wp2_with fail
    refine (sl.eqS xs0 _ _ _ _ W6 K26.out.ints O23.out.ints (by have := HQ0.out.len; omega)).mono ?_
    rintro e W7 ⟨rfl, b29⟩
    have hz7 := b29.size
    have K30 := sl.hid (K24.out.chg (sl.Chg.ofBelow (lo := 0) b29) (.inr (Nat.zero_le _)))
    have K31 := sl.hid (K25.out.chg (sl.Chg.ofBelow (lo := 0) b29) (.inr (.inr (Nat.zero_le _))))
    have K32 := sl.hid (K26.out.chg (sl.Chg.ofBelow (lo := 0) b29) (.inr (.inr (Nat.zero_le _))))
    have K33 := sl.hid (K27.out.chg (sl.Chg.ofBelow (lo := 0) b29) (.inr (.inr (Nat.zero_le _))))
    have K34 := sl.hid (O23.out.chg (sl.Chg.ofBelow (lo := 0) b29) (.inr (.inr (Nat.zero_le _))))
    have C35 := sl.hid (C28.out.trans (b29.mono (by omega)))
    clear b29 K24 K25 K26 K27 O23 C28
    go_wp2_with fail
    refine (sl.markI xs0 _ _ _ (1) W7 K32.out hn0 (by omega) (by omega)).mono ?_
    rintro e W8 ⟨rfl, o36, c36⟩
    have hz8 := c36.size
    have O36 := sl.hid o36
    clear o36 K32
    have K37 := sl.hid (K30.out.chg c36 (by omega))
    have K38 := sl.hid (K31.out.chg c36 (by omega))
    have K39 := sl.hid (K33.out.chg c36 (by omega))
    have C40 := sl.hid (C35.out.trans (c36.below (by omega) (by omega)))
    clear c36 K30 K31 K33 C35
    go_wp2_with fail
    refine (qo.eqOS zr _ _ _ _ W8 K39.out.ops K38.out.ops HQr.out).mono ?_
    rintro e W9 ⟨rfl, b41⟩
    have hz9 := b41.size
    have K42 := sl.hid (K37.out.chg (sl.Chg.ofBelow (lo := 0) b41) (.inr (Nat.zero_le _)))
    have K43 := sl.hid (K38.out.chg (sl.Chg.ofBelow (lo := 0) b41) (.inr (.inr (Nat.zero_le _))))
    have K44 := sl.hid (K39.out.chg (sl.Chg.ofBelow (lo := 0) b41) (.inr (.inr (Nat.zero_le _))))
    have C45 := sl.hid (C40.out.trans (b41.mono (by omega)))
    clear b41 K37 K38 K39 C40
    go_wp2_with fail
    refine (qo.markOS zr _ _ _ (1) W9 K44.out HQr.out (by omega) (by omega)).mono ?_
    rintro e W10 ⟨rfl, o46, c46⟩
    have hz10 := c46.size
    have O46 := sl.hid o46
    clear o46 K44
    have K47 := sl.hid (K42.out.chg c46 (by omega))
    have K48 := sl.hid (K43.out.chg c46 (by omega))
    have C49 := sl.hid (C45.out.trans (c46.below (by omega) (by omega)))
    clear c46 K42 K43 C45
    go_wp2_with fail
    refine (qo.heldOS zr.length _ _ 1 W10 O46.out.ops (by omega) (by omega) (by omega)).mono ?_
    rintro e W11 ⟨rfl, rfl⟩
    go_wp2_with fail
    refine (sl.toI xs0 _ _ W10 K47.out (by omega) (by have := HQ0.out.len; omega)).mono ?_
    rintro e W12 ⟨v50, rfl, o50, b50⟩
    have hz12 := b50.size
    have O50 := sl.hid o50
    clear o50
    have K51 := sl.hid (K47.out.chg (sl.Chg.ofBelow (lo := 0) b50) (.inr (Nat.zero_le _)))
    have K52 := sl.hid (K48.out.chg (sl.Chg.ofBelow (lo := 0) b50) (.inr (.inr (Nat.zero_le _))))
    have K53 := sl.hid (O46.out.chg (sl.Chg.ofBelow (lo := 0) b50) (.inr (.inr (Nat.zero_le _))))
    have C54 := sl.hid (C49.out.trans (b50.mono (by omega)))
    clear b50 K47 K48 O46 C49
    go_wp2_with fail
    refine (IP.out _ _ W12 O50.out.ints (by omega)).mono ?_
    rintro e W13 ⟨v55, rfl, o55, b55⟩
    have hz13 := b55.size
    have O55 := sl.hid o55
    clear o55
    have K56 := sl.hid (K51.out.chg (sl.Chg.ofBelow (lo := 0) b55) (.inr (Nat.zero_le _)))
    have K57 := sl.hid (K52.out.chg (sl.Chg.ofBelow (lo := 0) b55) (.inr (.inr (Nat.zero_le _))))
    have K58 := sl.hid (K53.out.chg (sl.Chg.ofBelow (lo := 0) b55) (.inr (.inr (Nat.zero_le _))))
    have K59 := sl.hid (O50.out.chg (sl.Chg.ofBelow (lo := 0) b55) (.inr (.inr (Nat.zero_le _))))
    have C60 := sl.hid (C54.out.trans (b55.mono (by omega)))
    clear b55 K51 K52 K53 O50 C54
    go_wp2_with fail
    refine (qo.eqOS zr _ _ _ _ W13 O55.out.ops K57.out.ops HQr.out).mono ?_
    rintro e W14 ⟨rfl, b61⟩
    have hz14 := b61.size
    have K62 := sl.hid (K56.out.chg (sl.Chg.ofBelow (lo := 0) b61) (.inr (Nat.zero_le _)))
    have K63 := sl.hid (K57.out.chg (sl.Chg.ofBelow (lo := 0) b61) (.inr (.inr (Nat.zero_le _))))
    have K64 := sl.hid (K58.out.chg (sl.Chg.ofBelow (lo := 0) b61) (.inr (.inr (Nat.zero_le _))))
    have K65 := sl.hid (O55.out.chg (sl.Chg.ofBelow (lo := 0) b61) (.inr (.inr (Nat.zero_le _))))
    have C66 := sl.hid (C60.out.trans (b61.mono (by omega)))
    clear b61 K56 K57 K58 O55 C60
    go_wp2_with fail
    refine (qo.heldOS zr.length _ _ 1 W14 K64.out.ops (by omega) (by omega) (by omega)).mono ?_
    rintro e W15 ⟨rfl, rfl⟩
    go_wp2
    go_ret
    exact ⟨rfl, C66.out⟩
end Go.Proofs.Ytbbnheiibkcgiaa.wplaceColumns
