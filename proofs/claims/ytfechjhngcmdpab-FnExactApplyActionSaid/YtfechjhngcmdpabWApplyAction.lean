/-
  The walk of the law of ApplyAction.
-/
import Derived.Test.YtfechjhngcmdpabAq
import Derived.Test.YtfechjhngcmdpabL5
namespace Go.Proofs.Ytfechjhngcmdpab.wapplyAction
open Go.RowKit
set_option linter.unusedVariables false

set_option maxRecDepth 100000 in
set_option maxHeartbeats 20000000 in
theorem law (f0 : Value) (xs0 : List (List Int)) (f1 : Value) (xs1 : List Int) (w : World) (hi0 : ss.RowsIn w f0 xs0) (hi1 : l5.IntsIn w f1 xs1) :
    Calls Try.prog 3 #[f0, f1] w fun e w' => e = .returned (.bool true) ∧ Below w.heap.size w w' := by
  have HA0 := sl.hid hi0.rd
  have HA1 := sl.hid hi1.rd
  obtain ⟨b1, cap1, hv1⟩ := br.ints_val hi1.rd
  by_cases hbig1 : 1048576 < xs1.length
  · have hl1 : decide ((1048576 : Int) < (xs1.length : Int)) = true := by simp; omega
    clear hbig1 HA0 HA1
    have hlen1 := hi1.len
    generalize xs1.length = n1 at *
    subst hv1
    go_enter Try.func3, Try.ntmps3
    go_wp2
    go_ret
    exact ⟨rfl, Below.refl _ _⟩
  · have hl1 : decide ((1048576 : Int) < (xs1.length : Int)) = false := by simp; omega
    have HQ1 : Hid (l5.Small xs1) := sl.hid ⟨by omega⟩
    have hn1 : xs1.length ≤ 1099511627776 := by omega
    have hm1 : xs1.length ≤ 1048576 := by omega
    have HZ0 := sl.hid (fun W B h => ss.szSS xs0 f0 B (1048576) W h hi0.len hi0.short (by omega) (by omega))
    rcases ss.szR_pos (rows := xs0) (left := 1048576) (by omega) with hzc0 | hzc0
    · rw [hzc0] at HZ0
      clear hzc0 hi0 hi1
      subst hv1
      have C0 : Hid (Below w.heap.size w w) := sl.hid (Below.refl _ _)
      go_enter Try.func3, Try.ntmps3
      go_wp2_with fail
      refine (HZ0.out w _ HA0.out).mono ?_
      rintro e w' ⟨rfl, rfl⟩
      go_wp2
      go_ret
      exact ⟨rfl, Below.refl _ _⟩
    · have HQ0 := sl.hid (ao.small_of (by omega) (by omega) hzc0)
      have htot0 : ss.tot xs0 ≤ 1048576 := ss.tot_le (by omega) (by omega) hzc0
      have hzl0 := (ss.szR_bound (rows := xs0) (left := 1048576) (by omega) hzc0).1
      generalize ss.szR (1048576) xs0 = z0 at *
      have SP : Hid (∀ (g0 : Value) (g1 : Value) (B0 : Nat) (B1 : Nat) (W : World), ai.RowsC W B0 g0 xs0 → sl.Ints W B1 g1 xs1 → B0 ≤ W.heap.size → B1 ≤ W.heap.size → Calls Try.prog 7 #[g0, g1] W fun e w' => ∃ v', e = .returned (.tuple #[v', .int .i64 (aa.aaC xs0 xs1)]) ∧ sl.Own w' W.heap.size w'.heap.size v' (aa.aaW xs0 xs1) ∧ Below W.heap.size W w') := sl.hid (fun g0 g1 B0 B1 W j0 j1 l0 l1 => aa.specAAq xs0 xs1 g0 g1 B0 B1 W j0 j1 l0 l1 HQ0.out HQ1.out )
      have IP : Hid (∀ (g0 : Value) (g1 : Value) (B0 : Nat) (B1 : Nat) (W : World), ai.RowsC W B0 g0 xs0 → sl.Ints W B1 g1 xs1 → B0 ≤ W.heap.size → B1 ≤ W.heap.size → Calls Try.prog 10 #[g0, g1] W fun e w' => ∃ v', e = .returned (.tuple #[v', .int .i64 (aa.aaC xs0 xs1)]) ∧ sl.Own w' W.heap.size w'.heap.size v' (aa.aaW xs0 xs1) ∧ Below W.heap.size W w') := sl.hid (fun g0 g1 B0 B1 W j0 j1 l0 l1 => aa.implAAq xs0 xs1 g0 g1 B0 B1 W j0 j1 l0 l1 HQ0.out HQ1.out )
      have hr0 : (aa.aaW xs0 xs1).length ≤ 20000 := aa.aaW_len xs0 xs1
      have hr : (aa.aaW xs0 xs1).length ≤ 1099511627776 := by omega
      generalize aa.aaW xs0 xs1 = zr at *
      generalize aa.aaC xs0 xs1 = q1 at *
      clear hi0 hi1
      subst hv1
      have C0 : Hid (Below w.heap.size w w) := sl.hid (Below.refl _ _)
      go_enter Try.func3, Try.ntmps3
      go_wp2_with fail
      refine (HZ0.out w _ HA0.out).mono ?_
      rintro e w' ⟨rfl, rfl⟩
      go_wp2_with fail
      refine (ss.toSS xs0 _ _ w HA0.out (by omega) HQ0.out.len HQ0.out.short).mono ?_
      rintro e W1 ⟨v1, rfl, o1, b1⟩
      have hz1 := b1.size
      have O1 := sl.hid o1
      clear o1
      have K2 := sl.hid (HA0.out.chg (sl.Chg.ofBelow (lo := 0) b1) (.inr (Nat.zero_le _)))
      have K3 := sl.hid (HA1.out.chg (sl.Chg.ofBelow (lo := 0) b1) (.inr (Nat.zero_le _)))
      have C4 := sl.hid (C0.out.trans (b1.mono (by omega)))
      clear b1 HA0 HA1 C0
      go_wp2_with fail
      refine (sl.toI xs1 _ _ W1 K3.out (by omega) (by have := HQ1.out.len; omega)).mono ?_
      rintro e W2 ⟨v5, rfl, o5, b5⟩
      have hz2 := b5.size
      have O5 := sl.hid o5
      clear o5
      have K6 := sl.hid (K2.out.chg (sl.Chg.ofBelow (lo := 0) b5) (.inr (Nat.zero_le _)))
      have K7 := sl.hid (K3.out.chg (sl.Chg.ofBelow (lo := 0) b5) (.inr (Nat.zero_le _)))
      have K8 := sl.hid (O1.out.chg (sl.Chg.ofBelow (lo := 0) b5) (.inr (.inr (Nat.zero_le _))))
      have C9 := sl.hid (C4.out.trans (b5.mono (by omega)))
      clear b5 K2 K3 O1 C4
      go_wp2_with fail
      refine (SP.out _ _ _ _ W2 K8.out.c O5.out.ints (by omega) (by omega)).mono ?_
      rintro e W3 ⟨v10, rfl, o10, b10⟩
      have hz3 := b10.size
      have O10 := sl.hid o10
      clear o10
      have K11 := sl.hid (K6.out.chg (sl.Chg.ofBelow (lo := 0) b10) (.inr (Nat.zero_le _)))
      have K12 := sl.hid (K7.out.chg (sl.Chg.ofBelow (lo := 0) b10) (.inr (Nat.zero_le _)))
      have K13 := sl.hid (K8.out.chg (sl.Chg.ofBelow (lo := 0) b10) (.inr (.inr (Nat.zero_le _))))
      have K14 := sl.hid (O5.out.chg (sl.Chg.ofBelow (lo := 0) b10) (.inr (.inr (Nat.zero_le _))))
      have C15 := sl.hid (C9.out.trans (b10.mono (by omega)))
      clear b10 K6 K7 K8 O5 C9
      go_wp2_with fail
      refine (ss.toSS xs0 _ _ W3 K11.out (by omega) HQ0.out.len HQ0.out.short).mono ?_
      rintro e W4 ⟨v16, rfl, o16, b16⟩
      have hz4 := b16.size
      have O16 := sl.hid o16
      clear o16
      have K17 := sl.hid (K11.out.chg (sl.Chg.ofBelow (lo := 0) b16) (.inr (Nat.zero_le _)))
      have K18 := sl.hid (K12.out.chg (sl.Chg.ofBelow (lo := 0) b16) (.inr (Nat.zero_le _)))
      have K19 := sl.hid (O10.out.chg (sl.Chg.ofBelow (lo := 0) b16) (.inr (.inr (Nat.zero_le _))))
      have C20 := sl.hid (C15.out.trans (b16.mono (by omega)))
      clear b16 K11 K12 O10 C15
      go_wp2_with fail
      refine (sl.toI xs1 _ _ W4 K18.out (by omega) (by have := HQ1.out.len; omega)).mono ?_
      rintro e W5 ⟨v21, rfl, o21, b21⟩
      have hz5 := b21.size
      have O21 := sl.hid o21
      clear o21
      have K22 := sl.hid (K17.out.chg (sl.Chg.ofBelow (lo := 0) b21) (.inr (Nat.zero_le _)))
      have K23 := sl.hid (K18.out.chg (sl.Chg.ofBelow (lo := 0) b21) (.inr (Nat.zero_le _)))
      have K24 := sl.hid (K19.out.chg (sl.Chg.ofBelow (lo := 0) b21) (.inr (.inr (Nat.zero_le _))))
      have K25 := sl.hid (O16.out.chg (sl.Chg.ofBelow (lo := 0) b21) (.inr (.inr (Nat.zero_le _))))
      have C26 := sl.hid (C20.out.trans (b21.mono (by omega)))
      clear b21 K17 K18 K19 O16 C20
      go_wp2_with fail
      refine (IP.out _ _ _ _ W5 K25.out.c O21.out.ints (by omega) (by omega)).mono ?_
      rintro e W6 ⟨v27, rfl, o27, b27⟩
      have hz6 := b27.size
      have O27 := sl.hid o27
      clear o27
      have K28 := sl.hid (K22.out.chg (sl.Chg.ofBelow (lo := 0) b27) (.inr (Nat.zero_le _)))
      have K29 := sl.hid (K23.out.chg (sl.Chg.ofBelow (lo := 0) b27) (.inr (Nat.zero_le _)))
      have K30 := sl.hid (K24.out.chg (sl.Chg.ofBelow (lo := 0) b27) (.inr (.inr (Nat.zero_le _))))
      have K31 := sl.hid (K25.out.chg (sl.Chg.ofBelow (lo := 0) b27) (.inr (.inr (Nat.zero_le _))))
      have K32 := sl.hid (O21.out.chg (sl.Chg.ofBelow (lo := 0) b27) (.inr (.inr (Nat.zero_le _))))
      have C33 := sl.hid (C26.out.trans (b27.mono (by omega)))
      clear b27 K22 K23 K24 K25 O21 C26
      go_wp2_with fail
      refine (sl.eqS zr _ _ _ _ W6 O27.out.ints K30.out.ints hr).mono ?_
      rintro e W7 ⟨rfl, b34⟩
      have hz7 := b34.size
      have K35 := sl.hid (K28.out.chg (sl.Chg.ofBelow (lo := 0) b34) (.inr (Nat.zero_le _)))
      have K36 := sl.hid (K29.out.chg (sl.Chg.ofBelow (lo := 0) b34) (.inr (Nat.zero_le _)))
      have K37 := sl.hid (K30.out.chg (sl.Chg.ofBelow (lo := 0) b34) (.inr (.inr (Nat.zero_le _))))
      have K38 := sl.hid (K31.out.chg (sl.Chg.ofBelow (lo := 0) b34) (.inr (.inr (Nat.zero_le _))))
      have K39 := sl.hid (K32.out.chg (sl.Chg.ofBelow (lo := 0) b34) (.inr (.inr (Nat.zero_le _))))
      have K40 := sl.hid (O27.out.chg (sl.Chg.ofBelow (lo := 0) b34) (.inr (.inr (Nat.zero_le _))))
      have C41 := sl.hid (C33.out.trans (b34.mono (by omega)))
      clear b34 K28 K29 K30 K31 K32 O27 C33
      go_wp2_with fail
      refine (ss.toSS xs0 _ _ W7 K35.out (by omega) HQ0.out.len HQ0.out.short).mono ?_
      rintro e W8 ⟨v42, rfl, o42, b42⟩
      have hz8 := b42.size
      have O42 := sl.hid o42
      clear o42
      have K43 := sl.hid (K35.out.chg (sl.Chg.ofBelow (lo := 0) b42) (.inr (Nat.zero_le _)))
      have K44 := sl.hid (K36.out.chg (sl.Chg.ofBelow (lo := 0) b42) (.inr (Nat.zero_le _)))
      have K45 := sl.hid (K37.out.chg (sl.Chg.ofBelow (lo := 0) b42) (.inr (.inr (Nat.zero_le _))))
      have K46 := sl.hid (K38.out.chg (sl.Chg.ofBelow (lo := 0) b42) (.inr (.inr (Nat.zero_le _))))
      have K47 := sl.hid (K39.out.chg (sl.Chg.ofBelow (lo := 0) b42) (.inr (.inr (Nat.zero_le _))))
      have K48 := sl.hid (K40.out.chg (sl.Chg.ofBelow (lo := 0) b42) (.inr (.inr (Nat.zero_le _))))
      have C49 := sl.hid (C41.out.trans (b42.mono (by omega)))
      clear b42 K35 K36 K37 K38 K39 K40 C41
      go_wp2_with fail
      refine (ss.eqSSS xs0 _ _ _ _ W8 K46.out.rows O42.out.rows HQ0.out.len HQ0.out.short).mono ?_
      rintro e W9 ⟨rfl, b50⟩
      have hz9 := b50.size
      have K51 := sl.hid (K43.out.chg (sl.Chg.ofBelow (lo := 0) b50) (.inr (Nat.zero_le _)))
      have K52 := sl.hid (K44.out.chg (sl.Chg.ofBelow (lo := 0) b50) (.inr (Nat.zero_le _)))
      have K53 := sl.hid (K45.out.chg (sl.Chg.ofBelow (lo := 0) b50) (.inr (.inr (Nat.zero_le _))))
      have K54 := sl.hid (K46.out.chg (sl.Chg.ofBelow (lo := 0) b50) (.inr (.inr (Nat.zero_le _))))
      have K55 := sl.hid (K47.out.chg (sl.Chg.ofBelow (lo := 0) b50) (.inr (.inr (Nat.zero_le _))))
      have K56 := sl.hid (K48.out.chg (sl.Chg.ofBelow (lo := 0) b50) (.inr (.inr (Nat.zero_le _))))
      have K57 := sl.hid (O42.out.chg (sl.Chg.ofBelow (lo := 0) b50) (.inr (.inr (Nat.zero_le _))))
      have C58 := sl.hid (C49.out.trans (b50.mono (by omega)))
      clear b50 K43 K44 K45 K46 K47 K48 O42 C49
      go_wp2_with fail
      refine (sl.toI xs1 _ _ W9 K52.out (by omega) (by have := HQ1.out.len; omega)).mono ?_
      rintro e W10 ⟨v59, rfl, o59, b59⟩
      have hz10 := b59.size
      have O59 := sl.hid o59
      clear o59
      have K60 := sl.hid (K51.out.chg (sl.Chg.ofBelow (lo := 0) b59) (.inr (Nat.zero_le _)))
      have K61 := sl.hid (K52.out.chg (sl.Chg.ofBelow (lo := 0) b59) (.inr (Nat.zero_le _)))
      have K62 := sl.hid (K53.out.chg (sl.Chg.ofBelow (lo := 0) b59) (.inr (.inr (Nat.zero_le _))))
      have K63 := sl.hid (K54.out.chg (sl.Chg.ofBelow (lo := 0) b59) (.inr (.inr (Nat.zero_le _))))
      have K64 := sl.hid (K55.out.chg (sl.Chg.ofBelow (lo := 0) b59) (.inr (.inr (Nat.zero_le _))))
      have K65 := sl.hid (K56.out.chg (sl.Chg.ofBelow (lo := 0) b59) (.inr (.inr (Nat.zero_le _))))
      have C66 := sl.hid (C58.out.trans (b59.mono (by omega)))
      clear b59 K51 K52 K53 K54 K55 K56 C58
      go_wp2_with fail
      refine (sl.eqS xs1 _ _ _ _ W10 K64.out.ints O59.out.ints (by have := HQ1.out.len; omega)).mono ?_
      rintro e W11 ⟨rfl, b67⟩
      have hz11 := b67.size
      have K68 := sl.hid (K60.out.chg (sl.Chg.ofBelow (lo := 0) b67) (.inr (Nat.zero_le _)))
      have K69 := sl.hid (K61.out.chg (sl.Chg.ofBelow (lo := 0) b67) (.inr (Nat.zero_le _)))
      have K70 := sl.hid (K62.out.chg (sl.Chg.ofBelow (lo := 0) b67) (.inr (.inr (Nat.zero_le _))))
      have K71 := sl.hid (K63.out.chg (sl.Chg.ofBelow (lo := 0) b67) (.inr (.inr (Nat.zero_le _))))
      have K72 := sl.hid (K64.out.chg (sl.Chg.ofBelow (lo := 0) b67) (.inr (.inr (Nat.zero_le _))))
      have K73 := sl.hid (K65.out.chg (sl.Chg.ofBelow (lo := 0) b67) (.inr (.inr (Nat.zero_le _))))
      have K74 := sl.hid (O59.out.chg (sl.Chg.ofBelow (lo := 0) b67) (.inr (.inr (Nat.zero_le _))))
      have C75 := sl.hid (C66.out.trans (b67.mono (by omega)))
      clear b67 K60 K61 K62 K63 K64 K65 O59 C66
      go_wp2_with fail
      refine (ss.markSS xs0 _ _ _ (1) W11 K71.out HQ0.out.len (by omega) HQ0.out.short (by omega) (by omega)).mono ?_
      rintro e W12 ⟨rfl, o76, c76⟩
      have hz12 := c76.size
      have O76 := sl.hid o76
      clear o76 K71
      have K77 := sl.hid (K68.out.chg c76 (by omega))
      have K78 := sl.hid (K69.out.chg c76 (by omega))
      have K79 := sl.hid (K70.out.chg c76 (by omega))
      have K80 := sl.hid (K72.out.chg c76 (by omega))
      have K81 := sl.hid (K73.out.chg c76 (by omega))
      have C82 := sl.hid (C75.out.trans (c76.below (by omega) (by omega)))
      clear c76 K68 K69 K70 K72 K73 C75
      go_wp2_with fail
      refine (sl.markI xs1 _ _ _ (1 + (ss.tot xs0 : Nat)) W12 K80.out hn1 (by omega) (by omega)).mono ?_
      rintro e W13 ⟨rfl, o83, c83⟩
      have hz13 := c83.size
      have O83 := sl.hid o83
      clear o83 K80
      have K84 := sl.hid (K77.out.chg c83 (by omega))
      have K85 := sl.hid (K78.out.chg c83 (by omega))
      have K86 := sl.hid (K79.out.chg c83 (by omega))
      have K87 := sl.hid (O76.out.chg c83 (by omega))
      have K88 := sl.hid (K81.out.chg c83 (by omega))
      have C89 := sl.hid (C82.out.trans (c83.below (by omega) (by omega)))
      clear c83 K77 K78 K79 O76 K81 C82
      go_wp2_with fail
      refine (sl.eqS zr _ _ _ _ W13 K88.out.ints K86.out.ints hr).mono ?_
      rintro e W14 ⟨rfl, b90⟩
      have hz14 := b90.size
      have K91 := sl.hid (K84.out.chg (sl.Chg.ofBelow (lo := 0) b90) (.inr (Nat.zero_le _)))
      have K92 := sl.hid (K85.out.chg (sl.Chg.ofBelow (lo := 0) b90) (.inr (Nat.zero_le _)))
      have K93 := sl.hid (K86.out.chg (sl.Chg.ofBelow (lo := 0) b90) (.inr (.inr (Nat.zero_le _))))
      have K94 := sl.hid (K88.out.chg (sl.Chg.ofBelow (lo := 0) b90) (.inr (.inr (Nat.zero_le _))))
      have C95 := sl.hid (C89.out.trans (b90.mono (by omega)))
      clear b90 K84 K85 K86 K88 C89
      go_wp2_with fail
      refine (sl.markI zr _ _ _ (1) W14 K94.out hr (by omega) (by omega)).mono ?_
      rintro e W15 ⟨rfl, o96, c96⟩
      have hz15 := c96.size
      have O96 := sl.hid o96
      clear o96 K94
      have K97 := sl.hid (K91.out.chg c96 (by omega))
      have K98 := sl.hid (K92.out.chg c96 (by omega))
      have K99 := sl.hid (K93.out.chg c96 (by omega))
      have C100 := sl.hid (C95.out.trans (c96.below (by omega) (by omega)))
      clear c96 K91 K92 K93 C95
      go_wp2_with fail
      refine (sl.heldI zr.length _ _ 1 W15 O96.out.ints hr (by omega) (by omega)).mono ?_
      rintro e W16 ⟨rfl, rfl⟩
      go_wp2_with fail
      refine (ss.toSS xs0 _ _ W15 K97.out (by omega) HQ0.out.len HQ0.out.short).mono ?_
      rintro e W17 ⟨v101, rfl, o101, b101⟩
      have hz17 := b101.size
      have O101 := sl.hid o101
      clear o101
      have K102 := sl.hid (K97.out.chg (sl.Chg.ofBelow (lo := 0) b101) (.inr (Nat.zero_le _)))
      have K103 := sl.hid (K98.out.chg (sl.Chg.ofBelow (lo := 0) b101) (.inr (Nat.zero_le _)))
      have K104 := sl.hid (K99.out.chg (sl.Chg.ofBelow (lo := 0) b101) (.inr (.inr (Nat.zero_le _))))
      have K105 := sl.hid (O96.out.chg (sl.Chg.ofBelow (lo := 0) b101) (.inr (.inr (Nat.zero_le _))))
      have C106 := sl.hid (C100.out.trans (b101.mono (by omega)))
      clear b101 K97 K98 K99 O96 C100
      go_wp2_with fail
      refine (sl.toI xs1 _ _ W17 K103.out (by omega) (by have := HQ1.out.len; omega)).mono ?_
      rintro e W18 ⟨v107, rfl, o107, b107⟩
      have hz18 := b107.size
      have O107 := sl.hid o107
      clear o107
      have K108 := sl.hid (K102.out.chg (sl.Chg.ofBelow (lo := 0) b107) (.inr (Nat.zero_le _)))
      have K109 := sl.hid (K103.out.chg (sl.Chg.ofBelow (lo := 0) b107) (.inr (Nat.zero_le _)))
      have K110 := sl.hid (K104.out.chg (sl.Chg.ofBelow (lo := 0) b107) (.inr (.inr (Nat.zero_le _))))
      have K111 := sl.hid (K105.out.chg (sl.Chg.ofBelow (lo := 0) b107) (.inr (.inr (Nat.zero_le _))))
      have K112 := sl.hid (O101.out.chg (sl.Chg.ofBelow (lo := 0) b107) (.inr (.inr (Nat.zero_le _))))
      have C113 := sl.hid (C106.out.trans (b107.mono (by omega)))
      clear b107 K102 K103 K104 K105 O101 C106
      go_wp2_with fail
      refine (IP.out _ _ _ _ W18 K112.out.c O107.out.ints (by omega) (by omega)).mono ?_
      rintro e W19 ⟨v114, rfl, o114, b114⟩
      have hz19 := b114.size
      have O114 := sl.hid o114
      clear o114
      have K115 := sl.hid (K108.out.chg (sl.Chg.ofBelow (lo := 0) b114) (.inr (Nat.zero_le _)))
      have K116 := sl.hid (K109.out.chg (sl.Chg.ofBelow (lo := 0) b114) (.inr (Nat.zero_le _)))
      have K117 := sl.hid (K110.out.chg (sl.Chg.ofBelow (lo := 0) b114) (.inr (.inr (Nat.zero_le _))))
      have K118 := sl.hid (K111.out.chg (sl.Chg.ofBelow (lo := 0) b114) (.inr (.inr (Nat.zero_le _))))
      have K119 := sl.hid (K112.out.chg (sl.Chg.ofBelow (lo := 0) b114) (.inr (.inr (Nat.zero_le _))))
      have K120 := sl.hid (O107.out.chg (sl.Chg.ofBelow (lo := 0) b114) (.inr (.inr (Nat.zero_le _))))
      have C121 := sl.hid (C113.out.trans (b114.mono (by omega)))
      clear b114 K108 K109 K110 K111 K112 O107 C113
      go_wp2_with fail
      refine (sl.eqS zr _ _ _ _ W19 O114.out.ints K117.out.ints hr).mono ?_
      rintro e W20 ⟨rfl, b122⟩
      have hz20 := b122.size
      have K123 := sl.hid (K115.out.chg (sl.Chg.ofBelow (lo := 0) b122) (.inr (Nat.zero_le _)))
      have K124 := sl.hid (K116.out.chg (sl.Chg.ofBelow (lo := 0) b122) (.inr (Nat.zero_le _)))
      have K125 := sl.hid (K117.out.chg (sl.Chg.ofBelow (lo := 0) b122) (.inr (.inr (Nat.zero_le _))))
      have K126 := sl.hid (K118.out.chg (sl.Chg.ofBelow (lo := 0) b122) (.inr (.inr (Nat.zero_le _))))
      have K127 := sl.hid (O114.out.chg (sl.Chg.ofBelow (lo := 0) b122) (.inr (.inr (Nat.zero_le _))))
      have C128 := sl.hid (C121.out.trans (b122.mono (by omega)))
      clear b122 K115 K116 K117 K118 O114 C121
      go_wp2_with fail
      refine (sl.heldI zr.length _ _ 1 W20 K126.out.ints hr (by omega) (by omega)).mono ?_
      rintro e W21 ⟨rfl, rfl⟩
      go_wp2
      go_ret
      exact ⟨rfl, C128.out⟩
end Go.Proofs.Ytfechjhngcmdpab.wapplyAction
