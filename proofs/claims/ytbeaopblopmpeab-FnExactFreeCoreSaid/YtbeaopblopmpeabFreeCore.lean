/-
Proved: for every number and every list of integers, impl.FreeCore answers as its model, changes no argument, and its answers own their memory (FnExactFreeCore returns true). No condition.
-/
import Derived.Test.YtbeaopblopmpeabRows
import Derived.WalkKit
import Derived.ProofKit
import Derived.OpenShut
import Derived.ShutString
import Derived.ChangeOld
import Derived.Below
import Derived.Lib.SmallJoins
import Derived.Test.YtbeaopblopmpeabFc
namespace Go.Proofs.Ytbeaopblopmpeab.fnExactFreeCore
open Go.ChangeShapes Go.WideShapes Go.ChangeAt Go.RowKit
open Go.ChangeMaps (open_string shut_string)
set_option linter.unusedVariables false

theorem own : ownKnob Try.prog.godebug = none := by kernel_rfl
theorem laidOut : laidOutB Try.prog = true := by kernel_rfl

/-- A slice that came in. -/
def IsRow (k : IntKind) (w : World) (a : Option Addr) (len cap : Nat) (zs : List Int) : Prop :=
  (a = none ∧ len = 0 ∧ cap = 0 ∧ zs = []) ∨
  ∃ x, a = some x ∧ len ≤ cap ∧ cap ≤ maxLen ∧ zs.length = cap ∧ (∀ i, i < zs.length → w.cell? (x.add i) = some (.int k (zs.getD i 0))) ∧ ∀ n ∈ zs, (Lit.int k n).wf = true

theorem ints_of {w : World} {a : Option Addr} {len cap : Nat} {zs : List Int} (h : IsRow .i64 w a len cap zs) : ∃ xs, xs.length = len ∧ (∀ n ∈ xs, (Lit.int .i64 n).wf = true) ∧ sl.Ints w w.heap.size (.slice a len cap) xs := by
  rcases h with ⟨rfl, rfl, rfl, rfl⟩ | ⟨x, rfl, hl, hm, hz, hcell, hwz⟩
  · exact ⟨[], rfl, by simp, .inl ⟨rfl, _, _, rfl⟩⟩
  · have hlen : (zs.take len).length = len := by simp; omega
    refine ⟨zs.take len, hlen, fun n hn => hwz n (List.mem_of_mem_take hn), ?_⟩
    by_cases h0 : len = 0
    · subst h0; exact .inl ⟨by simp, _, _, rfl⟩
    · obtain ⟨b, off, spot⟩ := x
      have hc := hcell 0 (by omega)
      have hspot : spot = none := by simpa [Addr.add] using World.cell?_spot hc
      subst hspot
      refine .inr ⟨by omega, b, off, cap, by rw [hlen], ?_, fun j hj => ?_⟩
      · have := World.block_lt_of_cell? w _ hc
        simpa [Addr.add] using this
      · have h1 := hcell j (by omega)
        rw [Addr.add_lit] at h1
        rw [h1]
        have h2 : j < len := by omega
        simp [List.getD, h2]

/-! ### The walk: the Go text returns true and writes nothing that was there. -/
theorem walk (a0 : Int) (a1 : Option Addr) (len1 cap1 : Nat) (z1 : List Int) (w : World) (w0 : (Lit.int .i64 a0).wf = true) (w1 : IsRow .i64 w a1 len1 cap1 z1) :
    Calls Try.prog 7 #[.int .i64 a0, .slice a1 len1 cap1] w fun e w' => e = .returned (.bool true) ∧ Below w.heap.size w w' := by
  obtain ⟨xs1, hlen1, hwf1, ha1⟩ := ints_of w1
  by_cases hbig1 : len1 ≤ 1048576
  · have hl1 : decide ((1048576 : Int) < (len1 : Int)) = false := by simp; omega
    have hn1 : xs1.length ≤ 1099511627776 := by omega
    have hm1 : xs1.length ≤ 1048576 := by omega
    have HA1_0 := sl.hid ha1
    have HW1 := sl.hid hwf1
    have HL1 := sl.hid hlen1
    have C0 : Hid (Below w.heap.size w w) := sl.hid (Below.refl _ _)
    clear ha1 hlen1 hwf1 w1
    have hs0 := fr.fcA_len a0 xs1
    have hs1 := fr.fcB_len a0 xs1
    have hr0 : (fr.fcA a0 xs1).length ≤ 1099511627776 := Nat.le_trans (fr.fcA_len a0 xs1) (by omega)
    have hr1 : (fr.fcB a0 xs1).length ≤ 1099511627776 := Nat.le_trans (fr.fcB_len a0 xs1) (by omega)
    go_enter Try.func7, Try.ntmps7
    go_wp2_with fail
    refine (sl.toI xs1 _ _ w HA1_0.out (by omega) hn1).mono ?_
    rintro e W1 ⟨v1, rfl, o1, b1⟩
    have hz1 := b1.size
    have O1 := sl.hid o1
    clear o1
    have K2 := sl.hid (HA1_0.out.chg (sl.Chg.ofBelow (lo := 0) b1) (.inr (Nat.zero_le _)))
    have C3 := sl.hid (C0.out.trans (b1.mono (by omega)))
    clear b1 HA1_0 C0
    go_wp2_with fail
    refine (fr.specFreeCore a0 xs1 v1 _ W1 O1.out.ints (by omega) hn1 (fn.capok_own O1.out)).mono ?_
    rintro e W2 ⟨v4, u4, m4, rfl, hm4, o4, p4, b4⟩
    have hz2 := b4.size
    have hn4m := o4.2.2
    have O4 := sl.hid o4
    have P4 := sl.hid p4
    clear o4 p4
    have K5 := sl.hid (K2.out.chg (sl.Chg.ofBelow (lo := 0) b4) (.inr (Nat.zero_le _)))
    have K6 := sl.hid (O1.out.chg (sl.Chg.ofBelow (lo := 0) b4) (.inr (.inr (Nat.le_refl _))))
    have C7 := sl.hid (C3.out.trans (b4.mono (by omega)))
    clear b4 K2 O1 C3
    go_wp2_with fail
    refine (sl.toI xs1 _ _ W2 K5.out (by omega) hn1).mono ?_
    rintro e W3 ⟨v8, rfl, o8, b8⟩
    have hz3 := b8.size
    have O8 := sl.hid o8
    clear o8
    have K9 := sl.hid (K5.out.chg (sl.Chg.ofBelow (lo := 0) b8) (.inr (Nat.zero_le _)))
    have K10 := sl.hid (O4.out.chg (sl.Chg.ofBelow (lo := 0) b8) (.inr (.inr (Nat.le_refl _))))
    have K11 := sl.hid (P4.out.chg (sl.Chg.ofBelow (lo := 0) b8) (.inr (.inr (Nat.le_refl _))))
    have C12 := sl.hid (C7.out.trans (b8.mono (by omega)))
    clear b8 K5 O4 P4 C7
    go_wp2_with fail
    refine (fr.implFreeCore a0 xs1 v8 _ W3 O8.out.ints (by omega) hn1 (fn.capok_own O8.out)).mono ?_
    rintro e W4 ⟨v13, u13, m13, rfl, hm13, o13, p13, b13⟩
    have hz4 := b13.size
    have hn13m := o13.2.2
    have O13 := sl.hid o13
    have P13 := sl.hid p13
    clear o13 p13
    have K14 := sl.hid (K9.out.chg (sl.Chg.ofBelow (lo := 0) b13) (.inr (Nat.zero_le _)))
    have K15 := sl.hid (K10.out.chg (sl.Chg.ofBelow (lo := 0) b13) (.inr (.inr (Nat.le_refl _))))
    have K16 := sl.hid (K11.out.chg (sl.Chg.ofBelow (lo := 0) b13) (.inr (.inr (Nat.le_refl _))))
    have K17 := sl.hid (O8.out.chg (sl.Chg.ofBelow (lo := 0) b13) (.inr (.inr (Nat.le_refl _))))
    have C18 := sl.hid (C12.out.trans (b13.mono (by omega)))
    clear b13 K9 K10 K11 O8 C12
    go_wp2_with fail
    refine (sl.eqS (fr.fcA a0 xs1) v13 v4 _ _ W4 O13.out.ints K15.out.ints hr0).mono ?_
    rintro e W5 ⟨rfl, b19⟩
    have hz5 := b19.size
    have K20 := sl.hid (K14.out.chg (sl.Chg.ofBelow (lo := 0) b19) (.inr (Nat.zero_le _)))
    have K21 := sl.hid (K15.out.chg (sl.Chg.ofBelow (lo := 0) b19) (.inr (.inr (Nat.le_refl _))))
    have K22 := sl.hid (K16.out.chg (sl.Chg.ofBelow (lo := 0) b19) (.inr (.inr (Nat.le_refl _))))
    have K23 := sl.hid (K17.out.chg (sl.Chg.ofBelow (lo := 0) b19) (.inr (.inr (Nat.le_refl _))))
    have K24 := sl.hid (O13.out.chg (sl.Chg.ofBelow (lo := 0) b19) (.inr (.inr (Nat.le_refl _))))
    have K25 := sl.hid (P13.out.chg (sl.Chg.ofBelow (lo := 0) b19) (.inr (.inr (Nat.le_refl _))))
    have C26 := sl.hid (C18.out.trans (b19.mono (by omega)))
    clear b19 K14 K15 K16 K17 O13 P13 C18
    go_wp2_with fail
    refine (sl.eqS (fr.fcB a0 xs1) u13 u4 _ _ W5 K25.out.ints K22.out.ints hr1).mono ?_
    rintro e W6 ⟨rfl, b27⟩
    have hz6 := b27.size
    have K28 := sl.hid (K20.out.chg (sl.Chg.ofBelow (lo := 0) b27) (.inr (Nat.zero_le _)))
    have K29 := sl.hid (K21.out.chg (sl.Chg.ofBelow (lo := 0) b27) (.inr (.inr (Nat.le_refl _))))
    have K30 := sl.hid (K22.out.chg (sl.Chg.ofBelow (lo := 0) b27) (.inr (.inr (Nat.le_refl _))))
    have K31 := sl.hid (K23.out.chg (sl.Chg.ofBelow (lo := 0) b27) (.inr (.inr (Nat.le_refl _))))
    have K32 := sl.hid (K24.out.chg (sl.Chg.ofBelow (lo := 0) b27) (.inr (.inr (Nat.le_refl _))))
    have K33 := sl.hid (K25.out.chg (sl.Chg.ofBelow (lo := 0) b27) (.inr (.inr (Nat.le_refl _))))
    have C34 := sl.hid (C26.out.trans (b27.mono (by omega)))
    clear b27 K20 K21 K22 K23 K24 K25 C26
    go_wp2_with fail
    refine (sl.toI xs1 _ _ W6 K28.out (by omega) hn1).mono ?_
    rintro e W7 ⟨v35, rfl, o35, b35⟩
    have hz7 := b35.size
    have O35 := sl.hid o35
    clear o35
    have K36 := sl.hid (K28.out.chg (sl.Chg.ofBelow (lo := 0) b35) (.inr (Nat.zero_le _)))
    have K37 := sl.hid (K29.out.chg (sl.Chg.ofBelow (lo := 0) b35) (.inr (.inr (Nat.le_refl _))))
    have K38 := sl.hid (K30.out.chg (sl.Chg.ofBelow (lo := 0) b35) (.inr (.inr (Nat.le_refl _))))
    have K39 := sl.hid (K31.out.chg (sl.Chg.ofBelow (lo := 0) b35) (.inr (.inr (Nat.le_refl _))))
    have K40 := sl.hid (K32.out.chg (sl.Chg.ofBelow (lo := 0) b35) (.inr (.inr (Nat.le_refl _))))
    have K41 := sl.hid (K33.out.chg (sl.Chg.ofBelow (lo := 0) b35) (.inr (.inr (Nat.le_refl _))))
    have C42 := sl.hid (C34.out.trans (b35.mono (by omega)))
    clear b35 K28 K29 K30 K31 K32 K33 C34
    go_wp2_with fail
    refine (sl.eqS xs1 v8 v35 _ _ W7 K39.out.ints O35.out.ints hn1).mono ?_
    rintro e W8 ⟨rfl, b43⟩
    have hz8 := b43.size
    have K44 := sl.hid (K36.out.chg (sl.Chg.ofBelow (lo := 0) b43) (.inr (Nat.zero_le _)))
    have K45 := sl.hid (K37.out.chg (sl.Chg.ofBelow (lo := 0) b43) (.inr (.inr (Nat.le_refl _))))
    have K46 := sl.hid (K38.out.chg (sl.Chg.ofBelow (lo := 0) b43) (.inr (.inr (Nat.le_refl _))))
    have K47 := sl.hid (K39.out.chg (sl.Chg.ofBelow (lo := 0) b43) (.inr (.inr (Nat.le_refl _))))
    have K48 := sl.hid (K40.out.chg (sl.Chg.ofBelow (lo := 0) b43) (.inr (.inr (Nat.le_refl _))))
    have K49 := sl.hid (K41.out.chg (sl.Chg.ofBelow (lo := 0) b43) (.inr (.inr (Nat.le_refl _))))
    have K50 := sl.hid (O35.out.chg (sl.Chg.ofBelow (lo := 0) b43) (.inr (.inr (Nat.le_refl _))))
    have C51 := sl.hid (C42.out.trans (b43.mono (by omega)))
    clear b43 K36 K37 K38 K39 K40 K41 O35 C42
    go_wp2_with fail
    refine (sl.markI xs1 v8 _ _ (1) W8 K47.out hn1 (by omega) (by omega)).mono ?_
    rintro e W9 ⟨rfl, o52, c52⟩
    have hz9 := c52.size
    have O52 := sl.hid o52
    clear o52 K47
    have K53 := sl.hid (K44.out.chg c52 (by omega))
    have K54 := sl.hid (K45.out.chg c52 (by omega))
    have K55 := sl.hid (K46.out.chg c52 (by omega))
    have K56 := sl.hid (K48.out.chg c52 (by omega))
    have K57 := sl.hid (K49.out.chg c52 (by omega))
    have C58 := sl.hid (C51.out.trans (c52.below (by omega) (by omega)))
    clear c52 K44 K45 K46 K48 K49 C51
    go_wp2_with fail
    refine (sl.eqS (fr.fcA a0 xs1) v13 v4 _ _ W9 K56.out.ints K54.out.ints hr0).mono ?_
    rintro e W10 ⟨rfl, b59⟩
    have hz10 := b59.size
    have K60 := sl.hid (K53.out.chg (sl.Chg.ofBelow (lo := 0) b59) (.inr (Nat.zero_le _)))
    have K61 := sl.hid (K54.out.chg (sl.Chg.ofBelow (lo := 0) b59) (.inr (.inr (Nat.le_refl _))))
    have K62 := sl.hid (K55.out.chg (sl.Chg.ofBelow (lo := 0) b59) (.inr (.inr (Nat.le_refl _))))
    have K63 := sl.hid (K56.out.chg (sl.Chg.ofBelow (lo := 0) b59) (.inr (.inr (Nat.le_refl _))))
    have K64 := sl.hid (K57.out.chg (sl.Chg.ofBelow (lo := 0) b59) (.inr (.inr (Nat.le_refl _))))
    have C65 := sl.hid (C58.out.trans (b59.mono (by omega)))
    clear b59 K53 K54 K55 K56 K57 C58
    go_wp2_with fail
    refine (sl.eqS (fr.fcB a0 xs1) u13 u4 _ _ W10 K64.out.ints K62.out.ints hr1).mono ?_
    rintro e W11 ⟨rfl, b66⟩
    have hz11 := b66.size
    have K67 := sl.hid (K60.out.chg (sl.Chg.ofBelow (lo := 0) b66) (.inr (Nat.zero_le _)))
    have K68 := sl.hid (K61.out.chg (sl.Chg.ofBelow (lo := 0) b66) (.inr (.inr (Nat.le_refl _))))
    have K69 := sl.hid (K62.out.chg (sl.Chg.ofBelow (lo := 0) b66) (.inr (.inr (Nat.le_refl _))))
    have K70 := sl.hid (K63.out.chg (sl.Chg.ofBelow (lo := 0) b66) (.inr (.inr (Nat.le_refl _))))
    have K71 := sl.hid (K64.out.chg (sl.Chg.ofBelow (lo := 0) b66) (.inr (.inr (Nat.le_refl _))))
    have C72 := sl.hid (C65.out.trans (b66.mono (by omega)))
    clear b66 K60 K61 K62 K63 K64 C65
    go_wp2_with fail
    refine (sl.markI (fr.fcA a0 xs1) v13 _ _ (1) W11 K70.out hr0 (by omega) (by omega)).mono ?_
    rintro e W12 ⟨rfl, o73, c73⟩
    have hz12 := c73.size
    have O73 := sl.hid o73
    clear o73 K70
    have K74 := sl.hid (K67.out.chg c73 (by omega))
    have K75 := sl.hid (K68.out.chg c73 (by omega))
    have K76 := sl.hid (K69.out.chg c73 (by omega))
    have K77 := sl.hid (K71.out.chg c73 (by omega))
    have C78 := sl.hid (C72.out.trans (c73.below (by omega) (by omega)))
    clear c73 K67 K68 K69 K71 C72
    go_wp2_with fail
    refine (sl.markI (fr.fcB a0 xs1) u13 _ _ (1 + ((fr.fcA a0 xs1).length : Nat)) W12 K77.out hr1 (by omega) (by omega)).mono ?_
    rintro e W13 ⟨rfl, o79, c79⟩
    have hz13 := c79.size
    have O79 := sl.hid o79
    clear o79 K77
    have K80 := sl.hid (K74.out.chg c79 (by omega))
    have K81 := sl.hid (K75.out.chg c79 (by omega))
    have K82 := sl.hid (K76.out.chg c79 (by omega))
    have K83 := sl.hid (O73.out.chg c79 (by omega))
    have C84 := sl.hid (C78.out.trans (c79.below (by omega) (by omega)))
    clear c79 K74 K75 K76 O73 C78
    go_wp2_with fail
    refine (sl.heldI (fr.fcA a0 xs1).length v13 _ (1) W13 K83.out.ints hr0 (by omega) (by omega)).mono ?_
    rintro e W14 ⟨rfl, rfl⟩
    go_wp2_with fail
    refine (sl.heldI (fr.fcB a0 xs1).length u13 _ (1 + ((fr.fcA a0 xs1).length : Nat)) W13 O79.out.ints hr1 (by omega) (by omega)).mono ?_
    rintro e W15 ⟨rfl, rfl⟩
    go_wp2_with fail
    refine (sl.toI xs1 _ _ W13 K80.out (by omega) hn1).mono ?_
    rintro e W16 ⟨v85, rfl, o85, b85⟩
    have hz16 := b85.size
    have O85 := sl.hid o85
    clear o85
    have K86 := sl.hid (K80.out.chg (sl.Chg.ofBelow (lo := 0) b85) (.inr (Nat.zero_le _)))
    have K87 := sl.hid (K81.out.chg (sl.Chg.ofBelow (lo := 0) b85) (.inr (.inr (Nat.le_refl _))))
    have K88 := sl.hid (K82.out.chg (sl.Chg.ofBelow (lo := 0) b85) (.inr (.inr (Nat.le_refl _))))
    have K89 := sl.hid (K83.out.chg (sl.Chg.ofBelow (lo := 0) b85) (.inr (.inr (Nat.le_refl _))))
    have K90 := sl.hid (O79.out.chg (sl.Chg.ofBelow (lo := 0) b85) (.inr (.inr (Nat.le_refl _))))
    have C91 := sl.hid (C84.out.trans (b85.mono (by omega)))
    clear b85 K80 K81 K82 K83 O79 C84
    go_wp2_with fail
    refine (fr.implFreeCore a0 xs1 v85 _ W16 O85.out.ints (by omega) hn1 (fn.capok_own O85.out)).mono ?_
    rintro e W17 ⟨v92, u92, m92, rfl, hm92, o92, p92, b92⟩
    have hz17 := b92.size
    have hn92m := o92.2.2
    have O92 := sl.hid o92
    have P92 := sl.hid p92
    clear o92 p92
    have K93 := sl.hid (K86.out.chg (sl.Chg.ofBelow (lo := 0) b92) (.inr (Nat.zero_le _)))
    have K94 := sl.hid (K87.out.chg (sl.Chg.ofBelow (lo := 0) b92) (.inr (.inr (Nat.le_refl _))))
    have K95 := sl.hid (K88.out.chg (sl.Chg.ofBelow (lo := 0) b92) (.inr (.inr (Nat.le_refl _))))
    have K96 := sl.hid (K89.out.chg (sl.Chg.ofBelow (lo := 0) b92) (.inr (.inr (Nat.le_refl _))))
    have K97 := sl.hid (K90.out.chg (sl.Chg.ofBelow (lo := 0) b92) (.inr (.inr (Nat.le_refl _))))
    have K98 := sl.hid (O85.out.chg (sl.Chg.ofBelow (lo := 0) b92) (.inr (.inr (Nat.le_refl _))))
    have C99 := sl.hid (C91.out.trans (b92.mono (by omega)))
    clear b92 K86 K87 K88 K89 K90 O85 C91
    go_wp2_with fail
    refine (sl.eqS (fr.fcA a0 xs1) v92 v4 _ _ W17 O92.out.ints K94.out.ints hr0).mono ?_
    rintro e W18 ⟨rfl, b100⟩
    have hz18 := b100.size
    have K101 := sl.hid (K93.out.chg (sl.Chg.ofBelow (lo := 0) b100) (.inr (Nat.zero_le _)))
    have K102 := sl.hid (K94.out.chg (sl.Chg.ofBelow (lo := 0) b100) (.inr (.inr (Nat.le_refl _))))
    have K103 := sl.hid (K95.out.chg (sl.Chg.ofBelow (lo := 0) b100) (.inr (.inr (Nat.le_refl _))))
    have K104 := sl.hid (K96.out.chg (sl.Chg.ofBelow (lo := 0) b100) (.inr (.inr (Nat.le_refl _))))
    have K105 := sl.hid (K97.out.chg (sl.Chg.ofBelow (lo := 0) b100) (.inr (.inr (Nat.le_refl _))))
    have K106 := sl.hid (O92.out.chg (sl.Chg.ofBelow (lo := 0) b100) (.inr (.inr (Nat.le_refl _))))
    have K107 := sl.hid (P92.out.chg (sl.Chg.ofBelow (lo := 0) b100) (.inr (.inr (Nat.le_refl _))))
    have C108 := sl.hid (C99.out.trans (b100.mono (by omega)))
    clear b100 K93 K94 K95 K96 K97 O92 P92 C99
    go_wp2_with fail
    refine (sl.eqS (fr.fcB a0 xs1) u92 u4 _ _ W18 K107.out.ints K103.out.ints hr1).mono ?_
    rintro e W19 ⟨rfl, b109⟩
    have hz19 := b109.size
    have K110 := sl.hid (K101.out.chg (sl.Chg.ofBelow (lo := 0) b109) (.inr (Nat.zero_le _)))
    have K111 := sl.hid (K102.out.chg (sl.Chg.ofBelow (lo := 0) b109) (.inr (.inr (Nat.le_refl _))))
    have K112 := sl.hid (K103.out.chg (sl.Chg.ofBelow (lo := 0) b109) (.inr (.inr (Nat.le_refl _))))
    have K113 := sl.hid (K104.out.chg (sl.Chg.ofBelow (lo := 0) b109) (.inr (.inr (Nat.le_refl _))))
    have K114 := sl.hid (K105.out.chg (sl.Chg.ofBelow (lo := 0) b109) (.inr (.inr (Nat.le_refl _))))
    have K115 := sl.hid (K106.out.chg (sl.Chg.ofBelow (lo := 0) b109) (.inr (.inr (Nat.le_refl _))))
    have K116 := sl.hid (K107.out.chg (sl.Chg.ofBelow (lo := 0) b109) (.inr (.inr (Nat.le_refl _))))
    have C117 := sl.hid (C108.out.trans (b109.mono (by omega)))
    clear b109 K101 K102 K103 K104 K105 K106 K107 C108
    go_wp2_with fail
    refine (sl.heldI (fr.fcA a0 xs1).length v13 _ (1) W19 K113.out.ints hr0 (by omega) (by omega)).mono ?_
    rintro e W20 ⟨rfl, rfl⟩
    go_wp2_with fail
    refine (sl.heldI (fr.fcB a0 xs1).length u13 _ (1 + ((fr.fcA a0 xs1).length : Nat)) W19 K114.out.ints hr1 (by omega) (by omega)).mono ?_
    rintro e W21 ⟨rfl, rfl⟩
    go_wp2
    go_ret
    exact ⟨rfl, C117.out⟩
  · have hl1 : decide ((1048576 : Int) < (len1 : Int)) = true := by simp; omega
    go_enter Try.func7, Try.ntmps7
    go_wp2
    go_ret
    exact ⟨rfl, Below.refl _ _⟩

/-! ### The row's step. -/
set_option maxRecDepth 100000 in
theorem lifted (os : Os) (started : os.Started) (H : Type) (enc : TypeId × Value → H) :
    ReturnsInHanded {} Try.checked os 7 .any (Rows.fnExactFreeCoreSpec.pre6 enc Try.prog Try.f7 Rows.fnExactFreeCoreRow.domain false) (Rows.fnExactFreeCoreSpec.post enc Try.prog Try.f7 false true false false) := by
  refine returnsInHanded_of_change (C := Try.checked) own started (by kernel_rfl) Try.func7
    (ChangeSpec.witness6 (enc := enc) (C := Try.checked) false ⟨#[], #[.int .i64 0, .slice none 0 0], []⟩ 8 (by kernel_rfl) (by kernel_rfl) (by kernel_rfl) (by kernel_rfl)) ?_
  intro W base args ds gs before hval0 hW hcnd _
  have hval : ∀ (j : Nat) t v, Try.f7.params[j]? = some t → args[j]? = some v → Value.okWide Try.prog W .any base t v := hval0
  have hW' := hW
  obtain ⟨p, q, hA0, hV, rfl, hfz, hnd⟩ := hW
  have hA : DataW.TrodAll enc Try.prog W 0 (fun _ => true) true Try.f7.params.toList args.toList ds p := hA0
  rw [Try.params7] at hA hval
  obtain ⟨v0, vs0, d0, ds0, p0, q0, hargs, rfl, rfl, h0, r0⟩ := trodAll_cons hA
  obtain ⟨v1, vs1, d1, ds1, p1, q1, rfl, rfl, rfl, h1, r1⟩ := trodAll_cons r0
  obtain ⟨rfl, rfl, rfl⟩ := trodAll_nil r1
  obtain rfl : args = #[v0, v1] := by cases args; simp_all
  obtain ⟨rfl, rfl⟩ := trodVars_none hV
  have k0 := h0
  have lt0 : ∀ x ∈ p0, x.block < W.heap.size := by obtain ⟨m, hm⟩ := k0; exact DataW.trod_lt m _ _ _ hm
  have k1 := h1
  have lt1 : ∀ x ∈ p1, x.block < W.heap.size := by obtain ⟨m, hm⟩ := k1; exact DataW.trod_lt m _ _ _ hm
  have R0 : ∀ W' : World, Below W.heap.size W W' → DataW.Trod enc Try.prog W' 0 (fun b => decide (b < W.heap.size)) true 2 v0 d0 p0 := fun W' bel => Below.trod laidOut (by kernel_rfl) (of_decide_eq_true (by kernel_rfl)) k0 bel lt0
  have R1 : ∀ W' : World, Below W.heap.size W W' → DataW.Trod enc Try.prog W' 0 (fun b => decide (b < W.heap.size)) true 22 v1 d1 p1 := fun W' bel => Below.trod laidOut (by kernel_rfl) (of_decide_eq_true (by kernel_rfl)) k1 bel lt1
  obtain ⟨a0, rfl, rfl, rfl, w0⟩ := open_int Try.underlying2 (hval 0 2 v0 rfl rfl) h0
  obtain ⟨a1, len1, cap1, rfl⟩ := okWide_slice Try.underlying22 (hval 1 22 v1 rfl rfl)
  obtain ⟨z1, w1⟩ : ∃ zs, IsRow .i64 W a1 len1 cap1 zs := by
    obtain ⟨fuel, hf⟩ := h1
    rcases open_ints Try.underlying22 Try.underlying2 (by kernel_rfl) hf with ⟨hcs, _⟩ | ⟨x, l, c, zs, hcs, _, hl, hm, hz, _, hcell, hwz⟩
    · simp [Value.cells] at hcs
      obtain ⟨rfl, rfl, rfl⟩ := hcs
      exact ⟨[], .inl ⟨rfl, rfl, rfl, rfl⟩⟩
    · simp [Value.cells] at hcs
      obtain ⟨rfl, rfl, rfl⟩ := hcs
      exact ⟨zs, .inr ⟨_, rfl, hl, hm, by simpa using hz, hcell, hwz⟩⟩
  clear hA0 hval0
  refine (walk a0 a1 len1 cap1 z1 W w0 w1).mono fun e W' ⟨he, bel⟩ => ?_
  subst he
  exact ⟨_, rfl, _, _, _, [], _, [], hW', trodAll_mk1 (shut_bool Try.underlying4 _), (trodAll_cons_mk (R0 _ bel) (trodAll_cons_mk (R1 _ bel) trodAll_mk0)), rfl, bel.frame _, fun h => by cases h⟩

theorem over : Rows.fnExactFreeCoreRow.holds Try.pinned (OpenSpec.ofChange Rows.fnExactFreeCoreSpec) :=
  OpenClaim.holds_of_wide 7 Try.f7 rfl rfl rfl rfl rfl rfl rfl ⟨rfl, rfl, rfl, rfl, rfl⟩ rfl rfl rfl rfl rfl (by kernel_rfl) Try.func7 (by kernel_rfl)
    (of_decide_eq_true (by kernel_rfl)) (by unfold Func.isWrapper; first | (rw [if_pos (by decide +kernel)]; kernel_rfl) | (rw [if_neg (by decide +kernel)]; exact ⟨rfl, rfl⟩))
    (fun os started H enc _ => lifted os started H enc)

/-- The given statement. -/
theorem proved : Rows.FnExactFreeCoreSaid := over
end Go.Proofs.Ytbeaopblopmpeab.fnExactFreeCore
