/-
Proved: for every two lists, impl.StacksAfter answers as its model, changes no argument, and its answer owns its memory (FnExactStacksAfter returns true). The program's table of stitches is tied to its text by the given card.
-/
import Derived.Test.YtglkchcfggclaaaDoorRows
import Derived.WalkKit
import Derived.ProofKit
import Derived.OpenShut
import Derived.ShutString
import Derived.ChangeOld
import Derived.Below
import Derived.Lib.SmallJoins
import Derived.Test.YtglkchcfggclaaaDoorCards
import Derived.Test.YtglkchcfggclaaaDoorTie
import Derived.LaidMore
import Derived.Stop.Joined
import Derived.Lib.LaidTab
import Derived.OpenVars
import Derived.Test.YtglkchcfggclaaaDoorKn7
namespace Go.Proofs.YtglkchcfggclaaaDoor.fnExactStacksAfter
open Go.ChangeShapes Go.WideShapes Go.ChangeAt Go.RowKit
open Go.ChangeMaps (open_string shut_string)
set_option linter.unusedVariables false

theorem own : ownKnob Tryd.prog.godebug = none := by kernel_rfl
theorem laidOut : laidOutB Tryd.prog = true := by kernel_rfl

/-- A slice that came in. -/
def IsRow (k : IntKind) (w : World) (a : Option Addr) (len cap : Nat) (zs : List Int) : Prop :=
  (a = none ∧ len = 0 ∧ cap = 0 ∧ zs = []) ∨
  ∃ x, a = some x ∧ len ≤ cap ∧ cap ≤ maxLen ∧ zs.length = cap ∧ (∀ i, i < zs.length → w.cell? (x.add i) = some (.int k (zs.getD i 0))) ∧ ∀ n ∈ zs, (Lit.int k n).wf = true

theorem ints_of {w : World} {a : Option Addr} {len cap : Nat} {zs : List Int} (h : IsRow .i64 w a len cap zs) : ∃ xs, xs.length = len ∧ (∀ n ∈ xs, (Lit.int .i64 n).wf = true) ∧ sl.Ints w w.heap.size (.slice a len cap) xs := by
  rcases h with ⟨rfl, rfl, rfl, rfl⟩ | ⟨x, rfl, hl, hm, hz, hcell, hwz⟩
  · exact ⟨[], rfl, by simp, .inl ⟨rfl, _, _, rfl⟩⟩
  · have hlen : (zs.take len).length = len := by simp; omega
    refine ⟨zs.take len, hlen, fun n hn => hwz n (List.mem_of_mem_take hn), ?_⟩
    by_cases h0 : len = 0
    · subst h0; exact .inl ⟨by simp, _, _, rfl⟩
    · obtain ⟨b, off, spot⟩ := x
      have hc := hcell 0 (by omega)
      have hspot : spot = none := by simpa [Addr.add] using World.cell?_spot hc
      subst hspot
      refine .inr ⟨by omega, b, off, cap, by rw [hlen], ?_, fun j hj => ?_⟩
      · have := World.block_lt_of_cell? w _ hc
        simpa [Addr.add] using this
      · have h1 := hcell j (by omega)
        rw [Addr.add_lit] at h1
        rw [h1]
        have h2 : j < len := by omega
        simp [List.getD, h2]

/-! ### The walk: the Go text returns true and writes nothing that was there. -/
theorem walk (a0 : Option Addr) (len0 cap0 : Nat) (z0 : List Int) (a1 : Option Addr) (len1 cap1 : Nat) (z1 : List Int) (w : World) (w0 : IsRow .i64 w a0 len0 cap0 z0) (w1 : IsRow .i64 w a1 len1 cap1 z1) (hL : laidMetH Tryd.prog Rows.fnExactStacksAfterRow.laid w) :
    Calls Tryd.prog 9 #[.slice a0 len0 cap0, .slice a1 len1 cap1] w fun e w' => e = .returned (.bool true) ∧ Below w.heap.size w w' := by
  have hTb := stb.tab (by kernel_rfl) hL
  clear hL
  obtain ⟨xs0, hlen0, hwf0, ha0⟩ := ints_of w0
  obtain ⟨xs1, hlen1, hwf1, ha1⟩ := ints_of w1
  by_cases hbig0 : len0 ≤ 1048576
  · have hl0 : decide ((1048576 : Int) < (len0 : Int)) = false := by simp; omega
    by_cases hbig1 : len1 ≤ 1048576
    · have hl1 : decide ((1048576 : Int) < (len1 : Int)) = false := by simp; omega
      have hn0 : xs0.length ≤ 1099511627776 := by omega
      have hm0 : xs0.length ≤ 1048576 := by omega
      have HA0_0 := sl.hid ha0
      have HW0 := sl.hid hwf0
      have HL0 := sl.hid hlen0
      have hn1 : xs1.length ≤ 1099511627776 := by omega
      have hm1 : xs1.length ≤ 1048576 := by omega
      have HA1_0 := sl.hid ha1
      have HW1 := sl.hid hwf1
      have HL1 := sl.hid hlen1
      have HTb := sl.hid hTb
      clear hTb
      have C0 : Hid (Below w.heap.size w w) := sl.hid (Below.refl _ _)
      clear ha0 hlen0 hwf0 w0 ha1 hlen1 hwf1 w1
      have hr : (st.saW xs0 xs1).length ≤ 1099511627776 := Nat.le_trans (kn.saW_len xs0 xs1) (by omega)
      go_enter Tryd.func9, Tryd.ntmps9
      go_wp2_with fail
      refine (sl.toI xs0 _ _ w HA0_0.out (by omega) hn0).mono ?_
      rintro e W1 ⟨v1, rfl, o1, b1⟩
      have hz1 := b1.size
      have O1 := sl.hid o1
      clear o1
      have K2 := sl.hid (HA0_0.out.chg (sl.Chg.ofBelow (lo := 0) b1) (.inr (Nat.zero_le _)))
      have K3 := sl.hid (HA1_0.out.chg (sl.Chg.ofBelow (lo := 0) b1) (.inr (Nat.zero_le _)))
      have C4 := sl.hid (C0.out.trans (b1.mono (by omega)))
      clear b1 HA0_0 HA1_0 C0
      go_wp2_with fail
      refine (sl.toI xs1 _ _ W1 K3.out (by omega) hn1).mono ?_
      rintro e W2 ⟨v5, rfl, o5, b5⟩
      have hz2 := b5.size
      have O5 := sl.hid o5
      clear o5
      have K6 := sl.hid (K2.out.chg (sl.Chg.ofBelow (lo := 0) b5) (.inr (Nat.zero_le _)))
      have K7 := sl.hid (K3.out.chg (sl.Chg.ofBelow (lo := 0) b5) (.inr (Nat.zero_le _)))
      have K8 := sl.hid (O1.out.chg (sl.Chg.ofBelow (lo := 0) b5) (.inr (.inr (Nat.le_refl _))))
      have C9 := sl.hid (C4.out.trans (b5.mono (by omega)))
      clear b5 K2 K3 O1 C4
      go_wp2_with fail
      refine (kn.specSA xs0 xs1 v1 v5 _ _ W2 K8.out.ints O5.out.ints (by omega) (by omega) hn0 hn1 (fn.capok_own K8.out) (fn.capok_own O5.out)).mono ?_
      rintro e W3 ⟨v10, rfl, o10, b10⟩
      have hz3 := b10.size
      have O10 := sl.hid o10
      clear o10
      have K11 := sl.hid (K6.out.chg (sl.Chg.ofBelow (lo := 0) b10) (.inr (Nat.zero_le _)))
      have K12 := sl.hid (K7.out.chg (sl.Chg.ofBelow (lo := 0) b10) (.inr (Nat.zero_le _)))
      have K13 := sl.hid (K8.out.chg (sl.Chg.ofBelow (lo := 0) b10) (.inr (.inr (Nat.le_refl _))))
      have K14 := sl.hid (O5.out.chg (sl.Chg.ofBelow (lo := 0) b10) (.inr (.inr (Nat.le_refl _))))
      have C15 := sl.hid (C9.out.trans (b10.mono (by omega)))
      clear b10 K6 K7 K8 O5 C9
      go_wp2_with fail
      refine (sl.toI xs0 _ _ W3 K11.out (by omega) hn0).mono ?_
      rintro e W4 ⟨v16, rfl, o16, b16⟩
      have hz4 := b16.size
      have O16 := sl.hid o16
      clear o16
      have K17 := sl.hid (K11.out.chg (sl.Chg.ofBelow (lo := 0) b16) (.inr (Nat.zero_le _)))
      have K18 := sl.hid (K12.out.chg (sl.Chg.ofBelow (lo := 0) b16) (.inr (Nat.zero_le _)))
      have K19 := sl.hid (O10.out.chg (sl.Chg.ofBelow (lo := 0) b16) (.inr (.inr (Nat.le_refl _))))
      have C20 := sl.hid (C15.out.trans (b16.mono (by omega)))
      clear b16 K11 K12 O10 C15
      go_wp2_with fail
      refine (sl.toI xs1 _ _ W4 K18.out (by omega) hn1).mono ?_
      rintro e W5 ⟨v21, rfl, o21, b21⟩
      have hz5 := b21.size
      have O21 := sl.hid o21
      clear o21
      have K22 := sl.hid (K17.out.chg (sl.Chg.ofBelow (lo := 0) b21) (.inr (Nat.zero_le _)))
      have K23 := sl.hid (K18.out.chg (sl.Chg.ofBelow (lo := 0) b21) (.inr (Nat.zero_le _)))
      have K24 := sl.hid (K19.out.chg (sl.Chg.ofBelow (lo := 0) b21) (.inr (.inr (Nat.le_refl _))))
      have K25 := sl.hid (O16.out.chg (sl.Chg.ofBelow (lo := 0) b21) (.inr (.inr (Nat.le_refl _))))
      have C26 := sl.hid (C20.out.trans (b21.mono (by omega)))
      clear b21 K17 K18 K19 O16 C20
      go_wp2_with fail
      refine (kn.implSA xs0 xs1 v16 v21 _ _ W5 K25.out.ints O21.out.ints (by omega) (by omega) hn0 hn1 (fn.capok_own K25.out) (fn.capok_own O21.out) (stb.carry HTb.out C26.out)).mono ?_
      rintro e W6 ⟨v27, rfl, o27, b27⟩
      have hz6 := b27.size
      have O27 := sl.hid o27
      clear o27
      have K28 := sl.hid (K22.out.chg (sl.Chg.ofBelow (lo := 0) b27) (.inr (Nat.zero_le _)))
      have K29 := sl.hid (K23.out.chg (sl.Chg.ofBelow (lo := 0) b27) (.inr (Nat.zero_le _)))
      have K30 := sl.hid (K24.out.chg (sl.Chg.ofBelow (lo := 0) b27) (.inr (.inr (Nat.le_refl _))))
      have K31 := sl.hid (K25.out.chg (sl.Chg.ofBelow (lo := 0) b27) (.inr (.inr (Nat.le_refl _))))
      have K32 := sl.hid (O21.out.chg (sl.Chg.ofBelow (lo := 0) b27) (.inr (.inr (Nat.le_refl _))))
      have C33 := sl.hid (C26.out.trans (b27.mono (by omega)))
      clear b27 K22 K23 K24 K25 O21 C26
      go_wp2_with fail
      refine (sl.eqS (st.saW xs0 xs1) v27 v10 _ _ W6 O27.out.ints K30.out.ints hr).mono ?_
      rintro e W7 ⟨rfl, b34⟩
      have hz7 := b34.size
      have K35 := sl.hid (K28.out.chg (sl.Chg.ofBelow (lo := 0) b34) (.inr (Nat.zero_le _)))
      have K36 := sl.hid (K29.out.chg (sl.Chg.ofBelow (lo := 0) b34) (.inr (Nat.zero_le _)))
      have K37 := sl.hid (K30.out.chg (sl.Chg.ofBelow (lo := 0) b34) (.inr (.inr (Nat.le_refl _))))
      have K38 := sl.hid (K31.out.chg (sl.Chg.ofBelow (lo := 0) b34) (.inr (.inr (Nat.le_refl _))))
      have K39 := sl.hid (K32.out.chg (sl.Chg.ofBelow (lo := 0) b34) (.inr (.inr (Nat.le_refl _))))
      have K40 := sl.hid (O27.out.chg (sl.Chg.ofBelow (lo := 0) b34) (.inr (.inr (Nat.le_refl _))))
      have C41 := sl.hid (C33.out.trans (b34.mono (by omega)))
      clear b34 K28 K29 K30 K31 K32 O27 C33
      go_wp2_with fail
      refine (sl.toI xs0 _ _ W7 K35.out (by omega) hn0).mono ?_
      rintro e W8 ⟨v42, rfl, o42, b42⟩
      have hz8 := b42.size
      have O42 := sl.hid o42
      clear o42
      have K43 := sl.hid (K35.out.chg (sl.Chg.ofBelow (lo := 0) b42) (.inr (Nat.zero_le _)))
      have K44 := sl.hid (K36.out.chg (sl.Chg.ofBelow (lo := 0) b42) (.inr (Nat.zero_le _)))
      have K45 := sl.hid (K37.out.chg (sl.Chg.ofBelow (lo := 0) b42) (.inr (.inr (Nat.le_refl _))))
      have K46 := sl.hid (K38.out.chg (sl.Chg.ofBelow (lo := 0) b42) (.inr (.inr (Nat.le_refl _))))
      have K47 := sl.hid (K39.out.chg (sl.Chg.ofBelow (lo := 0) b42) (.inr (.inr (Nat.le_refl _))))
      have K48 := sl.hid (K40.out.chg (sl.Chg.ofBelow (lo := 0) b42) (.inr (.inr (Nat.le_refl _))))
      have C49 := sl.hid (C41.out.trans (b42.mono (by omega)))
      clear b42 K35 K36 K37 K38 K39 K40 C41
      go_wp2_with fail
      refine (sl.eqS xs0 v16 v42 _ _ W8 K46.out.ints O42.out.ints hn0).mono ?_
      rintro e W9 ⟨rfl, b50⟩
      have hz9 := b50.size
      have K51 := sl.hid (K43.out.chg (sl.Chg.ofBelow (lo := 0) b50) (.inr (Nat.zero_le _)))
      have K52 := sl.hid (K44.out.chg (sl.Chg.ofBelow (lo := 0) b50) (.inr (Nat.zero_le _)))
      have K53 := sl.hid (K45.out.chg (sl.Chg.ofBelow (lo := 0) b50) (.inr (.inr (Nat.le_refl _))))
      have K54 := sl.hid (K46.out.chg (sl.Chg.ofBelow (lo := 0) b50) (.inr (.inr (Nat.le_refl _))))
      have K55 := sl.hid (K47.out.chg (sl.Chg.ofBelow (lo := 0) b50) (.inr (.inr (Nat.le_refl _))))
      have K56 := sl.hid (K48.out.chg (sl.Chg.ofBelow (lo := 0) b50) (.inr (.inr (Nat.le_refl _))))
      have K57 := sl.hid (O42.out.chg (sl.Chg.ofBelow (lo := 0) b50) (.inr (.inr (Nat.le_refl _))))
      have C58 := sl.hid (C49.out.trans (b50.mono (by omega)))
      clear b50 K43 K44 K45 K46 K47 K48 O42 C49
      go_wp2_with fail
      refine (sl.toI xs1 _ _ W9 K52.out (by omega) hn1).mono ?_
      rintro e W10 ⟨v59, rfl, o59, b59⟩
      have hz10 := b59.size
      have O59 := sl.hid o59
      clear o59
      have K60 := sl.hid (K51.out.chg (sl.Chg.ofBelow (lo := 0) b59) (.inr (Nat.zero_le _)))
      have K61 := sl.hid (K52.out.chg (sl.Chg.ofBelow (lo := 0) b59) (.inr (Nat.zero_le _)))
      have K62 := sl.hid (K53.out.chg (sl.Chg.ofBelow (lo := 0) b59) (.inr (.inr (Nat.le_refl _))))
      have K63 := sl.hid (K54.out.chg (sl.Chg.ofBelow (lo := 0) b59) (.inr (.inr (Nat.le_refl _))))
      have K64 := sl.hid (K55.out.chg (sl.Chg.ofBelow (lo := 0) b59) (.inr (.inr (Nat.le_refl _))))
      have K65 := sl.hid (K56.out.chg (sl.Chg.ofBelow (lo := 0) b59) (.inr (.inr (Nat.le_refl _))))
      have C66 := sl.hid (C58.out.trans (b59.mono (by omega)))
      clear b59 K51 K52 K53 K54 K55 K56 C58
      go_wp2_with fail
      refine (sl.eqS xs1 v21 v59 _ _ W10 K64.out.ints O59.out.ints hn1).mono ?_
      rintro e W11 ⟨rfl, b67⟩
      have hz11 := b67.size
      have K68 := sl.hid (K60.out.chg (sl.Chg.ofBelow (lo := 0) b67) (.inr (Nat.zero_le _)))
      have K69 := sl.hid (K61.out.chg (sl.Chg.ofBelow (lo := 0) b67) (.inr (Nat.zero_le _)))
      have K70 := sl.hid (K62.out.chg (sl.Chg.ofBelow (lo := 0) b67) (.inr (.inr (Nat.le_refl _))))
      have K71 := sl.hid (K63.out.chg (sl.Chg.ofBelow (lo := 0) b67) (.inr (.inr (Nat.le_refl _))))
      have K72 := sl.hid (K64.out.chg (sl.Chg.ofBelow (lo := 0) b67) (.inr (.inr (Nat.le_refl _))))
      have K73 := sl.hid (K65.out.chg (sl.Chg.ofBelow (lo := 0) b67) (.inr (.inr (Nat.le_refl _))))
      have K74 := sl.hid (O59.out.chg (sl.Chg.ofBelow (lo := 0) b67) (.inr (.inr (Nat.le_refl _))))
      have C75 := sl.hid (C66.out.trans (b67.mono (by omega)))
      clear b67 K60 K61 K62 K63 K64 K65 O59 C66
      go_wp2_with fail
      refine (sl.markI xs0 v16 _ _ (1) W11 K71.out hn0 (by omega) (by omega)).mono ?_
      rintro e W12 ⟨rfl, o76, c76⟩
      have hz12 := c76.size
      have O76 := sl.hid o76
      clear o76 K71
      have K77 := sl.hid (K68.out.chg c76 (by omega))
      have K78 := sl.hid (K69.out.chg c76 (by omega))
      have K79 := sl.hid (K70.out.chg c76 (by omega))
      have K80 := sl.hid (K72.out.chg c76 (by omega))
      have K81 := sl.hid (K73.out.chg c76 (by omega))
      have C82 := sl.hid (C75.out.trans (c76.below (by omega) (by omega)))
      clear c76 K68 K69 K70 K72 K73 C75
      go_wp2_with fail
      refine (sl.markI xs1 v21 _ _ (1 + (xs0.length : Nat)) W12 K80.out hn1 (by omega) (by omega)).mono ?_
      rintro e W13 ⟨rfl, o83, c83⟩
      have hz13 := c83.size
      have O83 := sl.hid o83
      clear o83 K80
      have K84 := sl.hid (K77.out.chg c83 (by omega))
      have K85 := sl.hid (K78.out.chg c83 (by omega))
      have K86 := sl.hid (K79.out.chg c83 (by omega))
      have K87 := sl.hid (O76.out.chg c83 (by omega))
      have K88 := sl.hid (K81.out.chg c83 (by omega))
      have C89 := sl.hid (C82.out.trans (c83.below (by omega) (by omega)))
      clear c83 K77 K78 K79 O76 K81 C82
      go_wp2_with fail
      refine (sl.eqS (st.saW xs0 xs1) v27 v10 _ _ W13 K88.out.ints K86.out.ints hr).mono ?_
      rintro e W14 ⟨rfl, b90⟩
      have hz14 := b90.size
      have K91 := sl.hid (K84.out.chg (sl.Chg.ofBelow (lo := 0) b90) (.inr (Nat.zero_le _)))
      have K92 := sl.hid (K85.out.chg (sl.Chg.ofBelow (lo := 0) b90) (.inr (Nat.zero_le _)))
      have K93 := sl.hid (K86.out.chg (sl.Chg.ofBelow (lo := 0) b90) (.inr (.inr (Nat.le_refl _))))
      have K94 := sl.hid (K88.out.chg (sl.Chg.ofBelow (lo := 0) b90) (.inr (.inr (Nat.le_refl _))))
      have C95 := sl.hid (C89.out.trans (b90.mono (by omega)))
      clear b90 K84 K85 K86 K88 C89
      go_wp2_with fail
      refine (sl.markI (st.saW xs0 xs1) v27 _ _ (1) W14 K94.out hr (by omega) (by omega)).mono ?_
      rintro e W15 ⟨rfl, o96, c96⟩
      have hz15 := c96.size
      have O96 := sl.hid o96
      clear o96 K94
      have K97 := sl.hid (K91.out.chg c96 (by omega))
      have K98 := sl.hid (K92.out.chg c96 (by omega))
      have K99 := sl.hid (K93.out.chg c96 (by omega))
      have C100 := sl.hid (C95.out.trans (c96.below (by omega) (by omega)))
      clear c96 K91 K92 K93 C95
      go_wp2_with fail
      refine (sl.heldI (st.saW xs0 xs1).length v27 _ 1 W15 O96.out.ints hr (by omega) (by omega)).mono ?_
      rintro e W16 ⟨rfl, rfl⟩
      go_wp2_with fail
      refine (sl.toI xs0 _ _ W15 K97.out (by omega) hn0).mono ?_
      rintro e W17 ⟨v101, rfl, o101, b101⟩
      have hz17 := b101.size
      have O101 := sl.hid o101
      clear o101
      have K102 := sl.hid (K97.out.chg (sl.Chg.ofBelow (lo := 0) b101) (.inr (Nat.zero_le _)))
      have K103 := sl.hid (K98.out.chg (sl.Chg.ofBelow (lo := 0) b101) (.inr (Nat.zero_le _)))
      have K104 := sl.hid (K99.out.chg (sl.Chg.ofBelow (lo := 0) b101) (.inr (.inr (Nat.le_refl _))))
      have K105 := sl.hid (O96.out.chg (sl.Chg.ofBelow (lo := 0) b101) (.inr (.inr (Nat.le_refl _))))
      have C106 := sl.hid (C100.out.trans (b101.mono (by omega)))
      clear b101 K97 K98 K99 O96 C100
      go_wp2_with fail
      refine (sl.toI xs1 _ _ W17 K103.out (by omega) hn1).mono ?_
      rintro e W18 ⟨v107, rfl, o107, b107⟩
      have hz18 := b107.size
      have O107 := sl.hid o107
      clear o107
      have K108 := sl.hid (K102.out.chg (sl.Chg.ofBelow (lo := 0) b107) (.inr (Nat.zero_le _)))
      have K109 := sl.hid (K103.out.chg (sl.Chg.ofBelow (lo := 0) b107) (.inr (Nat.zero_le _)))
      have K110 := sl.hid (K104.out.chg (sl.Chg.ofBelow (lo := 0) b107) (.inr (.inr (Nat.le_refl _))))
      have K111 := sl.hid (K105.out.chg (sl.Chg.ofBelow (lo := 0) b107) (.inr (.inr (Nat.le_refl _))))
      have K112 := sl.hid (O101.out.chg (sl.Chg.ofBelow (lo := 0) b107) (.inr (.inr (Nat.le_refl _))))
      have C113 := sl.hid (C106.out.trans (b107.mono (by omega)))
      clear b107 K102 K103 K104 K105 O101 C106
      go_wp2_with fail
      refine (kn.implSA xs0 xs1 v101 v107 _ _ W18 K112.out.ints O107.out.ints (by omega) (by omega) hn0 hn1 (fn.capok_own K112.out) (fn.capok_own O107.out) (stb.carry HTb.out C113.out)).mono ?_
      rintro e W19 ⟨v114, rfl, o114, b114⟩
      have hz19 := b114.size
      have O114 := sl.hid o114
      clear o114
      have K115 := sl.hid (K108.out.chg (sl.Chg.ofBelow (lo := 0) b114) (.inr (Nat.zero_le _)))
      have K116 := sl.hid (K109.out.chg (sl.Chg.ofBelow (lo := 0) b114) (.inr (Nat.zero_le _)))
      have K117 := sl.hid (K110.out.chg (sl.Chg.ofBelow (lo := 0) b114) (.inr (.inr (Nat.le_refl _))))
      have K118 := sl.hid (K111.out.chg (sl.Chg.ofBelow (lo := 0) b114) (.inr (.inr (Nat.le_refl _))))
      have K119 := sl.hid (K112.out.chg (sl.Chg.ofBelow (lo := 0) b114) (.inr (.inr (Nat.le_refl _))))
      have K120 := sl.hid (O107.out.chg (sl.Chg.ofBelow (lo := 0) b114) (.inr (.inr (Nat.le_refl _))))
      have C121 := sl.hid (C113.out.trans (b114.mono (by omega)))
      clear b114 K108 K109 K110 K111 K112 O107 C113
      go_wp2_with fail
      refine (sl.eqS (st.saW xs0 xs1) v114 v10 _ _ W19 O114.out.ints K117.out.ints hr).mono ?_
      rintro e W20 ⟨rfl, b122⟩
      have hz20 := b122.size
      have K123 := sl.hid (K115.out.chg (sl.Chg.ofBelow (lo := 0) b122) (.inr (Nat.zero_le _)))
      have K124 := sl.hid (K116.out.chg (sl.Chg.ofBelow (lo := 0) b122) (.inr (Nat.zero_le _)))
      have K125 := sl.hid (K117.out.chg (sl.Chg.ofBelow (lo := 0) b122) (.inr (.inr (Nat.le_refl _))))
      have K126 := sl.hid (K118.out.chg (sl.Chg.ofBelow (lo := 0) b122) (.inr (.inr (Nat.le_refl _))))
      have K127 := sl.hid (O114.out.chg (sl.Chg.ofBelow (lo := 0) b122) (.inr (.inr (Nat.le_refl _))))
      have C128 := sl.hid (C121.out.trans (b122.mono (by omega)))
      clear b122 K115 K116 K117 K118 O114 C121
      go_wp2_with fail
      refine (sl.heldI (st.saW xs0 xs1).length v27 _ 1 W20 K126.out.ints hr (by omega) (by omega)).mono ?_
      rintro e W21 ⟨rfl, rfl⟩
      go_wp2
      go_ret
      exact ⟨rfl, C128.out⟩
    · have hl1 : decide ((1048576 : Int) < (len1 : Int)) = true := by simp; omega
      go_enter Tryd.func9, Tryd.ntmps9
      go_wp2
      go_ret
      exact ⟨rfl, Below.refl _ _⟩
  · have hl0 : decide ((1048576 : Int) < (len0 : Int)) = true := by simp; omega
    go_enter Tryd.func9, Tryd.ntmps9
    go_wp2
    go_ret
    exact ⟨rfl, Below.refl _ _⟩

/-! ### THE ROW -/
theorem door_met (os : Os) (args : Array Value) : laidMetH Tryd.prog Rows.fnExactStacksAfterRow.laid ((World.doorLaid Tryd.prog 400 os).forCall (fun _ _ => 0) ⟨#[], args, []⟩).memory :=
  laidMetH_of_parts3 (fuel := 8) (laidMet_of_run' 8 (by kernel_rfl) (by kernel_rfl)) (by kernel_rfl) (by kernel_rfl)

/-! ### The row's step. -/
set_option maxRecDepth 100000 in
theorem lifted (os : Os) (started : os.Started) (H : Type) (enc : TypeId × Value → H) :
    ReturnsInHanded {} Tryd.checked os 9 .any (fun w args => (Rows.fnExactStacksAfterSpec.pre enc Tryd.prog Tryd.f9 [] false w args ∧ laidMetH Tryd.prog Rows.fnExactStacksAfterRow.laid w) ∧ sizedMet enc Tryd.prog Tryd.f9 (OpenSpec.ofChange Rows.fnExactStacksAfterSpec) false w args)
      (Rows.fnExactStacksAfterSpec.post enc Tryd.prog Tryd.f9 false true false false) := by
  refine returnsInHanded_of_change_and (C := Tryd.checked) (X := fun w _ => laidMetH Tryd.prog Rows.fnExactStacksAfterRow.laid w) (fun _ _ _ hh h => h.of_heap hh) own started (by kernel_rfl) Tryd.func9
    (ChangeSpec.witness_shaped (enc := enc) (C := Tryd.checked) (os := os) (X := fun w _ => laidMetH Tryd.prog Rows.fnExactStacksAfterRow.laid w) false (World.doorLaid Tryd.prog 400 os) #[.slice none 0 0, .slice none 0 0] 8 rfl (World.shaped_of_RefB (by kernel_rfl) (by kernel_rfl)) (by kernel_rfl) (by kernel_rfl) (by kernel_rfl) (door_met os _)) ?_
  intro W base args ds gs before hval0 hW _ _ hL _
  have hval : ∀ (j : Nat) t v, Tryd.f9.params[j]? = some t → args[j]? = some v → Value.okWide Tryd.prog W .any base t v := hval0
  have hW' := hW
  obtain ⟨p, q, hA0, hV, rfl, hfz, hnd⟩ := hW
  have hA : DataW.TrodAll enc Tryd.prog W 0 (fun _ => true) true Tryd.f9.params.toList args.toList ds p := hA0
  rw [Tryd.params9] at hA hval
  obtain ⟨v0, vs0, d0, ds0, p0, q0, hargs, rfl, rfl, h0, r0⟩ := trodAll_cons hA
  obtain ⟨v1, vs1, d1, ds1, p1, q1, rfl, rfl, rfl, h1, r1⟩ := trodAll_cons r0
  obtain ⟨rfl, rfl, rfl⟩ := trodAll_nil r1
  obtain rfl : args = #[v0, v1] := by cases args; simp_all
  have hVB := fun (W1 : World) (bel : Below W.heap.size W W1) => Below.trodVars laidOut bel (ns := ["loop.example/g00856/impl.stitches"]) (by kernel_rfl) hV
  obtain ⟨g1_, t1_, cs1_, fuel1_, dv1_, pv1_, rfl, _, _, _, _, _⟩ := trodVars_one (n := "loop.example/g00856/impl.stitches") hV
  have k0 := h0
  have lt0 : ∀ x ∈ p0, x.block < W.heap.size := by obtain ⟨m, hm⟩ := k0; exact DataW.trod_lt m _ _ _ hm
  have k1 := h1
  have lt1 : ∀ x ∈ p1, x.block < W.heap.size := by obtain ⟨m, hm⟩ := k1; exact DataW.trod_lt m _ _ _ hm
  have R0 : ∀ W' : World, Below W.heap.size W W' → DataW.Trod enc Tryd.prog W' 0 (fun b => decide (b < W.heap.size)) true 25 v0 d0 p0 := fun W' bel => Below.trod laidOut (by kernel_rfl) (of_decide_eq_true (by kernel_rfl)) k0 bel lt0
  have R1 : ∀ W' : World, Below W.heap.size W W' → DataW.Trod enc Tryd.prog W' 0 (fun b => decide (b < W.heap.size)) true 25 v1 d1 p1 := fun W' bel => Below.trod laidOut (by kernel_rfl) (of_decide_eq_true (by kernel_rfl)) k1 bel lt1
  obtain ⟨a0, len0, cap0, rfl⟩ := okWide_slice Tryd.underlying25 (hval 0 25 v0 rfl rfl)
  obtain ⟨z0, w0⟩ : ∃ zs, IsRow .i64 W a0 len0 cap0 zs := by
    obtain ⟨fuel, hf⟩ := h0
    rcases open_ints Tryd.underlying25 Tryd.underlying2 (by kernel_rfl) hf with ⟨hcs, _⟩ | ⟨x, l, c, zs, hcs, _, hl, hm, hz, _, hcell, hwz⟩
    · simp [Value.cells] at hcs
      obtain ⟨rfl, rfl, rfl⟩ := hcs
      exact ⟨[], .inl ⟨rfl, rfl, rfl, rfl⟩⟩
    · simp [Value.cells] at hcs
      obtain ⟨rfl, rfl, rfl⟩ := hcs
      exact ⟨zs, .inr ⟨_, rfl, hl, hm, by simpa using hz, hcell, hwz⟩⟩
  obtain ⟨a1, len1, cap1, rfl⟩ := okWide_slice Tryd.underlying25 (hval 1 25 v1 rfl rfl)
  obtain ⟨z1, w1⟩ : ∃ zs, IsRow .i64 W a1 len1 cap1 zs := by
    obtain ⟨fuel, hf⟩ := h1
    rcases open_ints Tryd.underlying25 Tryd.underlying2 (by kernel_rfl) hf with ⟨hcs, _⟩ | ⟨x, l, c, zs, hcs, _, hl, hm, hz, _, hcell, hwz⟩
    · simp [Value.cells] at hcs
      obtain ⟨rfl, rfl, rfl⟩ := hcs
      exact ⟨[], .inl ⟨rfl, rfl, rfl, rfl⟩⟩
    · simp [Value.cells] at hcs
      obtain ⟨rfl, rfl, rfl⟩ := hcs
      exact ⟨zs, .inr ⟨_, rfl, hl, hm, by simpa using hz, hcell, hwz⟩⟩
  clear hA0 hval0
  refine (walk a0 len0 cap0 z0 a1 len1 cap1 z1 W w0 w1 hL).mono fun e W' ⟨he, bel⟩ => ?_
  subst he
  exact ⟨_, rfl, _, _, _, [], _, _, hW', trodAll_mk1 (shut_bool Tryd.underlying4 _), (trodAll_cons_mk (R0 _ bel) (trodAll_cons_mk (R1 _ bel) trodAll_mk0)), hVB _ bel, bel.frame _, fun h => by cases h⟩
end Go.Proofs.YtglkchcfggclaaaDoor.fnExactStacksAfter
