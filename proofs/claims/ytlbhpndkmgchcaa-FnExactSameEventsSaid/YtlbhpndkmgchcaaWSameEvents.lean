/-
  The walk of the law of SameEvents.
-/
import Derived.Test.YtlbhpndkmgchcaaEvq
import Derived.Test.YtlbhpndkmgchcaaEv4
import Derived.Test.YtlbhpndkmgchcaaL5
namespace Go.Proofs.Ytlbhpndkmgchcaa.wsameEvents
open Go.RowKit
set_option linter.unusedVariables false

set_option maxRecDepth 100000 in
set_option maxHeartbeats 20000000 in
theorem law (f0 : Value) (xs0 : List ev.V) (f1 : Value) (xs1 : List ev.V) (w : World) (hi0 : ev.OpsIn w f0 xs0) (hi1 : ev.OpsIn w f1 xs1) :
    Calls Try.prog 4 #[f0, f1] w fun e w' => e = .returned (.bool true) ∧ Below w.heap.size w w' := by
  have HA0 := sl.hid hi0.rd
  have HA1 := sl.hid hi1.rd
  have HZ0 := sl.hid (fun W B h => ev.szO xs0 f0 B (1048576) W h hi0.len (by omega) (by omega))
  rcases ev.szL_pos (n := xs0.length) (left := 1048576) (by omega) with hzc0 | hzc0
  · rw [hzc0] at HZ0
    clear hzc0 hi0 hi1
    have C0 : Hid (Below w.heap.size w w) := sl.hid (Below.refl _ _)
    go_enter Try.func4, Try.ntmps4
    go_wp2_with fail
    refine (HZ0.out w _ HA0.out).mono ?_
    rintro e w' ⟨rfl, rfl⟩
    go_wp2
    go_ret
    exact ⟨rfl, Below.refl _ _⟩
  · have HQ0 := sl.hid (ev.small_of (by omega) (by omega) hzc0)
    have htot0 : xs0.length ≤ 1048576 := HQ0.out.len
    have hzl0 := (ev.szL_bound (n := xs0.length) (left := 1048576) (by omega) hzc0).1
    generalize br.szL (1048576) xs0.length = z0 at *
    have HZ1 := sl.hid (fun W B h => ev.szO xs1 f1 B (z0) W h hi1.len (by omega) (by omega))
    rcases ev.szL_pos (n := xs1.length) (left := z0) (by omega) with hzc1 | hzc1
    · rw [hzc1] at HZ1
      clear hzc1 hi0 hi1
      have C0 : Hid (Below w.heap.size w w) := sl.hid (Below.refl _ _)
      go_enter Try.func4, Try.ntmps4
      go_wp2_with fail
      refine (HZ0.out w _ HA0.out).mono ?_
      rintro e w' ⟨rfl, rfl⟩
      go_wp2_with fail
      refine (HZ1.out w _ HA1.out).mono ?_
      rintro e w' ⟨rfl, rfl⟩
      go_wp2
      go_ret
      exact ⟨rfl, Below.refl _ _⟩
    · have HQ1 := sl.hid (ev.small_of (by omega) (by omega) hzc1)
      have htot1 : xs1.length ≤ 1048576 := HQ1.out.len
      have hzl1 := (ev.szL_bound (n := xs1.length) (left := z0) (by omega) hzc1).1
      generalize br.szL (z0) xs1.length = z1 at *
      have SP : Hid (∀ (g0 : Value) (g1 : Value) (B0 : Nat) (B1 : Nat) (W : World), ev.Ops W B0 g0 xs0 → ev.Ops W B1 g1 xs1 → B0 ≤ W.heap.size → B1 ≤ W.heap.size → Calls Try.prog 23 #[g0, g1] W fun e w' => e = .returned (.bool (ev.sameE xs0 xs1)) ∧ Below W.heap.size W w') := sl.hid (fun g0 g1 B0 B1 W j0 j1 l0 l1 => ev.specSame xs0 xs1 g0 g1 B0 B1 W j0 j1 l0 l1 HQ0.out HQ1.out )
      have IP : Hid (∀ (g0 : Value) (g1 : Value) (B0 : Nat) (B1 : Nat) (W : World), ev.Ops W B0 g0 xs0 → ev.Ops W B1 g1 xs1 → B0 ≤ W.heap.size → B1 ≤ W.heap.size → Calls Try.prog 25 #[g0, g1] W fun e w' => e = .returned (.bool (ev.sameE xs0 xs1)) ∧ Below W.heap.size W w') := sl.hid (fun g0 g1 B0 B1 W j0 j1 l0 l1 => ev.implSame xs0 xs1 g0 g1 B0 B1 W j0 j1 l0 l1 HQ0.out HQ1.out )
      generalize ev.sameE xs0 xs1 = q0 at *
      clear hi0 hi1
      have C0 : Hid (Below w.heap.size w w) := sl.hid (Below.refl _ _)
      go_enter Try.func4, Try.ntmps4
      go_wp2_with fail
      refine (HZ0.out w _ HA0.out).mono ?_
      rintro e w' ⟨rfl, rfl⟩
      go_wp2_with fail
      refine (HZ1.out w _ HA1.out).mono ?_
      rintro e w' ⟨rfl, rfl⟩
      go_wp2_with fail
      refine (ev.toOS xs0 _ _ w HA0.out (by omega) HQ0.out).mono ?_
      rintro e W1 ⟨v1, rfl, o1, b1⟩
      have hz1 := b1.size
      have O1 := sl.hid o1
      clear o1
      have K2 := sl.hid (HA0.out.chg (sl.Chg.ofBelow (lo := 0) b1) (.inr (Nat.zero_le _)))
      have K3 := sl.hid (HA1.out.chg (sl.Chg.ofBelow (lo := 0) b1) (.inr (Nat.zero_le _)))
      have C4 := sl.hid (C0.out.trans (b1.mono (by omega)))
      clear b1 HA0 HA1 C0
      go_wp2_with fail
      refine (ev.toOS xs1 _ _ W1 K3.out (by omega) HQ1.out).mono ?_
      rintro e W2 ⟨v5, rfl, o5, b5⟩
      have hz2 := b5.size
      have O5 := sl.hid o5
      clear o5
      have K6 := sl.hid (K2.out.chg (sl.Chg.ofBelow (lo := 0) b5) (.inr (Nat.zero_le _)))
      have K7 := sl.hid (K3.out.chg (sl.Chg.ofBelow (lo := 0) b5) (.inr (Nat.zero_le _)))
      have K8 := sl.hid (O1.out.chg (sl.Chg.ofBelow (lo := 0) b5) (.inr (.inr (Nat.zero_le _))))
      have C9 := sl.hid (C4.out.trans (b5.mono (by omega)))
      clear b5 K2 K3 O1 C4
      go_wp2_with fail
      refine (SP.out _ _ _ _ W2 K8.out.ops O5.out.ops (by omega) (by omega)).mono ?_
      rintro e W3 ⟨rfl, b10⟩
      have hz3 := b10.size
      have K11 := sl.hid (K6.out.chg (sl.Chg.ofBelow (lo := 0) b10) (.inr (Nat.zero_le _)))
      have K12 := sl.hid (K7.out.chg (sl.Chg.ofBelow (lo := 0) b10) (.inr (Nat.zero_le _)))
      have K13 := sl.hid (K8.out.chg (sl.Chg.ofBelow (lo := 0) b10) (.inr (.inr (Nat.zero_le _))))
      have K14 := sl.hid (O5.out.chg (sl.Chg.ofBelow (lo := 0) b10) (.inr (.inr (Nat.zero_le _))))
      have C15 := sl.hid (C9.out.trans (b10.mono (by omega)))
      clear b10 K6 K7 K8 O5 C9
      go_wp2_with fail
      refine (ev.toOS xs0 _ _ W3 K11.out (by omega) HQ0.out).mono ?_
      rintro e W4 ⟨v16, rfl, o16, b16⟩
      have hz4 := b16.size
      have O16 := sl.hid o16
      clear o16
      have K17 := sl.hid (K11.out.chg (sl.Chg.ofBelow (lo := 0) b16) (.inr (Nat.zero_le _)))
      have K18 := sl.hid (K12.out.chg (sl.Chg.ofBelow (lo := 0) b16) (.inr (Nat.zero_le _)))
      have C19 := sl.hid (C15.out.trans (b16.mono (by omega)))
      clear b16 K11 K12 C15
      go_wp2_with fail
      refine (ev.toOS xs1 _ _ W4 K18.out (by omega) HQ1.out).mono ?_
      rintro e W5 ⟨v20, rfl, o20, b20⟩
      have hz5 := b20.size
      have O20 := sl.hid o20
      clear o20
      have K21 := sl.hid (K17.out.chg (sl.Chg.ofBelow (lo := 0) b20) (.inr (Nat.zero_le _)))
      have K22 := sl.hid (K18.out.chg (sl.Chg.ofBelow (lo := 0) b20) (.inr (Nat.zero_le _)))
      have K23 := sl.hid (O16.out.chg (sl.Chg.ofBelow (lo := 0) b20) (.inr (.inr (Nat.zero_le _))))
      have C24 := sl.hid (C19.out.trans (b20.mono (by omega)))
      clear b20 K17 K18 O16 C19
      go_wp2_with fail
      refine (IP.out _ _ _ _ W5 K23.out.ops O20.out.ops (by omega) (by omega)).mono ?_
      rintro e W6 ⟨rfl, b25⟩
      have hz6 := b25.size
      have K26 := sl.hid (K21.out.chg (sl.Chg.ofBelow (lo := 0) b25) (.inr (Nat.zero_le _)))
      have K27 := sl.hid (K22.out.chg (sl.Chg.ofBelow (lo := 0) b25) (.inr (Nat.zero_le _)))
      have K28 := sl.hid (K23.out.chg (sl.Chg.ofBelow (lo := 0) b25) (.inr (.inr (Nat.zero_le _))))
      have K29 := sl.hid (O20.out.chg (sl.Chg.ofBelow (lo := 0) b25) (.inr (.inr (Nat.zero_le _))))
      have C30 := sl.hid (C24.out.trans (b25.mono (by omega)))
      clear b25 K21 K22 K23 O20 C24
      go_wp2_with fail
      refine (ev.toOS xs0 _ _ W6 K26.out (by omega) HQ0.out).mono ?_
      rintro e W7 ⟨v31, rfl, o31, b31⟩
      have hz7 := b31.size
      have O31 := sl.hid o31
      clear o31
      have K32 := sl.hid (K26.out.chg (sl.Chg.ofBelow (lo := 0) b31) (.inr (Nat.zero_le _)))
      have K33 := sl.hid (K27.out.chg (sl.Chg.ofBelow (lo := 0) b31) (.inr (Nat.zero_le _)))
      have K34 := sl.hid (K28.out.chg (sl.Chg.ofBelow (lo := 0) b31) (.inr (.inr (Nat.zero_le _))))
      have K35 := sl.hid (K29.out.chg (sl.Chg.ofBelow (lo := 0) b31) (.inr (.inr (Nat.zero_le _))))
      have C36 := sl.hid (C30.out.trans (b31.mono (by omega)))
      clear b31 K26 K27 K28 K29 C30
      go_wp2_with fail
      refine (ev.eqOS xs0 _ _ _ _ W7 K34.out.ops O31.out.ops HQ0.out).mono ?_
      rintro e W8 ⟨rfl, b37⟩
      have hz8 := b37.size
      have K38 := sl.hid (K32.out.chg (sl.Chg.ofBelow (lo := 0) b37) (.inr (Nat.zero_le _)))
      have K39 := sl.hid (K33.out.chg (sl.Chg.ofBelow (lo := 0) b37) (.inr (Nat.zero_le _)))
      have K40 := sl.hid (K34.out.chg (sl.Chg.ofBelow (lo := 0) b37) (.inr (.inr (Nat.zero_le _))))
      have K41 := sl.hid (K35.out.chg (sl.Chg.ofBelow (lo := 0) b37) (.inr (.inr (Nat.zero_le _))))
      have K42 := sl.hid (O31.out.chg (sl.Chg.ofBelow (lo := 0) b37) (.inr (.inr (Nat.zero_le _))))
      have C43 := sl.hid (C36.out.trans (b37.mono (by omega)))
      clear b37 K32 K33 K34 K35 O31 C36
      go_wp2_with fail
      refine (ev.toOS xs1 _ _ W8 K39.out (by omega) HQ1.out).mono ?_
      rintro e W9 ⟨v44, rfl, o44, b44⟩
      have hz9 := b44.size
      have O44 := sl.hid o44
      clear o44
      have K45 := sl.hid (K38.out.chg (sl.Chg.ofBelow (lo := 0) b44) (.inr (Nat.zero_le _)))
      have K46 := sl.hid (K39.out.chg (sl.Chg.ofBelow (lo := 0) b44) (.inr (Nat.zero_le _)))
      have K47 := sl.hid (K40.out.chg (sl.Chg.ofBelow (lo := 0) b44) (.inr (.inr (Nat.zero_le _))))
      have K48 := sl.hid (K41.out.chg (sl.Chg.ofBelow (lo := 0) b44) (.inr (.inr (Nat.zero_le _))))
      have C49 := sl.hid (C43.out.trans (b44.mono (by omega)))
      clear b44 K38 K39 K40 K41 C43
      go_wp2_with fail
      refine (ev.eqOS xs1 _ _ _ _ W9 K48.out.ops O44.out.ops HQ1.out).mono ?_
      rintro e W10 ⟨rfl, b50⟩
      have hz10 := b50.size
      have K51 := sl.hid (K45.out.chg (sl.Chg.ofBelow (lo := 0) b50) (.inr (Nat.zero_le _)))
      have K52 := sl.hid (K46.out.chg (sl.Chg.ofBelow (lo := 0) b50) (.inr (Nat.zero_le _)))
      have K53 := sl.hid (K47.out.chg (sl.Chg.ofBelow (lo := 0) b50) (.inr (.inr (Nat.zero_le _))))
      have K54 := sl.hid (K48.out.chg (sl.Chg.ofBelow (lo := 0) b50) (.inr (.inr (Nat.zero_le _))))
      have K55 := sl.hid (O44.out.chg (sl.Chg.ofBelow (lo := 0) b50) (.inr (.inr (Nat.zero_le _))))
      have C56 := sl.hid (C49.out.trans (b50.mono (by omega)))
      clear b50 K45 K46 K47 K48 O44 C49
      go_wp2
      go_ret
      exact ⟨rfl, C56.out⟩
end Go.Proofs.Ytlbhpndkmgchcaa.wsameEvents
