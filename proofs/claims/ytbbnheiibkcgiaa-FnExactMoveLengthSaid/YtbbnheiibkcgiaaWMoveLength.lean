/-
  The walk of the law of MoveLength.
-/
import Derived.Test.YtbbnheiibkcgiaaMz1
namespace Go.Proofs.Ytbbnheiibkcgiaa.wmoveLength
open Go.RowKit
set_option linter.unusedVariables false

set_option maxRecDepth 100000 in
set_option maxHeartbeats 20000000 in
theorem law (f0 : Value) (xs0 : List mv.V) (w : World) (hi0 : mv.OpsIn w f0 xs0) :
    Calls Try.prog 9 #[f0] w fun e w' => e = .returned (.bool true) ∧ Below w.heap.size w w' := by
  have HA0 := sl.hid hi0.rd
  have HZ0 := sl.hid (fun W B h => mv.szO xs0 f0 B (1048576) W h hi0.len (by omega) (by omega))
  rcases mv.szL_pos (n := xs0.length) (left := 1048576) (by omega) with hzc0 | hzc0
  · rw [hzc0] at HZ0
    clear hzc0 hi0
    have C0 : Hid (Below w.heap.size w w) := sl.hid (Below.refl _ _)
    go_enter Try.func9, Try.ntmps9
    go_wp2_with fail
    refine (HZ0.out w _ HA0.out).mono ?_
    rintro e w' ⟨rfl, rfl⟩
    go_wp2
    go_ret
    exact ⟨rfl, Below.refl _ _⟩
  · have HQ0 := sl.hid (mv.small_of (by omega) (by omega) hzc0)
    have htot0 : xs0.length ≤ 1048576 := HQ0.out.len
    have hzl0 := (mv.szL_bound (n := xs0.length) (left := 1048576) (by omega) hzc0).1
    generalize br.szL (1048576) xs0.length = z0 at *
    have SP : Hid (∀ (g0 : Value) (B0 : Nat) (W : World), mv.Ops W B0 g0 xs0 → B0 ≤ W.heap.size → Calls Try.prog 31 #[g0] W fun e w' => e = .returned (.int .i64 (mo.mlI xs0)) ∧ Below W.heap.size W w') := sl.hid (fun g0 B0 W  j0 l0 => mo.specML xs0 g0 B0 W j0 l0 HQ0.out )
    have IP : Hid (∀ (g0 : Value) (B0 : Nat) (W : World), mv.Ops W B0 g0 xs0 → B0 ≤ W.heap.size → Calls Try.prog 33 #[g0] W fun e w' => e = .returned (.int .i64 (mo.mlI xs0)) ∧ Below W.heap.size W w') := sl.hid (fun g0 B0 W  j0 l0 => mo.implML xs0 g0 B0 W j0 l0 HQ0.out )
    generalize mo.mlI xs0 = q0 at *
    clear hi0
    have C0 : Hid (Below w.heap.size w w) := sl.hid (Below.refl _ _)
    go_enter Try.func9, Try.ntmps9
    go_wp2_with fail
    refine (HZ0.out w _ HA0.out).mono ?_
    rintro e w' ⟨rfl, rfl⟩
    go_wp2_with fail
    refine (mv.toOS xs0 _ _ w HA0.out (by omega) HQ0.out).mono ?_
    rintro e W1 ⟨v1, rfl, o1, b1⟩
    have hz1 := b1.size
    have O1 := sl.hid o1
    clear o1
    have K2 := sl.hid (HA0.out.chg (sl.Chg.ofBelow (lo := 0) b1) (.inr (Nat.zero_le _)))
    have C3 := sl.hid (C0.out.trans (b1.mono (by omega)))
    clear b1 HA0 C0
    go_wp2_with fail
    refine (SP.out _ _ W1 O1.out.ops (by omega)).mono ?_
    rintro e W2 ⟨rfl, b4⟩
    have hz2 := b4.size
    have K5 := sl.hid (K2.out.chg (sl.Chg.ofBelow (lo := 0) b4) (.inr (Nat.zero_le _)))
    have K6 := sl.hid (O1.out.chg (sl.Chg.ofBelow (lo := 0) b4) (.inr (.inr (Nat.zero_le _))))
    have C7 := sl.hid (C3.out.trans (b4.mono (by omega)))
    clear b4 K2 O1 C3
    go_wp2_with fail
    refine (mv.toOS xs0 _ _ W2 K5.out (by omega) HQ0.out).mono ?_
    rintro e W3 ⟨v8, rfl, o8, b8⟩
    have hz3 := b8.size
    have O8 := sl.hid o8
    clear o8
    have K9 := sl.hid (K5.out.chg (sl.Chg.ofBelow (lo := 0) b8) (.inr (Nat.zero_le _)))
    have C10 := sl.hid (C7.out.trans (b8.mono (by omega)))
    clear b8 K5 C7
    go_wp2_with fail
    refine (IP.out _ _ W3 O8.out.ops (by omega)).mono ?_
    rintro e W4 ⟨rfl, b11⟩
    have hz4 := b11.size
    have K12 := sl.hid (K9.out.chg (sl.Chg.ofBelow (lo := 0) b11) (.inr (Nat.zero_le _)))
    have K13 := sl.hid (O8.out.chg (sl.Chg.ofBelow (lo := 0) b11) (.inr (.inr (Nat.zero_le _))))
    have C14 := sl.hid (C10.out.trans (b11.mono (by omega)))
    clear b11 K9 O8 C10
    go_wp2_with fail
    refine (mv.toOS xs0 _ _ W4 K12.out (by omega) HQ0.out).mono ?_
    rintro e W5 ⟨v15, rfl, o15, b15⟩
    have hz5 := b15.size
    have O15 := sl.hid o15
    clear o15
    have K16 := sl.hid (K12.out.chg (sl.Chg.ofBelow (lo := 0) b15) (.inr (Nat.zero_le _)))
    have K17 := sl.hid (K13.out.chg (sl.Chg.ofBelow (lo := 0) b15) (.inr (.inr (Nat.zero_le _))))
    have C18 := sl.hid (C14.out.trans (b15.mono (by omega)))
    clear b15 K12 K13 C14
    go_wp2_with fail
    refine (mv.eqOS xs0 _ _ _ _ W5 K17.out.ops O15.out.ops HQ0.out).mono ?_
    rintro e W6 ⟨rfl, b19⟩
    have hz6 := b19.size
    have K20 := sl.hid (K16.out.chg (sl.Chg.ofBelow (lo := 0) b19) (.inr (Nat.zero_le _)))
    have K21 := sl.hid (K17.out.chg (sl.Chg.ofBelow (lo := 0) b19) (.inr (.inr (Nat.zero_le _))))
    have K22 := sl.hid (O15.out.chg (sl.Chg.ofBelow (lo := 0) b19) (.inr (.inr (Nat.zero_le _))))
    have C23 := sl.hid (C18.out.trans (b19.mono (by omega)))
    clear b19 K16 K17 O15 C18
    go_wp2
    go_ret
    exact ⟨rfl, C23.out⟩
end Go.Proofs.Ytbbnheiibkcgiaa.wmoveLength
