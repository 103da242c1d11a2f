/-
  The walk of the law of CrossColumns.
-/
import Derived.Test.YtedajefapddekaaOc1
import Derived.Test.YtedajefapddekaaL5
namespace Go.Proofs.Ytedajefapddekaa.wcrossColumns
open Go.RowKit
set_option linter.unusedVariables false

set_option maxRecDepth 100000 in
set_option maxHeartbeats 20000000 in
theorem law (a0 : Int) (a1 : Bool) (w : World) (h0 : -9223372036854775808 ≤ a0 ∧ a0 ≤ 9223372036854775807) :
    Calls Try.prog 4 #[.int .i64 a0, .bool a1] w fun e w' => e = .returned (.bool true) ∧ Below w.heap.size w w' := by
  have SP : Hid (∀   (W : World), Calls Try.prog 20 #[.int .i64 a0, .bool a1] W fun e w' => ∃ v', e = .returned (.tuple #[v', .int .i64 (mo.ccC a0)]) ∧ qo.OOwn w' W.heap.size w'.heap.size v' (mo.ccW a0 a1) ∧ Below W.heap.size W w') := sl.hid (fun   W    => mo.specCC a0 a1   W    )
  have IP : Hid (∀   (W : World), Calls Try.prog 21 #[.int .i64 a0, .bool a1] W fun e w' => ∃ v', e = .returned (.tuple #[v', .int .i64 (mo.ccC a0)]) ∧ qo.OOwn w' W.heap.size w'.heap.size v' (mo.ccW a0 a1) ∧ Below W.heap.size W w') := sl.hid (fun   W    => mo.implCC a0 a1   W    )
  have hr0 : (mo.ccW a0 a1).length ≤ 20000 := mo.ccW_len a0 a1
  have hr : (mo.ccW a0 a1).length ≤ 1099511627776 := by omega
  have HQr : Hid (qo.Small (mo.ccW a0 a1)) := sl.hid ⟨by omega⟩
  generalize mo.ccW a0 a1 = zr at *
  generalize mo.ccC a0 = q1 at *
  have C0 : Hid (Below w.heap.size w w) := sl.hid (Below.refl _ _)
  go_enter Try.func4, Try.ntmps4
  go_wp2_with fail
  refine (SP.out   w  ).mono ?_
  rintro e W1 ⟨v1, rfl, o1, b1⟩
  have hz1 := b1.size
  have O1 := sl.hid o1
  clear o1
  have C2 := sl.hid (C0.out.trans (b1.mono (by omega)))
  clear b1 C0
  go_wp2_with fail
  refine (IP.out   W1  ).mono ?_
  rintro e W2 ⟨v3, rfl, o3, b3⟩
  have hz2 := b3.size
  have O3 := sl.hid o3
  clear o3
  have K4 := sl.hid (O1.out.chg (sl.Chg.ofBelow (lo := 0) b3) (.inr (.inr (Nat.zero_le _))))
  have C5 := sl.hid (C2.out.trans (b3.mono (by omega)))
  clear b3 O1 C2
  go_wp2_with fail
  refine (qo.eqOS zr _ _ _ _ W2 O3.out.ops K4.out.ops HQr.out).mono ?_
  rintro e W3 ⟨rfl, b6⟩
  have hz3 := b6.size
  have K7 := sl.hid (K4.out.chg (sl.Chg.ofBelow (lo := 0) b6) (.inr (.inr (Nat.zero_le _))))
  have K8 := sl.hid (O3.out.chg (sl.Chg.ofBelow (lo := 0) b6) (.inr (.inr (Nat.zero_le _))))
  have C9 := sl.hid (C5.out.trans (b6.mono (by omega)))
  clear b6 K4 O3 C5
  go_wp2_with fail
  refine (qo.markOS zr _ _ _ (1) W3 K8.out HQr.out (by omega) (by omega)).mono ?_
  rintro e W4 ⟨rfl, o10, c10⟩
  have hz4 := c10.size
  have O10 := sl.hid o10
  clear o10 K8
  have K11 := sl.hid (K7.out.chg c10 (by omega))
  have C12 := sl.hid (C9.out.trans (c10.below (by omega) (by omega)))
  clear c10 K7 C9
  go_wp2_with fail
  refine (qo.heldOS zr.length _ _ 1 W4 O10.out.ops (by omega) (by omega) (by omega)).mono ?_
  rintro e W5 ⟨rfl, rfl⟩
  go_wp2_with fail
  refine (IP.out   W4  ).mono ?_
  rintro e W6 ⟨v13, rfl, o13, b13⟩
  have hz6 := b13.size
  have O13 := sl.hid o13
  clear o13
  have K14 := sl.hid (K11.out.chg (sl.Chg.ofBelow (lo := 0) b13) (.inr (.inr (Nat.zero_le _))))
  have K15 := sl.hid (O10.out.chg (sl.Chg.ofBelow (lo := 0) b13) (.inr (.inr (Nat.zero_le _))))
  have C16 := sl.hid (C12.out.trans (b13.mono (by omega)))
  clear b13 K11 O10 C12
  go_wp2_with fail
  refine (qo.eqOS zr _ _ _ _ W6 O13.out.ops K14.out.ops HQr.out).mono ?_
  rintro e W7 ⟨rfl, b17⟩
  have hz7 := b17.size
  have K18 := sl.hid (K14.out.chg (sl.Chg.ofBelow (lo := 0) b17) (.inr (.inr (Nat.zero_le _))))
  have K19 := sl.hid (K15.out.chg (sl.Chg.ofBelow (lo := 0) b17) (.inr (.inr (Nat.zero_le _))))
  have K20 := sl.hid (O13.out.chg (sl.Chg.ofBelow (lo := 0) b17) (.inr (.inr (Nat.zero_le _))))
  have C21 := sl.hid (C16.out.trans (b17.mono (by omega)))
  clear b17 K14 K15 O13 C16
  go_wp2_with fail
  refine (qo.heldOS zr.length _ _ 1 W7 K19.out.ops (by omega) (by omega) (by omega)).mono ?_
  rintro e W8 ⟨rfl, rfl⟩
  go_wp2
  go_ret
  exact ⟨rfl, C21.out⟩
end Go.Proofs.Ytedajefapddekaa.wcrossColumns
