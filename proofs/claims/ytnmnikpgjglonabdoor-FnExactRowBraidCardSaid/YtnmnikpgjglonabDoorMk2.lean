/-
  markRow at an argument, with what it answers.
-/
import Derived.Test.YtnmnikpgjglonabDoorMk1
namespace Go.Proofs.YtnmnikpgjglonabDoor.ct
open Go.RowKit Go.Proofs.YtnmnikpgjglonabDoor.sl Go.Proofs.YtnmnikpgjglonabDoor.br
set_option linter.unusedVariables false

theorem markW2 (a c : Int) (xs : List Int) (f : Value) (lo hi : Nat) (k0 : Int) (w : World) (ho : sl.Own w lo hi f xs) (hq : l5.Small xs) (hk0 : 0 ≤ k0) (hk1 : k0 ≤ 1048576) :
    Calls Tryd.prog 35 #[.agg #[.int .i64 a, .int .i64 c, f], .int .i64 k0] w fun e w' => e = .returned (.int .i64 (k0 + xs.length)) ∧ sl.Own w' lo hi f (sl.marks k0 xs.length) ∧ Chg lo hi w w' := by
  have hB := (Below.refl w.heap.size w).alloc (Nat.le_refl _) (.cells #[.int .i64 a, .int .i64 c, f] 56)
  have hC0 : Chg lo hi w (w.alloc (.cells #[.int .i64 a, .int .i64 c, f] 56)) := ⟨hB.os, hB.tape, hB.output, hB.size, fun k hk _ => hB.block k hk⟩
  have HM := hid (sl.markI xs f lo hi k0 _ (ho.chg (Chg.ofBelow (lo := 0) hB) (.inr (.inr (Nat.zero_le _)))) (by have := hq.len; omega) hk0 (by omega))
  have HC0 := hid hC0
  obtain ⟨ao, cap, hv⟩ := own_val ho
  have hkp : 0 ≤ k0 + (xs.length : Int) := by omega
  clear hB hC0 ho hq
  generalize xs.length = n at *
  subst hv
  go_enter Tryd.func35, Tryd.ntmps35
  go_wp2_with fail
  refine HM.out.mono ?_
  rintro e w1 ⟨rfl, o1, c1⟩
  have HC := hid (HC0.out.trans c1)
  have HO := hid o1
  clear c1 o1
  go_wp2
  go_ret
  exact ⟨rfl, HO.out, HC.out⟩
end Go.Proofs.YtnmnikpgjglonabDoor.ct
