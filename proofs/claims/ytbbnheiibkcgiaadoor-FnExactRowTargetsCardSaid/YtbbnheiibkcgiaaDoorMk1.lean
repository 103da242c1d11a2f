/-
  Rows and braids as arguments: their marks.
-/
import Derived.Test.YtbbnheiibkcgiaaDoorCto
namespace Go.Proofs.YtbbnheiibkcgiaaDoor.ct
open Go.RowKit Go.Proofs.YtbbnheiibkcgiaaDoor.sl Go.Proofs.YtbbnheiibkcgiaaDoor.br
set_option linter.unusedVariables false

theorem markW1 (a c : Int) (xs : List Int) (f : Value) (lo hi : Nat) (k0 : Int) (w : World) (ho : sl.Own w lo hi f xs) (hq : l5.Small xs) (hk0 : 0 ≤ k0) (hk1 : k0 ≤ 1048576) :
    Calls Tryd.prog 19 #[.agg #[.int .i64 a, .int .i64 c, f], .int .i64 k0] w fun e w' => ∃ k1 : Int, e = .returned (.int .i64 k1) ∧ 0 ≤ k1 ∧ Chg lo hi w w' := by
  have hB := (Below.refl w.heap.size w).alloc (Nat.le_refl _) (.cells #[.int .i64 a, .int .i64 c, f] 40)
  have hC0 : Chg lo hi w (w.alloc (.cells #[.int .i64 a, .int .i64 c, f] 40)) := ⟨hB.os, hB.tape, hB.output, hB.size, fun k hk _ => hB.block k hk⟩
  have HM := hid (sl.markI xs f lo hi k0 _ (ho.chg (Chg.ofBelow (lo := 0) hB) (.inr (.inr (Nat.zero_le _)))) (by have := hq.len; omega) hk0 (by omega))
  have HC0 := hid hC0
  obtain ⟨ao, cap, hv⟩ := own_val ho
  have hkp : 0 ≤ k0 + (xs.length : Int) := by omega
  clear hB hC0 ho hq
  generalize xs.length = n at *
  subst hv
  go_enter Tryd.func19, Tryd.ntmps19
  go_wp2_with fail
  refine HM.out.mono ?_
  rintro e w1 ⟨rfl, o1, c1⟩
  have HC := hid (HC0.out.trans c1)
  clear c1 o1
  go_wp2
  go_ret
  exact ⟨_, rfl, hkp, HC.out⟩
end Go.Proofs.YtbbnheiibkcgiaaDoor.ct
