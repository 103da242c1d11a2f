/-
  The walk of the law of ColumnOfNeedle.
-/
import Derived.Test.YtbbnheiibkcgiaaCn0
namespace Go.Proofs.Ytbbnheiibkcgiaa.wcolumnOfNeedle
open Go.RowKit
set_option linter.unusedVariables false

set_option maxRecDepth 100000 in
set_option maxHeartbeats 20000000 in
theorem law (a0 : Int) (w : World) (h0 : -9223372036854775808 ≤ a0 ∧ a0 ≤ 9223372036854775807) :
    Calls Try.prog 4 #[.int .i64 a0] w fun e w' => e = .returned (.bool true) ∧ Below w.heap.size w w' := by
  have SP : Hid (∀   (W : World), Calls Try.prog 12 #[.int .i64 a0] W fun e w' => e = .returned (.tuple #[.int .i64 (mo.cnI a0), .bool (mo.cnB a0)]) ∧ Below W.heap.size W w') := sl.hid (fun   W    => mo.specCNb a0   W    )
  have IP : Hid (∀   (W : World), Calls Try.prog 13 #[.int .i64 a0] W fun e w' => e = .returned (.tuple #[.int .i64 (mo.cnI a0), .bool (mo.cnB a0)]) ∧ Below W.heap.size W w') := sl.hid (fun   W    => mo.implCNb a0   W    h0)
  generalize mo.cnI a0 = q0 at *
  generalize mo.cnB a0 = q1 at *
  have C0 : Hid (Below w.heap.size w w) := sl.hid (Below.refl _ _)
  go_enter Try.func4, Try.ntmps4
  go_wp2_with fail
  refine (SP.out   w  ).mono ?_
  rintro e W1 ⟨rfl, b1⟩
  have hz1 := b1.size
  have C2 := sl.hid (C0.out.trans (b1.mono (by omega)))
  clear b1 C0
  go_wp2_with fail
  refine (IP.out   W1  ).mono ?_
  rintro e W2 ⟨rfl, b3⟩
  have hz2 := b3.size
  have C4 := sl.hid (C2.out.trans (b3.mono (by omega)))
  clear b3 C2
  go_wp2
  go_ret
  exact ⟨rfl, C4.out⟩
end Go.Proofs.Ytbbnheiibkcgiaa.wcolumnOfNeedle
