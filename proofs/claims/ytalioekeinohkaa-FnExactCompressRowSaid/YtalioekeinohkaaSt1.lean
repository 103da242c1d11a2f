/-
  Kinds of stitches: contracts of ColumnsTaken, ColumnsMade, MirrorStitch of both sides.
-/
import Derived.Test.YtalioekeinohkaaStb
import Derived.Test.YtalioekeinohkaaPerm
namespace Go.Proofs.Ytalioekeinohkaa.st
open Go.RowKit Go.Proofs.Ytalioekeinohkaa.sl Go.Proofs.Ytalioekeinohkaa.pm
set_option linter.unusedVariables false

theorem specKind (k : Int) (w : World) : Calls Try.prog 38 #[.int .i64 k] w fun e w' => e = .returned (.bool (knd k)) ∧ w = w' := by
  obtain ⟨q, hq⟩ : ∃ q, q = knd k := ⟨_, rfl⟩
  have H := hid (fun w1 => show Calls Try.prog 41 #[.int .i64 k, .int .i64 1, .int .i64 11] w1 fun e w2 => e = .returned (.bool q) ∧ w1 = w2 from by rw [hq]; exact specIn k 1 11 w1)
  rw [← hq]
  clear hq
  go_enter Try.func38, Try.ntmps38
  go_wp2_with fail
  refine (H.out _).mono ?_
  rintro e w1 ⟨rfl, rfl⟩
  go_wp2
  go_ret
  exact ⟨rfl, rfl⟩
theorem implStitch (k : Int) (w : World) : Calls Try.prog 40 #[.int .i64 k] w fun e w' => e = .returned (.bool (knd k)) ∧ w = w' := by
  obtain ⟨q, hq⟩ : ∃ q, q = knd k := ⟨_, rfl⟩
  have H := hid (fun w1 => show Calls Try.prog 43 #[.int .i64 k, .int .i64 1, .int .i64 11] w1 fun e w2 => e = .returned (.bool q) ∧ w1 = w2 from by rw [hq]; exact within64 k 1 11 w1)
  rw [← hq]
  clear hq
  go_enter Try.func40, Try.ntmps40
  go_wp2_with fail
  refine (H.out _).mono ?_
  rintro e w1 ⟨rfl, rfl⟩
  go_wp2
  go_ret
  exact ⟨rfl, rfl⟩



end Go.Proofs.Ytalioekeinohkaa.st
