/-
  Kinds of stitches: contracts of ColumnsTaken, ColumnsMade, MirrorStitch of both sides.
-/
import Derived.Test.YtiacfejileeieaaStb
import Derived.Test.YtiacfejileeieaaPerm
namespace Go.Proofs.Ytiacfejileeieaa.st
open Go.RowKit Go.Proofs.Ytiacfejileeieaa.sl Go.Proofs.Ytiacfejileeieaa.pm
set_option linter.unusedVariables false

theorem specKind (k : Int) (w : World) : Calls Try.prog 106 #[.int .i64 k] w fun e w' => e = .returned (.bool (knd k)) ∧ w = w' := by
  obtain ⟨q, hq⟩ : ∃ q, q = knd k := ⟨_, rfl⟩
  have H := hid (fun w1 => show Calls Try.prog 56 #[.int .i64 k, .int .i64 1, .int .i64 11] w1 fun e w2 => e = .returned (.bool q) ∧ w1 = w2 from by rw [hq]; exact specIn k 1 11 w1)
  rw [← hq]
  clear hq
  go_enter Try.func106, Try.ntmps106
  go_wp2_with fail
  refine (H.out _).mono ?_
  rintro e w1 ⟨rfl, rfl⟩
  go_wp2
  go_ret
  exact ⟨rfl, rfl⟩
theorem implStitch (k : Int) (w : World) : Calls Try.prog 124 #[.int .i64 k] w fun e w' => e = .returned (.bool (knd k)) ∧ w = w' := by
  obtain ⟨q, hq⟩ : ∃ q, q = knd k := ⟨_, rfl⟩
  have H := hid (fun w1 => show Calls Try.prog 59 #[.int .i64 k, .int .i64 1, .int .i64 11] w1 fun e w2 => e = .returned (.bool q) ∧ w1 = w2 from by rw [hq]; exact within64 k 1 11 w1)
  rw [← hq]
  clear hq
  go_enter Try.func124, Try.ntmps124
  go_wp2_with fail
  refine (H.out _).mono ?_
  rintro e w1 ⟨rfl, rfl⟩
  go_wp2
  go_ret
  exact ⟨rfl, rfl⟩



end Go.Proofs.Ytiacfejileeieaa.st
