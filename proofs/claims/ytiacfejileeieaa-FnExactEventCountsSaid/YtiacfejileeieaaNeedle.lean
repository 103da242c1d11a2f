/-
  Contracts of the functions behind ValidNeedle, NeedleText and ReadNeedle: ranges, valid needles.
-/
import Derived.Test.YtiacfejileeieaaRows
import Derived.WalkKit
import Derived.Deep.QuietTactic
import Derived.BigQuiet
namespace Go.Proofs.Ytiacfejileeieaa.nd
open Go.RowKit

def validB (b t : Int) : Bool := decide (1 ≤ b ∧ b ≤ 2) && decide (0 ≤ t ∧ t ≤ 23)

theorem specIn (c lo hi : Int) (w : World) : Calls Try.prog 56 #[.int .i64 c, .int .i64 lo, .int .i64 hi] w fun e w' => e = .returned (.bool (decide (lo ≤ c ∧ c ≤ hi))) ∧ w = w' := by
  by_cases h1 : lo ≤ c <;> by_cases h2 : c ≤ hi <;>
    (go_enter Try.func56, Try.ntmps56
     go_wp2
     go_ret
     exact ⟨by simp [h1, h2], rfl⟩)

theorem within64 (c lo hi : Int) (w : World) : Calls Try.prog 59 #[.int .i64 c, .int .i64 lo, .int .i64 hi] w fun e w' => e = .returned (.bool (decide (lo ≤ c ∧ c ≤ hi))) ∧ w = w' := by
  by_cases h1 : lo ≤ c <;> by_cases h2 : c ≤ hi <;>
    (go_enter Try.func59, Try.ntmps59
     go_wp2
     go_ret
     exact ⟨by simp [h1, h2], rfl⟩)

theorem specBed (b : Int) (w : World) : Calls Try.prog 125 #[.int .i64 b] w fun e w' => e = .returned (.bool (decide (1 ≤ b ∧ b ≤ 2))) ∧ w = w' := by
  go_enter Try.func125, Try.ntmps125
  go_wp2_with (go_at_call 56; refine (specIn _ _ _ _).mono ?_; rintro e w' ⟨rfl, rfl⟩)
  go_ret
  exact ⟨by simp [Bool.decide_and], rfl⟩


end Go.Proofs.Ytiacfejileeieaa.nd
