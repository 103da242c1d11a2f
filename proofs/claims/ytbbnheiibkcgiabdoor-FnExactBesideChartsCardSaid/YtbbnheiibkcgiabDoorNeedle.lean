/-
  Contracts of the functions behind ValidNeedle, NeedleText and ReadNeedle: ranges, valid needles.
-/
import Derived.Test.YtbbnheiibkcgiabDoorRows
import Derived.WalkKit
import Derived.Deep.QuietTactic
import Derived.BigQuiet
namespace Go.Proofs.YtbbnheiibkcgiabDoor.nd
open Go.RowKit

def validB (b t : Int) : Bool := decide (1 ≤ b ∧ b ≤ 2) && decide (0 ≤ t ∧ t ≤ 23)

theorem specIn (c lo hi : Int) (w : World) : Calls Tryd.prog 16 #[.int .i64 c, .int .i64 lo, .int .i64 hi] w fun e w' => e = .returned (.bool (decide (lo ≤ c ∧ c ≤ hi))) ∧ w = w' := by
  by_cases h1 : lo ≤ c <;> by_cases h2 : c ≤ hi <;>
    (go_enter Tryd.func16, Tryd.ntmps16
     go_wp2
     go_ret
     exact ⟨by simp [h1, h2], rfl⟩)

theorem within64 (c lo hi : Int) (w : World) : Calls Tryd.prog 21 #[.int .i64 c, .int .i64 lo, .int .i64 hi] w fun e w' => e = .returned (.bool (decide (lo ≤ c ∧ c ≤ hi))) ∧ w = w' := by
  by_cases h1 : lo ≤ c <;> by_cases h2 : c ≤ hi <;>
    (go_enter Tryd.func21, Tryd.ntmps21
     go_wp2
     go_ret
     exact ⟨by simp [h1, h2], rfl⟩)


end Go.Proofs.YtbbnheiibkcgiabDoor.nd
