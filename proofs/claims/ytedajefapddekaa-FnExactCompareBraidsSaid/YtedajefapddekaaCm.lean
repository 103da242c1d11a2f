/-
  cmp.Compare of integers.
-/
import Derived.Test.YtedajefapddekaaSl
namespace Go.Proofs.Ytedajefapddekaa.mj
open Go.RowKit Go.Proofs.Ytedajefapddekaa.sl

def cmpI (x y : Int) : Int := if x < y then -1 else if y < x then 1 else 0

theorem nanI (x : Int) (w : World) : Calls Try.prog 139 #[.int .i64 x] w fun e w' => e = .returned (.bool false) ∧ w' = w := by
  have h : (x != x) = false := by simp
  go_enter Try.func139, Try.ntmps139
  go_wp2
  go_ret
  exact ⟨rfl, rfl⟩

theorem cmpC (x y : Int) (w : World) : Calls Try.prog 125 #[.int .i64 x, .int .i64 y] w fun e w' => e = .returned (.int .i64 (cmpI x y)) ∧ w' = w := by
  by_cases h1 : x < y
  · have HF : Hid (cmpI x y = -1) := hid (by rw [cmpI, if_pos h1])
    go_enter Try.func125, Try.ntmps125
    go_wp2_with (go_at_call 139; refine (nanI _ _).mono ?_; rintro e w' ⟨rfl, rfl⟩)
    go_ret
    exact ⟨by rw [HF.out]; rfl, rfl⟩
  · by_cases h2 : y < x
    · have HF : Hid (cmpI x y = 1) := hid (by rw [cmpI, if_neg h1, if_pos h2])
      go_enter Try.func125, Try.ntmps125
      go_wp2_with (go_at_call 139; refine (nanI _ _).mono ?_; rintro e w' ⟨rfl, rfl⟩)
      go_ret
      exact ⟨by rw [HF.out]; rfl, rfl⟩
    · have HF : Hid (cmpI x y = 0) := hid (by rw [cmpI, if_neg h1, if_neg h2])
      go_enter Try.func125, Try.ntmps125
      go_wp2_with (go_at_call 139; refine (nanI _ _).mono ?_; rintro e w' ⟨rfl, rfl⟩)
      go_ret
      exact ⟨by rw [HF.out]; rfl, rfl⟩

end Go.Proofs.Ytedajefapddekaa.mj
