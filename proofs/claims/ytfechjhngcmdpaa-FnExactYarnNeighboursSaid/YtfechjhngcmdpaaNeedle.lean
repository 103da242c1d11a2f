/-
  Contracts of the functions behind ValidNeedle, NeedleText and ReadNeedle: ranges, valid needles.
-/
import Derived.Test.YtfechjhngcmdpaaRows
import Derived.WalkKit
import Derived.Deep.QuietTactic
import Derived.BigQuiet
namespace Go.Proofs.Ytfechjhngcmdpaa.nd
open Go.RowKit

def validB (b t : Int) : Bool := decide (1 ≤ b ∧ b ≤ 2) && decide (0 ≤ t ∧ t ≤ 23)

theorem specIn (c lo hi : Int) (w : World) : Calls Try.prog 42 #[.int .i64 c, .int .i64 lo, .int .i64 hi] w fun e w' => e = .returned (.bool (decide (lo ≤ c ∧ c ≤ hi))) ∧ w = w' := by
  by_cases h1 : lo ≤ c <;> by_cases h2 : c ≤ hi <;>
    (go_enter Try.func42, Try.ntmps42
     go_wp2
     go_ret
     exact ⟨by simp [h1, h2], rfl⟩)

theorem within64 (c lo hi : Int) (w : World) : Calls Try.prog 86 #[.int .i64 c, .int .i64 lo, .int .i64 hi] w fun e w' => e = .returned (.bool (decide (lo ≤ c ∧ c ≤ hi))) ∧ w = w' := by
  by_cases h1 : lo ≤ c <;> by_cases h2 : c ≤ hi <;>
    (go_enter Try.func86, Try.ntmps86
     go_wp2
     go_ret
     exact ⟨by simp [h1, h2], rfl⟩)

theorem specBed (b : Int) (w : World) : Calls Try.prog 82 #[.int .i64 b] w fun e w' => e = .returned (.bool (decide (1 ≤ b ∧ b ≤ 2))) ∧ w = w' := by
  go_enter Try.func82, Try.ntmps82
  go_wp2_with (go_at_call 42; refine (specIn _ _ _ _).mono ?_; rintro e w' ⟨rfl, rfl⟩)
  go_ret
  exact ⟨by simp [Bool.decide_and], rfl⟩

theorem specNeedle (b t : Int) (w : World) : Calls Try.prog 41 #[.agg #[.int .i64 b, .int .i64 t]] w fun e w' => e = .returned (.bool (validB b t)) ∧ Below w.heap.size w w' := by
  by_cases h1 : (1 ≤ b ∧ b ≤ 2)
  · have hd : decide (1 ≤ b ∧ b ≤ 2) = true := by simpa using h1
    go_enter Try.func41, Try.ntmps41
    go_wp2_with (first | (go_at_call 82; refine (specBed _ _).mono ?_; rintro e w' ⟨rfl, rfl⟩) | (go_at_call 42; refine (specIn _ _ _ _).mono ?_; rintro e w' ⟨rfl, rfl⟩))
    go_ret
    exact ⟨by simp [validB, h1, Bool.decide_and], (Below.refl _ _).alloc (Nat.le_refl _) _⟩
  · have hd : decide (1 ≤ b ∧ b ≤ 2) = false := by simpa using h1
    go_enter Try.func41, Try.ntmps41
    go_wp2_with (first | (go_at_call 82; refine (specBed _ _).mono ?_; rintro e w' ⟨rfl, rfl⟩) | (go_at_call 42; refine (specIn _ _ _ _).mono ?_; rintro e w' ⟨rfl, rfl⟩))
    go_ret
    exact ⟨by simp [validB, h1], (Below.refl _ _).alloc (Nat.le_refl _) _⟩


theorem implValid (b t : Int) (w : World) : Calls Try.prog 85 #[.agg #[.int .i64 b, .int .i64 t]] w fun e w' => e = .returned (.bool (validB b t)) ∧ Below w.heap.size w w' := by
  by_cases h1 : (1 ≤ b ∧ b ≤ 2)
  · have hd : decide (1 ≤ b ∧ b ≤ 2) = true := by simpa using h1
    go_enter Try.func85, Try.ntmps85
    go_wp2_with (go_at_call 86; refine (within64 _ _ _ _).mono ?_; rintro e w' ⟨rfl, rfl⟩)
    go_ret
    exact ⟨by simp [validB, h1, Bool.decide_and], (Below.refl _ _).alloc (Nat.le_refl _) _⟩
  · have hd : decide (1 ≤ b ∧ b ≤ 2) = false := by simpa using h1
    go_enter Try.func85, Try.ntmps85
    go_wp2_with (go_at_call 86; refine (within64 _ _ _ _).mono ?_; rintro e w' ⟨rfl, rfl⟩)
    go_ret
    exact ⟨by simp [validB, h1], (Below.refl _ _).alloc (Nat.le_refl _) _⟩

theorem toNeedle (b t : Int) (w : World) : Calls Try.prog 14 #[.agg #[.int .i64 b, .int .i64 t]] w fun e w' => e = .returned (.agg #[.int .i64 b, .int .i64 t]) ∧ Below w.heap.size w w' := by
  go_enter Try.func14, Try.ntmps14
  go_wp2
  refine bodyPost_ret (v := .agg #[.int .i64 b, .int .i64 t]) (by simp [results, Try.results14, go_sem]) rfl ⟨rfl, ?_⟩
  repeat (first | exact Below.refl _ _ | refine Below.setCell ?_ (by simp <;> omega) _ | refine Below.alloc ?_ (by simp <;> omega) _)

end Go.Proofs.Ytfechjhngcmdpaa.nd
