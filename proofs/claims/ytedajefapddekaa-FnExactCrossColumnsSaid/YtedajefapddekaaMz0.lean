/-
  Moves: valid ones, their distances (both sides); MoveLength of both sides.
-/
import Derived.Test.YtedajefapddekaaPl0
import Derived.Test.YtedajefapddekaaMv5
import Derived.Test.YtedajefapddekaaEx
namespace Go.Proofs.Ytedajefapddekaa.mo
open Go.RowKit Go.Sort Go.Proofs.Ytedajefapddekaa.sl Go.Proofs.Ytedajefapddekaa.pm
set_option linter.unusedVariables false

/-- A valid move; its distance. -/
def mvB (a b : Int) : Bool := decide (0 ≤ a ∧ a ≤ 23) && (decide (0 ≤ b ∧ b ≤ 23) && (decide (1 ≤ b - a ∨ 1 ≤ a - b) && (decide (b - a ≤ 3) && decide (a - b ≤ 3))))
def dsI (a b : Int) : Int := if a ≤ b then b - a else a - b
theorem mv_iff {a b : Int} : mvB a b = true ↔ (0 ≤ a ∧ a ≤ 23) ∧ (0 ≤ b ∧ b ≤ 23) ∧ (1 ≤ b - a ∨ 1 ≤ a - b) ∧ b - a ≤ 3 ∧ a - b ≤ 3 := by
  simp only [mvB, Bool.and_eq_true, decide_eq_true_eq]
theorem mv_no {a b : Int} (h : ¬ ((0 ≤ a ∧ a ≤ 23) ∧ (0 ≤ b ∧ b ≤ 23) ∧ (1 ≤ b - a ∨ 1 ≤ a - b) ∧ b - a ≤ 3 ∧ a - b ≤ 3)) : mvB a b = false := by
  cases hm : mvB a b
  · rfl
  · exact absurd (mv_iff.1 hm) h

theorem within64R (c lo hi : Int) (q : Bool) (hq : decide (lo ≤ c ∧ c ≤ hi) = q) (w : World) : Calls Try.prog 60 #[.int .i64 c, .int .i64 lo, .int .i64 hi] w fun e w' => e = .returned (.bool q) ∧ w = w' := by
  subst hq; exact (pm.within64 c lo hi w).mono fun _ _ h => ⟨by rw [h.1], h.2⟩
theorem specInR (c lo hi : Int) (q : Bool) (hq : decide (lo ≤ c ∧ c ≤ hi) = q) (w : World) : Calls Try.prog 53 #[.int .i64 c, .int .i64 lo, .int .i64 hi] w fun e w' => e = .returned (.bool q) ∧ w = w' := by
  subst hq; exact (pm.specIn c lo hi w).mono fun _ _ h => ⟨by rw [h.1], h.2⟩

theorem dist (a b : Int) (h : (0 ≤ a ∧ a ≤ 23) ∧ (0 ≤ b ∧ b ≤ 23)) (w : World) : Calls Try.prog 56 #[.agg #[.int .i64 a, .int .i64 b]] w fun e w' => e = .returned (.int .i64 (dsI a b)) ∧ Below w.heap.size w w' := by
  have e1 : IntKind.i64.wrap (b - a) = b - a := IntWalk.i64_in _ (by omega)
  have e2 : IntKind.i64.wrap (a - b) = a - b := IntWalk.i64_in _ (by omega)
  have hb := (Below.refl w.heap.size w).alloc (Nat.le_refl _) (.cells #[.int .i64 a, .int .i64 b] 71)
  clear h
  go_enter Try.func56, Try.ntmps56
  go_wp2
  · go_ret
    exact ⟨by rw [show dsI a b = a - b from by unfold dsI; split <;> omega]; rfl, hb⟩
  · go_ret
    exact ⟨by rw [show dsI a b = b - a from by unfold dsI; split <;> omega]; rfl, hb⟩

end Go.Proofs.Ytedajefapddekaa.mo
