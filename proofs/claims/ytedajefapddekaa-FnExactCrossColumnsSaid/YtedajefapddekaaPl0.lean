/-
  Needles of columns: mathematics; areNeedles, isFrontNeedle, ValidPlaces of the program; l21Places, ValidPlaces of the model.
-/
import Derived.Test.YtedajefapddekaaAp
import Derived.Test.YtedajefapddekaaPerm
import Derived.IntWalk
namespace Go.Proofs.Ytedajefapddekaa.mo
open Go.RowKit Go.Proofs.Ytedajefapddekaa.sl Go.Proofs.Ytedajefapddekaa.pm
set_option linter.unusedVariables false

def frB (x : Int) : Bool := decide (0 ≤ x ∧ x ≤ 23)
theorem fr_iff {x : Int} : frB x = true ↔ 0 ≤ x ∧ x ≤ 23 := by simp [frB]
/-- Element k fits behind the one before it, at least g behind it. -/
def stpB (g : Int) (xs : List Int) (k : Nat) : Bool := frB (xs.getD k 0) && (decide (k = 0) || decide (xs.getD (k - 1) 0 + g ≤ xs.getD k 0))
def arB (g : Int) (xs : List Int) : Bool := (List.range xs.length).all (stpB g xs)
theorem ar_bad {g : Int} {xs : List Int} {k : Nat} (hk : k < xs.length) (h : stpB g xs k = false) : arB g xs = false := by
  unfold arB
  rw [List.all_eq_false]
  exact ⟨k, List.mem_range.2 hk, by rw [h]; simp⟩
theorem ar_good {g : Int} {xs : List Int} (h : ∀ k, k < xs.length → stpB g xs k = true) : arB g xs = true := by
  unfold arB
  rw [List.all_eq_true]
  exact fun x hx => h x (List.mem_range.1 hx)
theorem ar_at {g : Int} {xs : List Int} (h : arB g xs = true) (k : Nat) (hk : k < xs.length) : stpB g xs k = true := by
  unfold arB at h
  rw [List.all_eq_true] at h
  exact h k (List.mem_range.2 hk)
theorem ar_nil (g : Int) : arB g [] = true := rfl
theorem stp_fr {g : Int} {xs : List Int} {k : Nat} (h : stpB g xs k = true) : 0 ≤ xs.getD k 0 ∧ xs.getD k 0 ≤ 23 := by
  simp only [stpB, Bool.and_eq_true] at h
  exact fr_iff.1 h.1
theorem stp_no {g : Int} {xs : List Int} {k : Nat} (h : frB (xs.getD k 0) = false) : stpB g xs k = false := by simp only [stpB, h, Bool.false_and]
theorem stp_zero {g : Int} {xs : List Int} {k : Nat} (h : frB (xs.getD k 0) = true) (hk : k = 0) : stpB g xs k = true := by unfold stpB; rw [h, hk]; rfl
theorem stp_yes {g : Int} {xs : List Int} {k : Nat} (h : frB (xs.getD k 0) = true) (h2 : xs.getD (k - 1) 0 + g ≤ xs.getD k 0) : stpB g xs k = true := by
  simp only [stpB, h, decide_eq_true h2, Bool.or_true, Bool.and_true]
theorem stp_bad {g : Int} {xs : List Int} {k : Nat} (hk : ¬ k = 0) (h2 : ¬ xs.getD (k - 1) 0 + g ≤ xs.getD k 0) : stpB g xs k = false := by
  simp only [stpB, decide_eq_false h2, decide_eq_false hk, Bool.or_false, Bool.and_false]
def plB (xs : List Int) : Bool := decide (xs.length ≤ 8) && arB 1 xs
theorem pl_len {xs : List Int} (h : plB xs = true) : xs.length ≤ 8 := by simp only [plB, Bool.and_eq_true, decide_eq_true_eq] at h; exact h.1
theorem pl_ar {xs : List Int} (h : plB xs = true) : arB 1 xs = true := by simp only [plB, Bool.and_eq_true, decide_eq_true_eq] at h; exact h.2

theorem dadd (w : World) (a b : Nat) : (w.drewN a).drewN b = w.drewN (a + b) := by simp [World.drewN, Nat.add_assoc]
theorem frontQ (x : Int) (q : Bool) (hq : frB x = q) (w : World) : Calls Try.prog 55 #[.int .i64 x] w fun e w' => e = .returned (.bool q) ∧ w = w' := by
  subst hq
  go_enter Try.func55, Try.ntmps55
  go_wp2_with (go_at_call 60; refine (pm.within64 _ _ _ _).mono ?_; rintro e w' ⟨rfl, rfl⟩)
  go_ret
  exact ⟨by simp [frB, Bool.decide_and], rfl⟩
theorem inQ (x : Int) (q : Bool) (hq : frB x = q) (w : World) : Calls Try.prog 53 #[.int .i64 x, .int .i64 0, .int .i64 23] w fun e w' => e = .returned (.bool q) ∧ w' = w := by
  subst hq
  exact (pm.specIn x 0 23 w).mono fun _ _ h => ⟨h.1, h.2.symm⟩

end Go.Proofs.Ytedajefapddekaa.mo
