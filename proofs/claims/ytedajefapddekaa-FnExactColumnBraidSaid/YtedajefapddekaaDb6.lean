/-
  DoubleBraid of the model.
-/
import Derived.Test.YtedajefapddekaaDb5
namespace Go.Proofs.Ytedajefapddekaa.db
open Go.RowKit Go.Proofs.Ytedajefapddekaa.sl Go.Proofs.Ytedajefapddekaa.pm Go.Proofs.Ytedajefapddekaa.fn Go.Proofs.Ytedajefapddekaa.br Go.Proofs.Ytedajefapddekaa.bw Go.Proofs.Ytedajefapddekaa.wk
set_option linter.unusedVariables false

theorem ok_join (ss xs : List Int) (hsm : Sm ss) (hl : ss.length ≤ 12) (hok : ∀ j, j < xs.length → xs.getD j 0 ≠ 0 ∧ 1 - (ss.length : Int) ≤ xs.getD j 0 ∧ xs.getD j 0 ≤ (ss.length : Int) - 1) : okB (sumL ss) (dbW ss xs xs.length) = joinOk (sumL ss) (rowsL ss xs xs.length) := by
  have h0 := (sm_sum ss hsm ss.length (by omega)).1
  rw [List.take_length] at h0
  have hall : (dbW ss xs xs.length).all (letB (sumL ss)) = true := by
    rw [List.all_eq_true]
    intro y hy
    simpa [letB] using dbW_let ss xs hsm hl hok y hy
  unfold okB joinOk
  rw [hall, rows_flat, Bool.and_true]
  congr 1
  simp [h0]
theorem dbWo_len (s : Int) (xs ss : List Int) : (dbWo s xs ss).length ≤ 20000 := by
  unfold dbWo joinW
  split
  · split
    · simp
    · split
      · rename_i h
        simp only [joinOk, Bool.and_eq_true, decide_eq_true_eq] at h
        omega
      · simp
  · simp

end Go.Proofs.Ytedajefapddekaa.db
