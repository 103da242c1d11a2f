/-
  DoubleBraid of the program.
-/
import Derived.Test.YtedajefapddekaaDb2
namespace Go.Proofs.Ytedajefapddekaa.db
open Go.RowKit Go.Proofs.Ytedajefapddekaa.sl Go.Proofs.Ytedajefapddekaa.pm Go.Proofs.Ytedajefapddekaa.fn Go.Proofs.Ytedajefapddekaa.br Go.Proofs.Ytedajefapddekaa.bw Go.Proofs.Ytedajefapddekaa.wk
set_option linter.unusedVariables false

def dbP (s : Int) (xs ss : List Int) : Bool := okB s xs && decide ((ss.length : Int) = s)
def badB (x : Int) : Bool := !decide (0 ≤ x ∧ x ≤ 4)
def dbSt (s : Int) (xs ss : List Int) : Int := if dbP s xs ss = true then (if ss.any badB = true then 0 else joinS (sumL ss) (rowsL ss xs xs.length)) else 0
def dbWo (s : Int) (xs ss : List Int) : List Int := if dbP s xs ss = true then (if ss.any badB = true then [] else joinW (sumL ss) (rowsL ss xs xs.length)) else []
def dbCo (s : Int) (xs ss : List Int) : Int := if dbP s xs ss = true then (if ss.any badB = true then 2 else joinC (sumL ss) (rowsL ss xs xs.length)) else 1
theorem sm_of {ss : List Int} (h : ss.any badB = false) : Sm ss := by
  intro j
  by_cases hj : j < ss.length
  · have h2 := List.any_eq_false.1 h (ss.getD j 0) (by simp [List.getD, List.getElem?_eq_getElem hj])
    simpa [badB] using h2
  · simp [List.getD, List.getElem?_eq_none (show ss.length ≤ j by omega)]

theorem sumL_le (ns : List Nat) (M : Nat) (h : ∀ x ∈ ns, x ≤ M) : ns.sum ≤ ns.length * M := by
  induction ns with
  | nil => simp
  | cons x ns ih =>
    have h1 := h x (by simp)
    have h2 := ih (fun r hr => h r (by simp [hr]))
    rw [List.sum_cons, List.length_cons, Nat.succ_mul]
    omega
theorem rows_tot (ss xs : List Int) (hsm : Sm ss) (hx : xs.length ≤ 40) (hs : ss.length ≤ 12) : (rowsL ss xs xs.length).flatten.length ≤ 1048576 := by
  rw [List.length_flatten]
  have h := sumL_le ((rowsL ss xs xs.length).map List.length) 16 (by
    intro x hx2
    simp only [List.mem_map, rowsL, List.mem_range] at hx2
    obtain ⟨_, ⟨j, hj, rfl⟩, rfl⟩ := hx2
    have hn := dbN_all (P := fun y => 0 ≤ y ∧ y ≤ 4) ⟨by omega, by omega⟩ ss xs hsm j (by omega)
    unfold dbL
    rw [swO_len]
    have a1 := hn (ab (xs.getD j 0) - 1).toNat
    have a2 := hn ((ab (xs.getD j 0) - 1).toNat + 1)
    have b1 : ((dbN ss xs j).getD (ab (xs.getD j 0) - 1).toNat 0).toNat ≤ 4 := by omega
    have b2 : ((dbN ss xs j).getD ((ab (xs.getD j 0) - 1).toNat + 1) 0).toNat ≤ 4 := by omega
    exact Nat.mul_le_mul b2 b1)
  rw [List.length_map, rows_len] at h
  omega
end Go.Proofs.Ytedajefapddekaa.db
