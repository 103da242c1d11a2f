/-
  Contracts of InvertPermutation and DescentsOf, of the program and of its model.
-/
import Derived.Test.YtedajefapddekaaComp
namespace Go.Proofs.Ytedajefapddekaa.fn
open Go.RowKit Go.Proofs.Ytedajefapddekaa.sl Go.Proofs.Ytedajefapddekaa.pm

/-- The inverse after k stores. -/
def invTo (p : List Int) : Nat → List Int
  | 0 => List.replicate p.length 0
  | k + 1 => (invTo p k).set (p.getD k 0).toNat (k : Int)
def invL (p : List Int) : List Int := invTo p p.length
theorem invTo_len (p : List Int) (k : Nat) : (invTo p k).length = p.length := by
  induction k with
  | zero => simp [invTo]
  | succ k ih => simp [invTo, ih]
theorem invTo_succ (p : List Int) (k m : Nat) (hm : p.getD k 0 = (m : Int)) : invTo p (k + 1) = (invTo p k).set m (k : Int) := by
  rw [invTo, hm]; rfl
theorem invL_len (p : List Int) : (invL p).length = p.length := invTo_len p _

def invP (p : List Int) : List Int := if permB p = true then invL p else []
theorem invP_len (p : List Int) : (invP p).length ≤ 12 := by
  unfold invP
  split
  · rename_i h; rw [invL_len]; exact perm_len h
  · simp

end Go.Proofs.Ytedajefapddekaa.fn
