/-
  Contracts of DescentsOf, of the program and of its model.
-/
import Derived.Test.YtedajefapddekaaComp
namespace Go.Proofs.Ytedajefapddekaa.fn
open Go.RowKit Go.Proofs.Ytedajefapddekaa.sl Go.Proofs.Ytedajefapddekaa.pm

/-- The descents among the first k neighbours. -/
def descTo (p : List Int) : Nat → List Int
  | 0 => []
  | k + 1 => if p.getD (k + 1) 0 < p.getD k 0 then descTo p k ++ [(k : Int)] else descTo p k
def descL (p : List Int) : List Int := descTo p (p.length - 1)
theorem descTo_len (p : List Int) (k : Nat) : (descTo p k).length ≤ k := by
  induction k with
  | zero => simp [descTo]
  | succ k ih =>
    unfold descTo
    split
    · simp; omega
    · omega
theorem desc_yes (p : List Int) (k : Nat) (h : p.getD (k + 1) 0 < p.getD k 0) : descTo p (k + 1) = descTo p k ++ [(k : Int)] := by rw [descTo, if_pos h]
theorem desc_no (p : List Int) (k : Nat) (h : ¬ p.getD (k + 1) 0 < p.getD k 0) : descTo p (k + 1) = descTo p k := by rw [descTo, if_neg h]

def descP (p : List Int) : List Int := if permB p = true then descL p else []
theorem descP_len (p : List Int) : (descP p).length ≤ 12 := by
  unfold descP
  split
  · rename_i h
    have h1 := perm_len h
    have h2 := descTo_len p (p.length - 1)
    unfold descL
    omega
  · simp

end Go.Proofs.Ytedajefapddekaa.fn
