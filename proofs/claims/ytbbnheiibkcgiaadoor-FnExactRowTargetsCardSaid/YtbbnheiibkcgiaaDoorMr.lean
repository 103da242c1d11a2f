/-
  Contracts of MirrorBraid, of the program and of its model.
-/
import Derived.Test.YtbbnheiibkcgiaaDoorRd
import Derived.Deep.QuietTactic
import Derived.BigQuiet
import Derived.IntWalk
namespace Go.Proofs.YtbbnheiibkcgiaaDoor.br
open Go.RowKit Go.Proofs.YtbbnheiibkcgiaaDoor.sl Go.Proofs.YtbbnheiibkcgiaaDoor.pm Go.Proofs.YtbbnheiibkcgiaaDoor.bw Go.Proofs.YtbbnheiibkcgiaaDoor.fn

def mirW (s : Int) (xs : List Int) : List Int := wordOk s xs (xs.map (mirF s))
theorem mirW_len (s : Int) (xs : List Int) : (mirW s xs).length ≤ 1000 := by
  cases h : okB s xs
  · rw [mirW, wordOk_no h]; simp
  · rw [mirW, wordOk_yes h]; have := (ok_parts h).2.2.1; simp; omega

end Go.Proofs.YtbbnheiibkcgiaaDoor.br
