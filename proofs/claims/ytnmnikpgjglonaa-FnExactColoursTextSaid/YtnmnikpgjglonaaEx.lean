/-
  Contracts of ExponentSum, of the program and of its model.
-/
import Derived.Test.YtnmnikpgjglonaaMp
namespace Go.Proofs.Ytnmnikpgjglonaa.br
open Go.RowKit Go.Proofs.Ytnmnikpgjglonaa.sl Go.Proofs.Ytnmnikpgjglonaa.pm Go.Proofs.Ytnmnikpgjglonaa.bw Go.Proofs.Ytnmnikpgjglonaa.fn

def exB (s : Int) (xs : List Int) : Int := if okB s xs = true then expL xs else 0

theorem exp_sum (xs : List Int) : sumL (xs.map sg) = expL xs := rfl

end Go.Proofs.Ytnmnikpgjglonaa.br
