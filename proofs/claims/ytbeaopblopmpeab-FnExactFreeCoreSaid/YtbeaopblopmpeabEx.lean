/-
  Contracts of ExponentSum, of the program and of its model.
-/
import Derived.Test.YtbeaopblopmpeabMp
namespace Go.Proofs.Ytbeaopblopmpeab.br
open Go.RowKit Go.Proofs.Ytbeaopblopmpeab.sl Go.Proofs.Ytbeaopblopmpeab.pm Go.Proofs.Ytbeaopblopmpeab.bw Go.Proofs.Ytbeaopblopmpeab.fn

def exB (s : Int) (xs : List Int) : Int := if okB s xs = true then expL xs else 0

theorem exp_sum (xs : List Int) : sumL (xs.map sg) = expL xs := rfl

end Go.Proofs.Ytbeaopblopmpeab.br
