/-
  Contracts of ExponentSum, of the program and of its model.
-/
import Derived.Test.YtlhpipcmebmpdabMp
namespace Go.Proofs.Ytlhpipcmebmpdab.br
open Go.RowKit Go.Proofs.Ytlhpipcmebmpdab.sl Go.Proofs.Ytlhpipcmebmpdab.pm Go.Proofs.Ytlhpipcmebmpdab.bw Go.Proofs.Ytlhpipcmebmpdab.fn

def exB (s : Int) (xs : List Int) : Int := if okB s xs = true then expL xs else 0

theorem exp_sum (xs : List Int) : sumL (xs.map sg) = expL xs := rfl

end Go.Proofs.Ytlhpipcmebmpdab.br
