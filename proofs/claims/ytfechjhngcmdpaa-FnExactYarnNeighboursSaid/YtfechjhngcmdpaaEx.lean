/-
  Contracts of ExponentSum, of the program and of its model.
-/
import Derived.Test.YtfechjhngcmdpaaMp
namespace Go.Proofs.Ytfechjhngcmdpaa.br
open Go.RowKit Go.Proofs.Ytfechjhngcmdpaa.sl Go.Proofs.Ytfechjhngcmdpaa.pm Go.Proofs.Ytfechjhngcmdpaa.bw Go.Proofs.Ytfechjhngcmdpaa.fn

def exB (s : Int) (xs : List Int) : Int := if okB s xs = true then expL xs else 0

theorem exp_sum (xs : List Int) : sumL (xs.map sg) = expL xs := rfl

end Go.Proofs.Ytfechjhngcmdpaa.br
