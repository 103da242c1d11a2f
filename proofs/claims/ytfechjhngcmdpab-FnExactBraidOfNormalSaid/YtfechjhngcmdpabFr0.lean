/-
  Reduced words of a free group: the model's contract for long words.
-/
import Derived.Test.YtfechjhngcmdpabFv
import Derived.Test.YtfechjhngcmdpabRd
namespace Go.Proofs.Ytfechjhngcmdpab.fv
open Go.RowKit Go.Proofs.Ytfechjhngcmdpab.sl Go.Proofs.Ytfechjhngcmdpab.pm Go.Proofs.Ytfechjhngcmdpab.bw Go.Proofs.Ytfechjhngcmdpab.br Go.Proofs.Ytfechjhngcmdpab.fn
set_option linter.unusedVariables false

end Go.Proofs.Ytfechjhngcmdpab.fv
