/-
  PlaceOf of the model.
-/
import Derived.Test.YtfechjhngcmdpaaVm9
import Derived.Test.YtfechjhngcmdpaaVmp
namespace Go.Proofs.Ytfechjhngcmdpaa.mc
open Go.RowKit Go.Sort Go.Proofs.Ytfechjhngcmdpaa.sl Go.Proofs.Ytfechjhngcmdpaa.br Go.Proofs.Ytfechjhngcmdpaa.fn Go.Proofs.Ytfechjhngcmdpaa.ss
set_option linter.unusedVariables false
set_option linter.unusedSimpArgs false

end Go.Proofs.Ytfechjhngcmdpaa.mc
