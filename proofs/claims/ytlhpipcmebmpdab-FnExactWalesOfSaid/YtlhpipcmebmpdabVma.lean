/-
  PlaceOf of the model.
-/
import Derived.Test.YtlhpipcmebmpdabVm9
import Derived.Test.YtlhpipcmebmpdabVmp
namespace Go.Proofs.Ytlhpipcmebmpdab.mc
open Go.RowKit Go.Sort Go.Proofs.Ytlhpipcmebmpdab.sl Go.Proofs.Ytlhpipcmebmpdab.br Go.Proofs.Ytlhpipcmebmpdab.fn Go.Proofs.Ytlhpipcmebmpdab.ss
set_option linter.unusedVariables false
set_option linter.unusedSimpArgs false

end Go.Proofs.Ytlhpipcmebmpdab.mc
