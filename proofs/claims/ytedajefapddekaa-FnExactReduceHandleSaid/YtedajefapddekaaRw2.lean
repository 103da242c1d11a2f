/-
  toInfoS, eqInfoS.
-/
import Derived.Test.YtedajefapddekaaRw1
import Derived.Lib.QuietBelow
namespace Go.Proofs.Ytedajefapddekaa.ro
open Go.RowKit Go.Sort Go.Proofs.Ytedajefapddekaa.sl Go.Proofs.Ytedajefapddekaa.br Go.Proofs.Ytedajefapddekaa.ss
set_option linter.unusedVariables false
set_option linter.unusedSimpArgs false


end Go.Proofs.Ytedajefapddekaa.ro
