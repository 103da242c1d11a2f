/-
  The laws' helpers for slices of Move: sz, eq.
-/
import Derived.Test.YtedajefapddekaaMv1
import Derived.Lib.QuietBelow
namespace Go.Proofs.Ytedajefapddekaa.mv
open Go.RowKit Go.Sort Go.Proofs.Ytedajefapddekaa.sl
set_option linter.unusedVariables false
set_option linter.unusedSimpArgs false

end Go.Proofs.Ytedajefapddekaa.mv
