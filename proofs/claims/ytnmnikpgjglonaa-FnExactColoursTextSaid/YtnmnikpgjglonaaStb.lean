/-
  The program's table of stitches, read out of the list that a row lays; carried over what a call leaves below.
-/
import Derived.Test.YtnmnikpgjglonaaRows
import Derived.Test.YtnmnikpgjglonaaSt0
import Derived.WalkKit
import Derived.WalkSmall
import Derived.ProofKit
import Derived.Below
import Derived.MakeChecks
import Derived.Stop.LaidErr
import Derived.Lib.LaidTab
import Derived.OpenShut
import Derived.Lib.SmallJoins
import Derived.Deep.Fields
namespace Go.Proofs.Ytnmnikpgjglonaa.stb
open Go.RowKit Go.Proofs.Ytnmnikpgjglonaa.st
set_option linter.unusedVariables false

end Go.Proofs.Ytnmnikpgjglonaa.stb
