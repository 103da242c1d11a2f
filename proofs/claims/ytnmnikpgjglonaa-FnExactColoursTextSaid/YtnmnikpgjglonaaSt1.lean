/-
  Kinds of stitches: contracts of ColumnsTaken, ColumnsMade, MirrorStitch of both sides.
-/
import Derived.Test.YtnmnikpgjglonaaStb
import Derived.Test.YtnmnikpgjglonaaPerm
namespace Go.Proofs.Ytnmnikpgjglonaa.st
open Go.RowKit Go.Proofs.Ytnmnikpgjglonaa.sl Go.Proofs.Ytnmnikpgjglonaa.pm
set_option linter.unusedVariables false

end Go.Proofs.Ytnmnikpgjglonaa.st
