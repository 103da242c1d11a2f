/-
  The place of a needle; PlaceOf of the program.
-/
import Derived.Test.YtlhpipcmebmpdabVm5
import Derived.Lib.QuietBelow
namespace Go.Proofs.Ytlhpipcmebmpdab.mc
open Go.RowKit Go.Sort Go.Proofs.Ytlhpipcmebmpdab.sl Go.Proofs.Ytlhpipcmebmpdab.br Go.Proofs.Ytlhpipcmebmpdab.fn Go.Proofs.Ytlhpipcmebmpdab.ss
set_option linter.unusedVariables false
set_option linter.unusedSimpArgs false

def plw (p b t : Int) : Int := if b = 2 then t + p else t
def plM (a p : Int) (m : Mch) (b t : Int) : Int := if (okM a p m && nd.validB b t) = true then plw p b t else 0
theorem valid_parts {b t : Int} (h : nd.validB b t = true) : 1 ≤ b ∧ b ≤ 2 ∧ 0 ≤ t ∧ t ≤ 23 := by
  simp [nd.validB] at h; omega

end Go.Proofs.Ytlhpipcmebmpdab.mc
