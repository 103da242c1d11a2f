/-
  Rows and braids as arguments: their marks.
-/
import Derived.Test.YtedajefapddekaaCto
namespace Go.Proofs.Ytedajefapddekaa.ct
open Go.RowKit Go.Proofs.Ytedajefapddekaa.sl Go.Proofs.Ytedajefapddekaa.br
set_option linter.unusedVariables false

theorem markR1 (s : Int) (xs : List Int) (f : Value) (lo hi : Nat) (k0 : Int) (w : World) (ho : sl.Own w lo hi f xs) (hq : l5.Small xs) (hk0 : 0 ≤ k0) (hk1 : k0 ≤ 1048576) :
    Calls Try.prog 33 #[.agg #[.int .i64 s, f], .int .i64 k0] w fun e w' => ∃ k1 : Int, e = .returned (.int .i64 k1) ∧ 0 ≤ k1 ∧ Chg lo hi w w' :=
  (br.markB s xs f lo hi k0 w ho (by have := hq.len; omega) hk0 (by omega)).mono fun e w' h => ⟨_, h.1, by omega, h.2.2⟩
end Go.Proofs.Ytedajefapddekaa.ct
