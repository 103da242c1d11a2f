/-
  Charts in memory: contracts of the laws' helpers toChart, eqChart, szChart.
-/
import Derived.Test.YtedajefapddekaaRw2
namespace Go.Proofs.Ytedajefapddekaa.ct
open Go.RowKit Go.Proofs.Ytedajefapddekaa.sl Go.Proofs.Ytedajefapddekaa.br Go.Proofs.Ytedajefapddekaa.ss Go.Proofs.Ytedajefapddekaa.ro
set_option linter.unusedVariables false
set_option linter.unusedSimpArgs false

/-- What is left of a limit behind a chart. -/
def szC (left : Int) (xs : List V) : Int := szR left (prs xs)
theorem szC_pos {left : Int} {xs : List V} (h0 : 0 ≤ left) : szC left xs = -1 ∨ 0 ≤ szC left xs := szR_pos (rows := prs xs) h0
theorem szC_bnd {left : Int} {xs : List V} (h0 : 0 ≤ left) (h : 0 ≤ szC left xs) : szC left xs ≤ left ∧ True := ⟨(szR_bound h0 h).1, trivial⟩
theorem szC_small {left : Int} {xs : List V} (h0 : 0 ≤ left) (h1 : left ≤ 1048576) (h : 0 ≤ szC left xs) : ro.Small xs := ro.small_of h0 h1 h

theorem iown_other {w : World} {lo hi : Nat} {v : Value} {xs : List V} (h : IOwn w lo hi v xs) (b o : Nat) (u : Value) (hb : b < lo ∨ hi ≤ b) : IOwn (w.setCell ⟨b, o, none⟩ u) lo hi v xs :=
  h.chg (chg_set w b o u) (by omega)

theorem cval {w : World} {lo hi : Nat} {v : Value} {xs : List V} (h : IOwn w lo hi v xs) : ∃ ao ln cp, v = .slice ao ln cp := by
  obtain ⟨ao, cp, hv⟩ := iown_val h
  exact ⟨ao, _, cp, hv⟩
end Go.Proofs.Ytedajefapddekaa.ct
