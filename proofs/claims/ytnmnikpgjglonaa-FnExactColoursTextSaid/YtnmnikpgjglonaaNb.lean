/-
  Normal forms in memory: contracts of the laws' helpers toNormalBraid, eqNormalBraid, szNormalBraid; SameNormal of both sides.
-/
import Derived.Test.YtnmnikpgjglonaaSs2
namespace Go.Proofs.Ytnmnikpgjglonaa.nb
open Go.RowKit Go.Proofs.Ytnmnikpgjglonaa.sl Go.Proofs.Ytnmnikpgjglonaa.br Go.Proofs.Ytnmnikpgjglonaa.ss
set_option linter.unusedVariables false

/-- Rows that a law looks at. -/
structure Small (rows : List (List Int)) : Prop where
  len : rows.length ≤ 1048576
  short : Short rows 1099511627776
theorem small_of {left : Int} {rows : List (List Int)} (h0 : 0 ≤ left) (h1 : left ≤ 1048576) (h : 0 ≤ szR left rows) : Small rows := by
  obtain ⟨_, h2, h3⟩ := szR_bound h0 h
  exact ⟨by omega, fun j hj => by have := h3 j hj; omega⟩

theorem rown_other {w : World} {lo hi : Nat} {v : Value} {rows : List (List Int)} (h : ROwn w lo hi v rows) (b o : Nat) (u : Value) (hb : b < lo ∨ hi ≤ b) : ROwn (w.setCell ⟨b, o, none⟩ u) lo hi v rows :=
  h.chg (chg_set w b o u) (by omega)

/-- Both are equal. -/
def sameN (s p t q : Int) (a b : List (List Int)) : Bool := decide (s = t) && (decide (p = q) && sameR a b)
theorem sameN_self (s p : Int) (a : List (List Int)) : sameN s p s p a a = true := by simp [sameN, sameR_self]

theorem rval {w : World} {lo hi : Nat} {v : Value} {rows : List (List Int)} (h : ROwn w lo hi v rows) : ∃ ao ln cp, v = .slice ao ln cp := by
  obtain ⟨ao, cp, hv⟩ := rown_val h
  exact ⟨ao, _, cp, hv⟩
end Go.Proofs.Ytnmnikpgjglonaa.nb
