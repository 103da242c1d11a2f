/-
  BraidEvents of both sides.
-/
import Derived.Test.YtlhpipcmebmpdaaEvm
import Derived.Test.YtlhpipcmebmpdaaEv5
import Derived.Test.YtlhpipcmebmpdaaMr
namespace Go.Proofs.Ytlhpipcmebmpdaa.ev
open Go.RowKit Go.Sort Go.Proofs.Ytlhpipcmebmpdaa.sl Go.Proofs.Ytlhpipcmebmpdaa.bw Go.Proofs.Ytlhpipcmebmpdaa.br
set_option linter.unusedVariables false
set_option linter.unusedSimpArgs false

def crossV (x : Int) : V := ⟨1, ab x - 1, sg x, 0, 0, 0⟩
def bevW (s : Int) (xs : List Int) : List V := if okB s xs = true then xs.map crossV else []
theorem bevW_len (s : Int) (xs : List Int) : (bevW s xs).length ≤ 20000 := by
  unfold bevW
  split
  · rename_i h
    have := (ok_parts h).2.2.1
    simp; omega
  · simp
theorem ab_le {x : Int} (h : -100 ≤ x ∧ x ≤ 100) : 0 ≤ ab x ∧ ab x ≤ 100 := by unfold ab; split <;> omega
theorem take_cross (xs : List Int) (k : Nat) (h : k < xs.length) : (xs.take (k + 1)).map crossV = (xs.take k).map crossV ++ [crossV (xs.getD k 0)] := by
  rw [List.take_succ_eq_append_getElem h, List.map_append]
  simp [List.getD, List.getElem?_eq_getElem h]




end Go.Proofs.Ytlhpipcmebmpdaa.ev
