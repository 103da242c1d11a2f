/-
  DoubleBraid: the letters by which blocks of strands change places, both sides.
-/
import Derived.Test.YtbbnheiibkcgiaaDoorWd
import Derived.Test.YtbbnheiibkcgiaaDoorEx
import Derived.Test.YtbbnheiibkcgiaaDoorBp
import Derived.Test.YtbbnheiibkcgiaaDoorH6
import Derived.Test.YtbbnheiibkcgiaaDoorRed
import Derived.Test.YtbbnheiibkcgiaaDoorCc
import Derived.Test.YtbbnheiibkcgiaaDoorSr
import Derived.Laws.CopyOwn
import Derived.Deep.RegionHeld3
import Derived.RegionTactic
import Derived.BigQuiet
namespace Go.Proofs.YtbbnheiibkcgiaaDoor.db
open Go.RowKit Go.Proofs.YtbbnheiibkcgiaaDoor.sl Go.Proofs.YtbbnheiibkcgiaaDoor.pm Go.Proofs.YtbbnheiibkcgiaaDoor.fn Go.Proofs.YtbbnheiibkcgiaaDoor.br Go.Proofs.YtbbnheiibkcgiaaDoor.bw
set_option linter.unusedVariables false

def swI (sg pl t : Int) (a j : Nat) : List Int := (List.range j).map fun (q : Nat) => sg * (pl + t + ((a : Int) - 1 - (q : Int)) + 1)
def swO (sg pl : Int) (a b : Nat) : List Int := ((List.range b).map fun (t : Nat) => swI sg pl (t : Int) a a).flatten
theorem swI_zero (sg pl t : Int) (a : Nat) : swI sg pl t a 0 = [] := rfl
theorem swI_succ (sg pl t : Int) (a j : Nat) : swI sg pl t a (j + 1) = swI sg pl t a j ++ [sg * (pl + t + ((a : Int) - 1 - (j : Int)) + 1)] := by simp [swI, List.range_succ]
theorem swO_zero (sg pl : Int) (a : Nat) : swO sg pl a 0 = [] := rfl
theorem swO_succ (sg pl : Int) (a b : Nat) : swO sg pl a (b + 1) = swO sg pl a b ++ swI sg pl (b : Int) a a := by simp [swO, List.range_succ]
theorem swI_len (sg pl t : Int) (a j : Nat) : (swI sg pl t a j).length = j := by simp [swI]
theorem swO_len (sg pl : Int) (a b : Nat) : (swO sg pl a b).length = b * a := by
  induction b with
  | zero => simp [swO]
  | succ b ih => rw [swO_succ, List.length_append, ih, swI_len, Nat.succ_mul]

/-- The sizes of the blocks behind some letters. -/
def dbN (sizes word : List Int) (i : Nat) : List Int := (word.take i).foldl (fun now x => swapAt now (ab x - 1).toNat) sizes
/-- What one letter writes. -/
def dbL (sizes word : List Int) (i : Nat) : List Int :=
  swO (sg (word.getD i 0)) (sumL ((dbN sizes word i).take (ab (word.getD i 0) - 1).toNat)) ((dbN sizes word i).getD (ab (word.getD i 0) - 1).toNat 0).toNat ((dbN sizes word i).getD ((ab (word.getD i 0) - 1).toNat + 1) 0).toNat
def dbW (sizes word : List Int) (i : Nat) : List Int := ((List.range i).map fun j => dbL sizes word j).flatten
theorem dbN_zero (sizes word : List Int) : dbN sizes word 0 = sizes := by simp [dbN]
theorem dbN_succ (sizes word : List Int) (i : Nat) (h : i < word.length) : dbN sizes word (i + 1) = swapAt (dbN sizes word i) (ab (word.getD i 0) - 1).toNat := by
  rw [dbN, List.take_succ_eq_append_getElem h, List.foldl_append]
  simp [dbN, List.getD, List.getElem?_eq_getElem h]
theorem dbW_zero (sizes word : List Int) : dbW sizes word 0 = [] := rfl
theorem dbW_succ (sizes word : List Int) (i : Nat) : dbW sizes word (i + 1) = dbW sizes word i ++ dbL sizes word i := by simp [dbW, List.range_succ]
theorem dbN_len (sizes word : List Int) (i : Nat) (h : i ≤ word.length) : (dbN sizes word i).length = sizes.length := by
  induction i with
  | zero => rw [dbN_zero]
  | succ i ih => rw [dbN_succ sizes word i h, swap_len, ih (by omega)]
theorem swap_all {P : Int → Prop} (h0 : P 0) (p : List Int) (k : Nat) (h : ∀ j, P (p.getD j 0)) : ∀ j, P ((swapAt p k).getD j 0) := by
  intro j
  by_cases hj : j < p.length
  · have e : (swapAt p k).getD j 0 = if k + 1 = j then p.getD k 0 else if k = j then p.getD (k + 1) 0 else p.getD j 0 := by
      simp only [swapAt, List.getD, List.getElem?_set, List.length_set]
      split
      · rename_i h1; rw [if_pos (by omega)]; rfl
      · split
        · rename_i h1 h2; rw [if_pos (by omega)]; rfl
        · rfl
    rw [e]
    split
    · exact h k
    · split
      · exact h (k + 1)
      · exact h j
  · have e : (swapAt p k).getD j 0 = 0 := by
      simp [List.getD, List.getElem?_eq_none (show (swapAt p k).length ≤ j by rw [swap_len]; omega)]
    rw [e]; exact h0
theorem dbN_all {P : Int → Prop} (h0 : P 0) (sizes word : List Int) (h : ∀ j, P (sizes.getD j 0)) (i : Nat) (hi : i ≤ word.length) : ∀ j, P ((dbN sizes word i).getD j 0) := by
  induction i with
  | zero => rw [dbN_zero]; exact h
  | succ i ih => rw [dbN_succ sizes word i hi]; exact swap_all h0 _ _ (ih (by omega))


end Go.Proofs.YtbbnheiibkcgiaaDoor.db
