/-
  A list repeated.
-/
import Derived.Test.YtbbnheiibkcgiabDoorMp
import Derived.Test.YtbbnheiibkcgiabDoorWd
namespace Go.Proofs.YtbbnheiibkcgiabDoor.bn
def rep (k : Nat) (xs : List Int) : List Int := (List.replicate k xs).flatten
theorem rep_zero (xs : List Int) : rep 0 xs = [] := rfl
theorem rep_succ (k : Nat) (xs : List Int) : rep (k + 1) xs = rep k xs ++ xs := by
  rw [rep, List.replicate_succ', List.flatten_append]; simp [rep]
theorem rep_len (k : Nat) (xs : List Int) : (rep k xs).length = k * xs.length := by
  induction k with
  | zero => simp [rep]
  | succ k ih => rw [rep_succ, List.length_append, ih, Nat.succ_mul]
end Go.Proofs.YtbbnheiibkcgiabDoor.bn
