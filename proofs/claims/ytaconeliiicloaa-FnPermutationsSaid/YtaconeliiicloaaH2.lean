/-
  Half twists and reversed places: contracts of HalfTwist, of the program and of its model, and of impl.reversed.
-/
import Derived.Test.YtaconeliiicloaaH1
import Derived.Test.YtaconeliiicloaaLat2
namespace Go.Proofs.Ytaconeliiicloaa.fn
open Go.RowKit Go.Proofs.Ytaconeliiicloaa.sl Go.Proofs.Ytaconeliiicloaa.pm Go.Proofs.Ytaconeliiicloaa.la

theorem revL_at (p : List Int) (k : Nat) (h : k < p.length) : (revL p).getD k 0 = (p.length : Int) - 1 - p.getD k 0 := by
  simp [revL, List.getD, List.getElem?_eq_getElem h]
theorem revL_set (p : List Int) (k : Nat) (h : k < p.length) : (sl.part (revL p) k).set k ((p.length : Int) - 1 - p.getD k 0) = sl.part (revL p) (k + 1) := by
  rw [← revL_at p k h]; exact sl.part_set _ k (by rw [revL_len]; exact h)
theorem revL_plen (p : List Int) (k : Nat) (h : k ≤ p.length) : (sl.part (revL p) k).length = p.length := by rw [sl.part_len _ k (by rw [revL_len]; exact h), revL_len]

/-! ### HalfTwist -/
def halfL (n : Nat) : List Int := revL (ids n)
def halfTo (n k : Nat) : List Int := (List.range k).map fun (j : Nat) => (n : Int) - 1 - (j : Int)
theorem halfTo_zero (n : Nat) : halfTo n 0 = [] := rfl
theorem halfTo_len (n k : Nat) : (halfTo n k).length = k := by simp [halfTo]
theorem halfTo_succ (n k : Nat) : halfTo n (k + 1) = halfTo n k ++ [(n : Int) - 1 - (k : Int)] := by simp [halfTo, List.range_succ]
theorem halfTo_all (n : Nat) : halfTo n n = halfL n := by
  simp only [halfTo, halfL, revL, ids, List.map_map, List.length_map, List.length_range]
  rfl
theorem halfL_len (n : Nat) : (halfL n).length = n := by rw [← halfTo_all, halfTo_len]
theorem ids_at (n j : Nat) (h : j < n) : (ids n).getD j 0 = (j : Int) := by simp [ids, List.getD, h]
theorem ids_places (n : Nat) : Places n (ids n) := by
  intro j hj
  rw [ids_len] at hj
  exact ⟨j, ids_at n j hj, hj⟩

def twiL (n : Int) : List Int := if idOk n = true then halfL n.toNat else []
theorem twiL_len (n : Int) : (twiL n).length ≤ 12 := by
  unfold twiL
  split
  · rename_i h; simp only [idOk, decide_eq_true_eq] at h; rw [halfL_len]; omega
  · simp

theorem withinQ (c lo hi : Int) (q : Bool) (hq : decide (lo ≤ c ∧ c ≤ hi) = q) (w : World) : Calls Try.prog 57 #[.int .i64 c, .int .i64 lo, .int .i64 hi] w fun e w' => e = .returned (.bool q) ∧ w' = w :=
  (within64 c lo hi w).mono fun _ _ h => ⟨by rw [h.1, hq], h.2.symm⟩

end Go.Proofs.Ytaconeliiicloaa.fn
