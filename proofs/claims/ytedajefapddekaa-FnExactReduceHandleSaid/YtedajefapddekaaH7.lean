/-
  Permutation braids: contracts of PermutationBraid, of the program and of its model.
-/
import Derived.Test.YtedajefapddekaaH6
import Derived.Test.YtedajefapddekaaCc
namespace Go.Proofs.Ytedajefapddekaa.fn
open Go.RowKit Go.Proofs.Ytedajefapddekaa.sl Go.Proofs.Ytedajefapddekaa.pm
/-- A nil slice is empty, and the room is no less than the length. -/
def Fit (v : Value) : Prop := NilOk v ∧ CapOk v
theorem fit_own {w : World} {lo hi : Nat} {v : Value} {xs : List Int} (o : Own w lo hi v xs) : Fit v := ⟨nilok_own o, capok_own o⟩
end Go.Proofs.Ytedajefapddekaa.fn
namespace Go.Proofs.Ytedajefapddekaa.br
open Go.RowKit Go.Proofs.Ytedajefapddekaa.sl Go.Proofs.Ytedajefapddekaa.pm Go.Proofs.Ytedajefapddekaa.bw Go.Proofs.Ytedajefapddekaa.fn
set_option linter.unusedVariables false

def pbOk (p : List Int) : Bool := permB p && decide ((redW p).length ≤ 40)
def pbS (p : List Int) : Int := if pbOk p = true then (p.length : Int) else 0
def pbW (p : List Int) : List Int := if pbOk p = true then upW (redW p) else []
def pbC (p : List Int) : Int := if permB p = false then 1 else if (redW p).length ≤ 40 then 0 else 5
theorem pbW_len (p : List Int) : (pbW p).length ≤ 1000 := by
  unfold pbW
  split
  · rename_i h
    simp only [pbOk, Bool.and_eq_true, decide_eq_true_eq] at h
    rw [upW_len]; omega
  · simp
theorem pb_no {p : List Int} (h : permB p = false) : pbS p = 0 ∧ pbW p = [] ∧ pbC p = 1 := by simp [pbS, pbW, pbC, pbOk, h]
theorem pb_full {p : List Int} (h : permB p = true) (h2 : ¬ (redW p).length ≤ 40) : pbS p = 0 ∧ pbW p = [] ∧ pbC p = 5 := by simp [pbS, pbW, pbC, pbOk, h, h2]
theorem pb_yes {p : List Int} (h : permB p = true) (h2 : (redW p).length ≤ 40) : pbS p = (p.length : Int) ∧ pbW p = upW (redW p) ∧ pbC p = 0 := by simp [pbS, pbW, pbC, pbOk, h, h2]
theorem pb_join {p : List Int} (h : permB p = true) : joinS p.length [upW (redW p)] = pbS p ∧ joinW p.length [upW (redW p)] = pbW p ∧ joinC p.length [upW (redW p)] = pbC p := by
  have h12 := perm_len h
  by_cases h2 : (redW p).length ≤ 40
  · have hj : joinOk p.length [upW (redW p)] = true := by simp [joinOk, upW_len, h2]; omega
    obtain ⟨e1, e2, e3⟩ := pb_yes h h2
    rw [e1, e2, e3, joinS, joinW, joinC, if_pos hj, if_pos hj, if_pos hj]; simp
  · have hj : joinOk p.length [upW (redW p)] = false := by simp [joinOk, upW_len]; omega
    obtain ⟨e1, e2, e3⟩ := pb_full h h2
    rw [e1, e2, e3, joinS, joinW, joinC, hj]; simp
theorem redW_len {p : List Int} (h : permB p = true) : (redW p).length ≤ 144 := by
  have := redP_len p
  rw [redP, if_pos h] at this
  exact this
theorem wds_one (w : World) (B g : Nat) (a1 : Option Addr) (c1 : Nat) (xs : List Int) (h1 : w.cell? ⟨g, 0, none⟩ = some (.slice a1 xs.length c1)) (i1 : Ints w B (.slice a1 xs.length c1) xs) (n1 : NilOk (.slice a1 xs.length c1)) : Wds w B g [xs] := by
  intro j hj
  obtain rfl : j = 0 := by simpa using hj
  exact ⟨a1, c1, h1, i1, n1⟩

/-- The box of the answer behind a call that left it alone. -/
theorem box_kept {w w1 : World} (b : Below (w.alloc (.cells #[.int .i64 0, .slice none 0 0] 39)).heap.size (w.alloc (.cells #[.int .i64 0, .slice none 0 0] 39)) w1) :
    w1.cell? ⟨w.heap.size, 0, none⟩ = some (.int .i64 0) ∧ w1.cell? ⟨w.heap.size, 1, none⟩ = some (.slice none 0 0) ∧ w1.frozen? ⟨w.heap.size, 0, none⟩ = false ∧ w1.frozen? ⟨w.heap.size, 1, none⟩ = false ∧ Below w.heap.size w w1 ∧ w.heap.size + 1 ≤ w1.heap.size := by
  have hb := box1 b
  have h0 := hb.1 0
  have h1 := hb.1 1
  simp at h0 h1
  exact ⟨h0, h1, (b.frozen (p := ⟨w.heap.size, 0, none⟩) (by simp)).trans (World.frozen?_alloc_at _ _ _ _ rfl), (b.frozen (p := ⟨w.heap.size, 1, none⟩) (by simp)).trans (World.frozen?_alloc_at _ _ _ _ rfl), hb.2.1, hb.2.2⟩

end Go.Proofs.Ytedajefapddekaa.br
