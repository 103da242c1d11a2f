/-
  Contracts of identity permutations (spec.l02Identity, impl.identity), of both tests of two permutations, of both compositions and of both inverses.
-/
import Derived.Test.YtedajefapddekaaAp
import Derived.Test.YtedajefapddekaaPerm
namespace Go.Proofs.Ytedajefapddekaa.fn
open Go.RowKit Go.Proofs.Ytedajefapddekaa.sl Go.Proofs.Ytedajefapddekaa.pm

def ids (n : Nat) : List Int := (List.range n).map fun (j : Nat) => (j : Int)
theorem ids_len (n : Nat) : (ids n).length = n := by simp [ids]
theorem ids_succ (n : Nat) : ids (n + 1) = ids n ++ [(n : Int)] := by simp [ids, List.range_succ]
theorem ids_zero : ids 0 = [] := rfl

/-- k numbers are written, the rest is zero. -/
def idp (n k : Nat) : List Int := ids k ++ List.replicate (n - k) 0
theorem idp_len (n k : Nat) (h : k ≤ n) : (idp n k).length = n := by simp [idp, ids_len]; omega
theorem idp_zero (n : Nat) : idp n 0 = List.replicate n 0 := by simp [idp, ids_zero]
theorem idp_all (n : Nat) : idp n n = ids n := by simp [idp]
theorem idp_set (n k : Nat) (h : k < n) : (idp n k).set k k = idp n (k + 1) := by
  unfold idp
  rw [List.set_append_right _ _ (by simp [ids_len])]
  have e1 : k - (ids k).length = 0 := by simp [ids_len]
  have e2 : n - k = (n - (k + 1)) + 1 := by omega
  rw [e1, e2, List.replicate_succ, List.set_cons_zero, ids_succ, List.append_assoc]
  simp

theorem made_own {w w1 : World} {n : Nat} (h : w1.ownsRow w.heap.size 2 1 (.slice (some ⟨w.heap.size, 0, none⟩) n n) n (madeCells (Value.int .i64 0).cells (n * 1)).toList) :
    Own w1 w.heap.size w1.heap.size (.slice (some ⟨w.heap.size, 0, none⟩) n n) (List.replicate n 0) := by
  rw [zeros_list] at h
  refine Own.mk' ?_
  rw [List.length_replicate]
  exact h

/-! ### two permutations of the same length -/
def bothB (p q : List Int) : Bool := permB p && permB q && decide (p.length = q.length)

theorem ints_slice {w : World} {B : Nat} {v : Value} {xs : List Int} (h : Ints w B v xs) : ∃ ao cap, v = .slice ao xs.length cap := by
  rcases h with ⟨rfl, ao, cap, rfl⟩ | ⟨hp, b, off, cap, rfl, hb', hc⟩ <;> exact ⟨_, _, rfl⟩

/-! ### composition -/
/-- Every element is the place of an element of a list of n. -/
def Places (n : Nat) (p : List Int) : Prop := ∀ j, j < p.length → ∃ m : Nat, p.getD j 0 = (m : Int) ∧ m < n
theorem perm_places {p : List Int} (h : permB p = true) : Places p.length p := by
  intro j hj
  simp only [permB, Bool.and_eq_true, List.all_eq_true] at h
  have h1 := h.1.2 (p.getD j 0) (by rw [show p.getD j 0 = p[j] from by simp [List.getD, List.getElem?_eq_getElem hj]]; exact List.getElem_mem hj)
  simp only [inR, decide_eq_true_eq] at h1
  obtain ⟨m, hm⟩ := Int.eq_ofNat_of_zero_le h1.1
  exact ⟨m, hm, by omega⟩
theorem perm_len {p : List Int} (h : permB p = true) : p.length ≤ 12 := by
  simp only [permB, Bool.and_eq_true, decide_eq_true_eq] at h
  exact h.1.1

def compL (p q : List Int) : List Int := p.map fun x => q.getD x.toNat 0
def compTo (p q : List Int) (k : Nat) : List Int := (p.take k).map fun x => q.getD x.toNat 0
theorem compTo_len (p q : List Int) (k : Nat) (h : k ≤ p.length) : (compTo p q k).length = k := by simp [compTo]; omega
theorem compTo_succ (p q : List Int) (k m : Nat) (h : k < p.length) (hm : p.getD k 0 = (m : Int)) : compTo p q (k + 1) = compTo p q k ++ [q.getD m 0] := by
  rw [compTo, take_one p k h, hm, List.map_append]; rfl
theorem compTo_all (p q : List Int) : compTo p q p.length = compL p q := by simp [compTo, compL]
theorem compL_len (p q : List Int) : (compL p q).length = p.length := by simp [compL]
def compP (p q : List Int) (k : Nat) : List Int := compTo p q k ++ List.replicate (p.length - k) 0
theorem compP_len (p q : List Int) (k : Nat) (h : k ≤ p.length) : (compP p q k).length = p.length := by simp [compP, compTo_len p q k h]; omega
theorem compP_zero (p q : List Int) : compP p q 0 = List.replicate p.length 0 := by simp [compP, compTo]
theorem compP_all (p q : List Int) : compP p q p.length = compL p q := by simp [compP, compTo_all]
theorem compP_set (p q : List Int) (k m : Nat) (h : k < p.length) (hm : p.getD k 0 = (m : Int)) : (compP p q k).set k (q.getD m 0) = compP p q (k + 1) := by
  unfold compP
  rw [List.set_append_right _ _ (by simp [compTo_len p q k (by omega)])]
  have e1 : k - (compTo p q k).length = 0 := by simp [compTo_len p q k (by omega)]
  have e2 : p.length - k = (p.length - (k + 1)) + 1 := by omega
  rw [e1, e2, List.replicate_succ, List.set_cons_zero, compTo_succ p q k m h hm, List.append_assoc]
  simp

end Go.Proofs.Ytedajefapddekaa.fn
