/-
  Contracts of BraidPermutation, of the program and of its model.
-/
import Derived.Test.YtedajefapddekaaMr
import Derived.Test.YtedajefapddekaaInv
import Derived.Test.YtedajefapddekaaWd
namespace Go.Proofs.Ytedajefapddekaa.br
open Go.RowKit Go.Proofs.Ytedajefapddekaa.sl Go.Proofs.Ytedajefapddekaa.pm Go.Proofs.Ytedajefapddekaa.bw Go.Proofs.Ytedajefapddekaa.fn

/-- The strands at all places after k letters. -/
def plTo (s : Int) (xs : List Int) (k : Nat) : List Int := (xs.take k).foldl (fun l x => swapAt l (ab x - 1).toNat) (ids s.toNat)
def plL (s : Int) (xs : List Int) : List Int := plTo s xs xs.length
theorem plTo_zero (s : Int) (xs : List Int) : plTo s xs 0 = ids s.toNat := rfl
theorem plTo_succ (s : Int) (xs : List Int) (k q : Nat) (h : k < xs.length) (hq : ab (xs.getD k 0) = (q : Int) + 1) : plTo s xs (k + 1) = swapAt (plTo s xs k) q := by
  rw [plTo, bw.take_snoc xs k h, List.foldl_append]
  simp only [List.foldl_cons, List.foldl_nil]
  rw [hq]
  congr 1
  omega
theorem fold_len (l : List Int) (xs : List Int) : (xs.foldl (fun l x => swapAt l (ab x - 1).toNat) l).length = l.length := by
  induction xs generalizing l with
  | nil => rfl
  | cons x r ih => rw [List.foldl_cons, ih, swap_len]
theorem plTo_len (s : Int) (xs : List Int) (k : Nat) : (plTo s xs k).length = s.toNat := by rw [plTo, fold_len, ids_len]
theorem ids_places (n : Nat) : Places n (ids n) := by
  intro j hj
  rw [ids_len] at hj
  exact ⟨j, by simp [ids, List.getD, hj], hj⟩
theorem swap_places (n : Nat) (p : List Int) (k : Nat) (hk : k + 1 < p.length) (h : Places n p) : Places n (swapAt p k) := by
  intro j hj
  rw [swap_len] at hj
  unfold swapAt
  rw [getD_set _ _ _ _ (by simpa using hj), getD_set _ _ _ _ hj]
  by_cases h1 : j = k + 1
  · rw [if_pos h1]; exact h k (by omega)
  · rw [if_neg h1]
    by_cases h2 : j = k
    · rw [if_pos h2]; exact h (k + 1) hk
    · rw [if_neg h2]; exact h j hj
/-- A letter as a place. -/
theorem letter_place {s : Int} {xs : List Int} (h : okB s xs = true) (k : Nat) (hk : k < xs.length) : ∃ q : Nat, ab (xs.getD k 0) = (q : Int) + 1 ∧ q + 1 < s.toNat ∧ -100 ≤ xs.getD k 0 ∧ xs.getD k 0 ≤ 100 := by
  obtain ⟨h0, h1, _, h3⟩ := ok_parts h
  have h4 := h3 k hk
  generalize xs.getD k 0 = x at *
  have h5 : 1 ≤ ab x ∧ ab x ≤ s - 1 := by unfold ab; split <;> omega
  obtain ⟨q, hq⟩ := Int.eq_ofNat_of_zero_le (show 0 ≤ ab x - 1 by omega)
  exact ⟨q, by omega, by omega, by omega, by omega⟩
theorem plTo_places {s : Int} {xs : List Int} (h : okB s xs = true) (k : Nat) (hk : k ≤ xs.length) : Places s.toNat (plTo s xs k) := by
  induction k with
  | zero => rw [plTo_zero]; exact ids_places _
  | succ k ih =>
    obtain ⟨q, hq, hq2, _⟩ := letter_place h k (by omega)
    rw [plTo_succ s xs k q (by omega) hq]
    exact swap_places _ _ _ (by rw [plTo_len]; exact hq2) (ih (by omega))

def bprW (s : Int) (xs : List Int) : List Int := wordOk s xs (invL (plL s xs))
theorem bprW_len (s : Int) (xs : List Int) : (bprW s xs).length ≤ 1000 := by
  cases h : okB s xs
  · rw [bprW, wordOk_no h]; simp
  · rw [bprW, wordOk_yes h, invL_len, plL, plTo_len]; have := (ok_parts h).2.1; omega

theorem gen_at (x : Int) (q : Nat) (hx : -100 ≤ x ∧ x ≤ 100) (hq : ab x = (q : Int) + 1) (w : World) : Calls Try.prog 108 #[.int .i64 x] w fun e w' => e = .returned (.int .i64 ((q : Int) + 1)) ∧ w = w' :=
  (implGen x hx w).mono fun _ _ h => ⟨by rw [h.1, hq], h.2⟩
theorem abs_at (x : Int) (q : Nat) (hx : -100 ≤ x ∧ x ≤ 100) (hq : ab x = (q : Int) + 1) (w : World) : Calls Try.prog 77 #[.int .i64 x] w fun e w' => e = .returned (.int .i64 ((q : Int) + 1)) ∧ w = w' :=
  (specAbs x hx w).mono fun _ _ h => ⟨by rw [h.1, hq], h.2⟩

end Go.Proofs.Ytedajefapddekaa.br
