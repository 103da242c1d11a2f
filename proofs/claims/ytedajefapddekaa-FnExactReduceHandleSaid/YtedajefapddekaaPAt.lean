/-
  Contracts of PermutationAt, of the program and of its model.
-/
import Derived.Test.YtedajefapddekaaDel
import Derived.Test.YtedajefapddekaaFact
import Derived.Test.YtedajefapddekaaComp
namespace Go.Proofs.Ytedajefapddekaa.pa
open Go.RowKit Go.Proofs.Ytedajefapddekaa.sl Go.Proofs.Ytedajefapddekaa.pm Go.Proofs.Ytedajefapddekaa.fn Go.Proofs.Ytedajefapddekaa.bt
set_option linter.unusedVariables false

/-- The permutation with a number: k things are left. -/
def pick : Nat → Nat → List Int → List Int
  | 0, _, _ => []
  | k + 1, r, l => l.getD (r / fact k) 0 :: pick k (r % fact k) (l.eraseIdx (r / fact k))
theorem pick_len : ∀ (k r : Nat) (l : List Int), (pick k r l).length = k
  | 0, _, _ => rfl
  | k + 1, r, l => by simp [pick, pick_len k]
theorem pick_step (k r F i : Nat) (l o : List Int) (hF : F = fact k) (hi : i = r / F) : (o ++ [l.getD i 0]) ++ pick k (r % F) (l.eraseIdx i) = o ++ pick (k + 1) r l := by
  subst hF hi
  simp [pick]
theorem idx_lt (k r F i : Nat) (h : r < fact (k + 1)) (hF : F = fact k) (hi : i = r / F) : i < k + 1 := by
  subst hF hi
  exact Nat.div_lt_of_lt_mul h

def patOk (n r : Int) : Bool := decide (0 ≤ n ∧ n ≤ 12) && decide (0 ≤ r ∧ r ≤ (fact n.toNat : Int) - 1)
def patL (n r : Int) : List Int := if patOk n r = true then pick n.toNat r.toNat (ids n.toNat) else []
theorem patL_len (n r : Int) : (patL n r).length ≤ 12 := by
  unfold patL
  split
  · rename_i h
    simp only [patOk, Bool.and_eq_true, decide_eq_true_eq] at h
    rw [pick_len]; omega
  · simp

theorem ints_take {w : World} {lo hi g n cap i : Nat} {L : List Int} (o : Own w lo hi (.slice (some ⟨g, 0, none⟩) n cap) L) (h : i ≤ L.length) : Ints w hi (.slice (some ⟨g, 0, none⟩) i cap) (L.take i) := by
  by_cases h0 : i = 0
  · subst h0; exact .inl ⟨by simp, _, _, rfl⟩
  · refine .inr ⟨by simp; omega, g, 0, cap, by simp; omega, o.2.1 g rfl, fun j hj => ?_⟩
    simp at hj
    rw [Nat.zero_add, (o.at' j (by omega)).1]
    have h1 : j < i := by omega
    simp [List.getD, h1]

theorem ints_drop {w : World} {lo hi g n cap i : Nat} {L : List Int} (o : Own w lo hi (.slice (some ⟨g, 0, none⟩) n cap) L) (c m : Nat) (hm : m = L.length - i) : Ints w hi (.slice (some ⟨g, i, none⟩) m c) (L.drop i) := by
  subst hm
  by_cases h0 : L.length ≤ i
  · exact .inl ⟨by simp [h0], some ⟨g, i, none⟩, c, by rw [show L.length - i = 0 by omega]⟩
  · refine .inr ⟨by simp; omega, g, i, c, by simp, o.2.1 g rfl, fun j hj => ?_⟩
    simp at hj
    rw [(o.at' (i + j) (by omega)).1]
    simp [List.getD, List.getElem?_drop]

theorem ints_drop0 {w : World} {hi i : Nat} {L : List Int} (ad : Option Addr) (c m : Nat) (h : L.length ≤ i) (hm : m = L.length - i) : Ints w hi (.slice ad m c) (L.drop i) :=
  .inl ⟨by simp [h], ad, c, by rw [hm, show L.length - i = 0 by omega]⟩

theorem own_cap' {w : World} {lo hi n cap : Nat} {ao : Option Addr} {xs : List Int} (o : Own w lo hi (.slice ao n cap) xs) : n ≤ cap ∧ cap ≤ 9223372036854775807 := by
  rcases o.1.2 with ⟨h, _⟩ | ⟨g', cap', cur, hv, hb, hg, hc, hm, hs, ht⟩
  · cases h; exact ⟨Nat.le_refl _, by omega⟩
  · simp only [Value.slice.injEq] at hv
    obtain ⟨_, rfl, rfl⟩ := hv
    exact ⟨hc, hm⟩

theorem own_cap {w : World} {lo hi g n cap : Nat} {xs : List Int} (o : Own w lo hi (.slice (some ⟨g, 0, none⟩) n cap) xs) : xs.length ≤ cap ∧ cap ≤ 9223372036854775807 := by
  rcases o.1.2 with ⟨h, _⟩ | ⟨g', cap', cur, hv, hb, hg, hc, hm, hs, ht⟩
  · cases h
  · simp only [Value.slice.injEq] at hv
    obtain ⟨_, _, rfl⟩ := hv
    exact ⟨hc, hm⟩

end Go.Proofs.Ytedajefapddekaa.pa
