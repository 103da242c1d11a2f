/-
  The model's own test of a permutation: contracts of spec.l00Has and spec.l04Perm.
-/
import Derived.Test.YtedajefapddekaaComp
import Derived.Shelf.Abstract
namespace Go.Proofs.Ytedajefapddekaa.fn
open Go.RowKit Go.Proofs.Ytedajefapddekaa.sl Go.Proofs.Ytedajefapddekaa.pm

/-- The list holds the number. -/
def hasB (xs : List Int) (x : Int) : Bool := xs.contains x
theorem has_no (xs : List Int) (x : Int) (h : ∀ j, j < xs.length → xs.getD j 0 ≠ x) : hasB xs x = false := by
  cases hc : hasB xs x
  · rfl
  · simp only [hasB, List.contains_eq_mem, decide_eq_true_eq] at hc
    obtain ⟨j, hj, he⟩ := List.mem_iff_getElem.1 hc
    exact absurd (by simpa [List.getD, List.getElem?_eq_getElem hj] using he) (h j hj)
theorem has_yes (xs : List Int) (x : Int) (k : Nat) (hk : k < xs.length) (h : xs.getD k 0 = x) : hasB xs x = true := by
  simp only [hasB, List.contains_eq_mem, decide_eq_true_eq]
  rw [← h, show xs.getD k 0 = xs[k] from by simp [List.getD, List.getElem?_eq_getElem hk]]
  exact List.getElem_mem hk

theorem inQ (c lo hi : Int) (q : Bool) (hq : decide (lo ≤ c ∧ c ≤ hi) = q) (w : World) : Calls Try.prog 53 #[.int .i64 c, .int .i64 lo, .int .i64 hi] w fun e w' => e = .returned (.bool q) ∧ w' = w :=
  (specIn c lo hi w).mono fun _ _ h => ⟨by rw [h.1, hq], h.2.symm⟩

/-- The room of a slice is no less than its length. -/
def CapOk (v : Value) : Prop := ∀ ao n cap, v = .slice ao n cap → n ≤ cap ∧ cap ≤ 9223372036854775807
theorem capok_own {w : World} {lo hi : Nat} {v : Value} {xs : List Int} (o : Own w lo hi v xs) : CapOk v := by
  intro ao n cap e
  subst e
  rcases o.1.2 with ⟨h, _⟩ | ⟨g', cap', cur, hv, hb, hg, hc, hm, hs, ht⟩
  · cases h; exact ⟨Nat.le_refl _, by omega⟩
  · simp only [Value.slice.injEq] at hv
    obtain ⟨_, rfl, rfl⟩ := hv
    exact ⟨hc, hm⟩

/-- What was read of a slice can be read of its first part. -/
theorem ints_front {w : World} {B : Nat} {b off n : Nat} {xs : List Int} (hb : b < B) (hc : ∀ j, j < n → w.cell? ⟨b, off + j, none⟩ = some (.int .i64 (xs.getD j 0))) (hn : n = xs.length) (k cap' : Nat) (hk : k ≤ n) :
    Ints w B (.slice (some ⟨b, off, none⟩) k cap') (xs.take k) := by
  by_cases h0 : k = 0
  · subst h0; exact .inl ⟨by simp, _, _, rfl⟩
  · have hl : (xs.take k).length = k := by simp; omega
    refine .inr ⟨by omega, b, off, cap', by rw [hl], hb, fun j hj => ?_⟩
    rw [hl] at hj
    rw [hc j (by omega)]
    simp [List.getD, hj]

end Go.Proofs.Ytedajefapddekaa.fn
