/-
  slices.Delete of one element of a slice of the call's own: the shelf's contract at this program, told with Own and Chg.
-/
import Derived.Shelf.SlicesG.Cells
import Derived.Test.YtedajefapddekaaWd
namespace Go.Proofs.Ytedajefapddekaa.dl
open Go.RowKit Go.Proofs.Ytedajefapddekaa.sl Go.Proofs.Ytedajefapddekaa.fn
set_option linter.unusedVariables false

/-- Cells stored one behind the other in an owned slice. -/
theorem cells {lo hi g n cap : Nat} : ∀ (ys : List Int) (o : Nat) (w : World) (xs : List Int), Own w lo hi (.slice (some ⟨g, 0, none⟩) n cap) xs →
    ∃ zs, Own (w.setCells g o (ys.map (Value.int .i64))) lo hi (.slice (some ⟨g, 0, none⟩) n cap) zs ∧ Chg lo hi w (w.setCells g o (ys.map (Value.int .i64))) ∧ zs.length = xs.length ∧
      ∀ j, j < xs.length → zs.getD j 0 = if o ≤ j ∧ j < o + ys.length then ys.getD (j - o) 0 else xs.getD j 0
  | [], o, w, xs, h => ⟨xs, h, Chg.refl _ _ _, rfl, fun j _ => by rw [if_neg (by simp)]⟩
  | y :: r, o, w, xs, h => by
    obtain ⟨h1, c1⟩ := h.set o y
    obtain ⟨zs, h2, c2, hl, hz⟩ := cells r (o + 1) _ _ h1
    refine ⟨zs, h2, c1.trans c2, by rw [hl]; simp, fun j hj => ?_⟩
    rw [hz j (by simpa using hj)]
    by_cases e : j = o
    · subst e
      rw [if_neg (by omega), if_pos (by simp), Nat.sub_self]
      simp [List.getD, hj]
    · by_cases h3 : o + 1 ≤ j ∧ j < o + 1 + r.length
      · rw [if_pos h3, if_pos (by simp; omega), show j - o = (j - (o + 1)) + 1 by omega]
        rfl
      · rw [if_neg h3, if_neg (by simp; omega)]
        have : ¬ o = j := fun h => e h.symm
        simp [List.getD, this]

theorem shrink {w : World} {lo hi g n cap : Nat} {us ts : List Int} (o : Own w lo hi (.slice (some ⟨g, 0, none⟩) n cap) (us ++ ts)) : Own w lo hi (.slice (some ⟨g, 0, none⟩) us.length cap) us := by
  refine ⟨⟨by simp, ?_⟩, fun g' hg => o.2.1 g' hg, o.2.2⟩
  rcases o.1.2 with ⟨h, _⟩ | ⟨g', cap', cur, hv, hb, hg, hc, hm, hs, ht⟩
  · cases h
  · simp only [Value.slice.injEq, Option.some.injEq, Addr.mk.injEq, and_true] at hv
    obtain ⟨rfl, rfl, rfl⟩ := hv
    refine .inr ⟨g, cap, cur, rfl, hb, hg, by simp at hc; omega, hm, hs, ?_⟩
    have h2 := congrArg (List.take us.length) ht
    rw [List.take_take] at h2
    simp only [List.length_append, Nat.mul_one, List.map_append] at h2
    rw [show min us.length (us.length + ts.length) = us.length by omega] at h2
    rw [Nat.mul_one, h2, List.take_left' (by simp)]

end Go.Proofs.Ytedajefapddekaa.dl
