/-
  slices.Delete of one element of a slice of the call's own: the shelf's contract at this program, told with Own and Chg.
-/
import Derived.Shelf.SlicesG.Cells
import Derived.Test.YtaconeliiicloaaWd
namespace Go.Proofs.Ytaconeliiicloaa.dl
open Go.RowKit Go.Proofs.Ytaconeliiicloaa.sl Go.Proofs.Ytaconeliiicloaa.fn
set_option linter.unusedVariables false

def ren : Go.Shelf.Ren := ⟨fun | 45 => 69 | n => n, fun | 22 => 24 | 23 => 2 | 3 => 3 | 4 => 4 | 0 => 0 | n => n, fun | n => n⟩
theorem lays : Go.Proofs.SlLaysN.n45 Try.prog ren := {
  mixed := by kernel_rfl
  f45 := ⟨Try.f69.name, by decide, Try.func69.trans (congrArg some (by kernel_rfl))⟩
  t0 := Try.underlying0
  a0 := Try.isAgg0
  z0 := Try.sizeOf0
  v0 := Try.zeroValue0
  t3 := Try.underlying3
  a3 := Try.isAgg3
  z3 := Try.sizeOf3
  v3 := Try.zeroValue3
  t4 := Try.underlying4
  a4 := Try.isAgg4
  z4 := Try.sizeOf4
  v4 := Try.zeroValue4
  t22 := Try.underlying24
  a22 := Try.isAgg24
  z22 := Try.sizeOf24
  v22 := Try.zeroValue24
  t23 := Try.underlying2
  a23 := Try.isAgg2
  z23 := Try.sizeOf2
  v23 := Try.zeroValue2
  i23 := by kernel_rfl }

/-- Cells stored one behind the other in an owned slice. -/
theorem cells {lo hi g n cap : Nat} : ∀ (ys : List Int) (o : Nat) (w : World) (xs : List Int), Own w lo hi (.slice (some ⟨g, 0, none⟩) n cap) xs →
    ∃ zs, Own (w.setCells g o (ys.map (Value.int .i64))) lo hi (.slice (some ⟨g, 0, none⟩) n cap) zs ∧ Chg lo hi w (w.setCells g o (ys.map (Value.int .i64))) ∧ zs.length = xs.length ∧
      ∀ j, j < xs.length → zs.getD j 0 = if o ≤ j ∧ j < o + ys.length then ys.getD (j - o) 0 else xs.getD j 0
  | [], o, w, xs, h => ⟨xs, h, Chg.refl _ _ _, rfl, fun j _ => by rw [if_neg (by simp)]⟩
  | y :: r, o, w, xs, h => by
    obtain ⟨h1, c1⟩ := h.set o y
    obtain ⟨zs, h2, c2, hl, hz⟩ := cells r (o + 1) _ _ h1
    refine ⟨zs, h2, c1.trans c2, by rw [hl]; simp, fun j hj => ?_⟩
    rw [hz j (by simpa using hj)]
    by_cases e : j = o
    · subst e
      rw [if_neg (by omega), if_pos (by simp), Nat.sub_self]
      simp [List.getD, hj]
    · by_cases h3 : o + 1 ≤ j ∧ j < o + 1 + r.length
      · rw [if_pos h3, if_pos (by simp; omega), show j - o = (j - (o + 1)) + 1 by omega]
        rfl
      · rw [if_neg h3, if_neg (by simp; omega)]
        have : ¬ o = j := fun h => e h.symm
        simp [List.getD, this]

theorem shrink {w : World} {lo hi g n cap : Nat} {us ts : List Int} (o : Own w lo hi (.slice (some ⟨g, 0, none⟩) n cap) (us ++ ts)) : Own w lo hi (.slice (some ⟨g, 0, none⟩) us.length cap) us := by
  refine ⟨⟨by simp, ?_⟩, fun g' hg => o.2.1 g' hg, o.2.2⟩
  rcases o.1.2 with ⟨h, _⟩ | ⟨g', cap', cur, hv, hb, hg, hc, hm, hs, ht⟩
  · cases h
  · simp only [Value.slice.injEq, Option.some.injEq, Addr.mk.injEq, and_true] at hv
    obtain ⟨rfl, rfl, rfl⟩ := hv
    refine .inr ⟨g, cap, cur, rfl, hb, hg, by simp at hc; omega, hm, hs, ?_⟩
    have h2 := congrArg (List.take us.length) ht
    rw [List.take_take] at h2
    simp only [List.length_append, Nat.mul_one, List.map_append] at h2
    rw [show min us.length (us.length + ts.length) = us.length by omega] at h2
    rw [Nat.mul_one, h2, List.take_left' (by simp)]

theorem del (xs : List Int) (v : Value) (lo hi i : Nat) (w : World) (o : Own w lo hi v xs) (hi' : i < xs.length) :
    Calls Try.prog 69 #[v, .int .i64 i, .int .i64 ((i : Int) + 1)] w fun e w' => ∃ v', e = .returned v' ∧ Own w' lo hi v' (xs.eraseIdx i) ∧ Chg lo hi w w' := by
  obtain ⟨g, cap, hv, _⟩ := own_slice o (by omega)
  subst hv
  have hcap : xs.length ≤ cap ∧ cap ≤ 9223372036854775807 := by
    rcases o.1.2 with ⟨h, _⟩ | ⟨g', cap', cur, hv, hb, hg, hc, hm, hs, ht⟩
    · cases h
    · simp only [Value.slice.injEq] at hv
      obtain ⟨_, _, rfl⟩ := hv
      exact ⟨hc, hm⟩
  have h := Go.Proofs.AnyG.slices_Delete_int_cells lays g 0 xs.length cap i (i + 1) xs w (Nat.le_refl _) hcap.1 hcap.2 (by omega) (by omega)
    (fun j hj => by rw [Nat.zero_add]; exact (o.at' j hj).1) (fun j hj => by rw [Nat.zero_add]; exact (o.at' j hj).2)
  refine Calls.mono h ?_
  rintro e w' ⟨rfl, q, rfl⟩
  obtain ⟨zs, ho, hc, hl, hz⟩ := cells (xs.take i ++ xs.drop (i + 1) ++ [0]) 0 (w.drewN q) xs (o.drewN q)
  have hlen : (xs.take i ++ xs.drop (i + 1) ++ [0]).length = xs.length := by simp; omega
  have hzs : zs = xs.take i ++ xs.drop (i + 1) ++ [0] := by
    refine list_eq_of (by rw [hl, hlen]) fun j hj => ?_
    rw [hz j (by omega), if_pos ⟨by omega, by omega⟩, Nat.sub_zero]
  have hw : ((xs.take xs.length).take i ++ (xs.take xs.length).drop (i + 1) ++ List.replicate (i + 1 - i) 0) = xs.take i ++ xs.drop (i + 1) ++ [0] := by
    rw [List.take_length, Nat.add_sub_cancel_left]; rfl
  rw [hw]
  rw [hzs] at ho
  have hs := shrink ho
  have he : xs.take i ++ xs.drop (i + 1) = xs.eraseIdx i := (List.eraseIdx_eq_take_drop_succ xs i).symm
  have hn : xs.length - (i + 1 - i) = (xs.take i ++ xs.drop (i + 1)).length := by simp; omega
  refine ⟨_, rfl, ?_, ?_⟩
  · rw [hn, ← he]; exact hs
  · exact ((Chg.refl lo hi w).drewN q).trans hc
end Go.Proofs.Ytaconeliiicloaa.dl
