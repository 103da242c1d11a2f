/-
  slices.Compact of a slice of the call's own: the shelf's contract at this program, told with Own and Chg. A column that would be passed: the program's test.
-/
import Derived.Test.YtbbnheiibkcgiaaAm0
namespace Go.Proofs.Ytbbnheiibkcgiaa.mo.cp
open Go.RowKit Go.Proofs.Ytbbnheiibkcgiaa.sl Go.Proofs.Ytbbnheiibkcgiaa.fn
set_option linter.unusedVariables false

def ren : Go.Shelf.Ren := ⟨fun | 43 => 48 | n => n, fun | 22 => 25 | 23 => 2 | 3 => 3 | 4 => 4 | 0 => 0 | n => n, fun | n => n⟩
theorem lays : Go.Proofs.SlLaysN.n43 Try.prog ren := {
  mixed := by kernel_rfl
  f43 := ⟨Try.f48.name, by decide, Try.func48.trans (congrArg some (by kernel_rfl))⟩
  t0 := Try.underlying0
  a0 := Try.isAgg0
  z0 := Try.sizeOf0
  v0 := Try.zeroValue0
  t3 := Try.underlying3
  a3 := Try.isAgg3
  z3 := Try.sizeOf3
  v3 := Try.zeroValue3
  t4 := Try.underlying4
  a4 := Try.isAgg4
  z4 := Try.sizeOf4
  v4 := Try.zeroValue4
  t22 := Try.underlying25
  a22 := Try.isAgg25
  z22 := Try.sizeOf25
  v22 := Try.zeroValue25
  t23 := Try.underlying2
  a23 := Try.isAgg2
  z23 := Try.sizeOf2
  v23 := Try.zeroValue2
  i23 := by kernel_rfl }

/-- Cells stored one behind the other in an owned slice. -/
theorem cells {lo hi g n cap : Nat} : ∀ (ys : List Int) (o : Nat) (w : World) (xs : List Int), Own w lo hi (.slice (some ⟨g, 0, none⟩) n cap) xs →
    ∃ zs, Own (w.setCells g o (ys.map (Value.int .i64))) lo hi (.slice (some ⟨g, 0, none⟩) n cap) zs ∧ Chg lo hi w (w.setCells g o (ys.map (Value.int .i64))) ∧ zs.length = xs.length ∧
      ∀ j, j < xs.length → zs.getD j 0 = if o ≤ j ∧ j < o + ys.length then ys.getD (j - o) 0 else xs.getD j 0
  | [], o, w, xs, h => ⟨xs, h, Chg.refl _ _ _, rfl, fun j _ => by rw [if_neg (by simp)]⟩
  | y :: r, o, w, xs, h => by
    obtain ⟨h1, c1⟩ := h.set o y
    obtain ⟨zs, h2, c2, hl, hz⟩ := cells r (o + 1) _ _ h1
    refine ⟨zs, h2, c1.trans c2, by rw [hl]; simp, fun j hj => ?_⟩
    rw [hz j (by simpa using hj)]
    by_cases e : j = o
    · subst e
      rw [if_neg (by omega), if_pos (by simp), Nat.sub_self]
      simp [List.getD, hj]
    · by_cases h3 : o + 1 ≤ j ∧ j < o + 1 + r.length
      · rw [if_pos h3, if_pos (by simp; omega), show j - o = (j - (o + 1)) + 1 by omega]
        rfl
      · rw [if_neg h3, if_neg (by simp; omega)]
        have : ¬ o = j := fun h => e h.symm
        simp [List.getD, this]

theorem shrink {w : World} {lo hi g n cap : Nat} {us ts : List Int} (o : Own w lo hi (.slice (some ⟨g, 0, none⟩) n cap) (us ++ ts)) : Own w lo hi (.slice (some ⟨g, 0, none⟩) us.length cap) us := by
  refine ⟨⟨by simp, ?_⟩, fun g' hg => o.2.1 g' hg, o.2.2⟩
  rcases o.1.2 with ⟨h, _⟩ | ⟨g', cap', cur, hv, hb, hg, hc, hm, hs, ht⟩
  · cases h
  · simp only [Value.slice.injEq, Option.some.injEq, Addr.mk.injEq, and_true] at hv
    obtain ⟨rfl, rfl, rfl⟩ := hv
    refine .inr ⟨g, cap, cur, rfl, hb, hg, by simp at hc; omega, hm, hs, ?_⟩
    have h2 := congrArg (List.take us.length) ht
    rw [List.take_take] at h2
    simp only [List.length_append, Nat.mul_one, List.map_append] at h2
    rw [show min us.length (us.length + ts.length) = us.length by omega] at h2
    rw [Nat.mul_one, h2, List.take_left' (by simp)]


theorem comp (xs : List Int) (v : Value) (lo hi : Nat) (w : World) (o : Own w lo hi v xs) (h0 : 0 < xs.length) :
    Calls Try.prog 48 #[v] w fun e w' => ∃ v', e = .returned v' ∧ Own w' lo hi v' (cpL xs xs.length) ∧ Chg lo hi w w' := by
  obtain ⟨g, cap, hv, _⟩ := own_slice o h0
  subst hv
  have hcap : xs.length ≤ cap ∧ cap ≤ 9223372036854775807 := by
    rcases o.1.2 with ⟨h, _⟩ | ⟨g', cap', cur, hv, hb, hg, hc, hm, hs, ht⟩
    · cases h
    · simp only [Value.slice.injEq] at hv
      obtain ⟨_, _, rfl⟩ := hv
      exact ⟨hc, hm⟩
  have h := Go.Proofs.AnyG.slices_Compact_int_cells lays g 0 xs.length cap xs w (Nat.le_refl _) (by omega) hcap.1
    (fun j hj => by rw [Nat.zero_add]; exact (o.at' j hj).1) (fun j hj => by rw [Nat.zero_add]; exact (o.at' j hj).2)
  refine Calls.mono h ?_
  rintro e w' ⟨rfl, q, rfl⟩
  rw [List.take_length, cp_all]
  have hcl := cp_len xs xs.length
  generalize cpL xs xs.length = us at *
  obtain ⟨zs, ho, hc, hl, hz⟩ := cells (us ++ List.replicate (xs.length - us.length) 0) 0 (w.drewN q) xs (o.drewN q)
  have hlen : (us ++ List.replicate (xs.length - us.length) (0 : Int)).length = xs.length := by simp; omega
  have hzs : zs = us ++ List.replicate (xs.length - us.length) 0 := by
    refine list_eq_of (by rw [hl, hlen]) fun j hj => ?_
    rw [hz j (by omega), if_pos ⟨by omega, by omega⟩, Nat.sub_zero]
  rw [hzs] at ho
  exact ⟨_, rfl, shrink ho, ((Chg.refl lo hi w).drewN q).trans hc⟩
end Go.Proofs.Ytbbnheiibkcgiaa.mo.cp
namespace Go.Proofs.Ytbbnheiibkcgiaa.mo
open Go.RowKit Go.Sort Go.Proofs.Ytbbnheiibkcgiaa.sl Go.Proofs.Ytbbnheiibkcgiaa.pm
set_option linter.unusedVariables false

theorem right (f t : Int) (q : Bool) (hq : decide (f < t) = q) (w : World) : Calls Try.prog 66 #[.agg #[.int .i64 f, .int .i64 t]] w fun e w' => e = .returned (.bool q) ∧ Below w.heap.size w w' := by
  have hb := (Below.refl w.heap.size w).alloc (Nat.le_refl _) (.cells #[.int .i64 f, .int .i64 t] 33)
  go_enter Try.func66, Try.ntmps66
  go_wp2
  go_ret
  exact ⟨rfl, hb⟩

theorem passes (f t : Int) (hm : (0 ≤ f ∧ f ≤ 23) ∧ (0 ≤ t ∧ t ≤ 23)) (x : Int) (w : World) :
    Calls Try.prog 46 #[.agg #[.int .i64 f, .int .i64 t], .int .i64 x] w fun e w' => e = .returned (.bool (psB f t x)) ∧ Below w.heap.size w w' := by
  have b0 := (Below.refl w.heap.size w).alloc (Nat.le_refl _) (.cells #[.int .i64 f, .int .i64 t] 33)
  have k0 : (w.alloc (.cells #[.int .i64 f, .int .i64 t] 33)).cell? ⟨w.heap.size, 0, none⟩ = some (.int .i64 f) := World.cell?_alloc_at _ _ _ _ rfl
  have k1 : (w.alloc (.cells #[.int .i64 f, .int .i64 t] 33)).cell? ⟨w.heap.size, 1, none⟩ = some (.int .i64 t) := World.cell?_alloc_at _ _ _ _ rfl
  have hs0 : (w.alloc (.cells #[.int .i64 f, .int .i64 t] 33)).heap.size = w.heap.size + 1 := by simp
  have HB0 := hid b0
  have e1 : IntKind.i64.wrap (f + 1) = f + 1 := IntWalk.i64_in _ (by omega)
  have e2 : IntKind.i64.wrap (t + 1) = t + 1 := IntWalk.i64_in _ (by omega)
  have e3 : IntKind.i64.wrap (f - 1) = f - 1 := IntWalk.i64_in _ (by omega)
  have HR := hid (fun q hq => right f t q hq (w.alloc (.cells #[.int .i64 f, .int .i64 t] 33)))
  clear b0 hm
  by_cases hft : f < t
  · have HF : Hid (psB f t x = decide (f + 1 ≤ x ∧ x ≤ t)) := hid (by rw [psB, if_pos hft])
    have HRt := hid (HR.out true (decide_eq_true hft))
    clear hft HR
    obtain ⟨q, hq⟩ : ∃ q, decide (f + 1 ≤ x ∧ x ≤ t) = q := ⟨_, rfl⟩
    have HW := hid (within64R x (f + 1) t q hq)
    rw [hq] at HF
    clear hq
    go_enter Try.func46, Try.ntmps46
    go_wp2_with fail
    refine HRt.out.mono ?_
    rintro e w1 ⟨rfl, b1⟩
    have l0 := (b1.cell (p := ⟨w.heap.size, 0, none⟩) (by show w.heap.size < _; omega)).trans k0
    have l1 := (b1.cell (p := ⟨w.heap.size, 1, none⟩) (by show w.heap.size < _; omega)).trans k1
    have HB1 := hid (HB0.out.trans (b1.mono (by omega)))
    clear b1 k0 k1
    go_wp2_with fail
    refine (HW.out _).mono ?_
    rintro e w2 ⟨rfl, rfl⟩
    go_wp2
    go_ret
    exact ⟨by rw [HF.out]; rfl, HB1.out⟩
  · have HF : Hid (psB f t x = decide (t + 1 ≤ x ∧ x ≤ f - 1)) := hid (by rw [psB, if_neg hft])
    have HRt := hid (HR.out false (decide_eq_false hft))
    clear hft HR
    obtain ⟨q, hq⟩ : ∃ q, decide (t + 1 ≤ x ∧ x ≤ f - 1) = q := ⟨_, rfl⟩
    have HW := hid (within64R x (t + 1) (f - 1) q hq)
    rw [hq] at HF
    clear hq
    go_enter Try.func46, Try.ntmps46
    go_wp2_with fail
    refine HRt.out.mono ?_
    rintro e w1 ⟨rfl, b1⟩
    have l0 := (b1.cell (p := ⟨w.heap.size, 0, none⟩) (by show w.heap.size < _; omega)).trans k0
    have l1 := (b1.cell (p := ⟨w.heap.size, 1, none⟩) (by show w.heap.size < _; omega)).trans k1
    have HB1 := hid (HB0.out.trans (b1.mono (by omega)))
    clear b1 k0 k1
    go_wp2_with fail
    refine (HW.out _).mono ?_
    rintro e w2 ⟨rfl, rfl⟩
    go_wp2
    go_ret
    exact ⟨by rw [HF.out]; rfl, HB1.out⟩
end Go.Proofs.Ytbbnheiibkcgiaa.mo
