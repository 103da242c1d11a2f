/-
  JoinBraids: the model's contract where it answers an error.
-/
import Derived.Test.YtbeaopblopmpeaaJo
namespace Go.Proofs.Ytbeaopblopmpeaa.br
open Go.RowKit Go.Proofs.Ytbeaopblopmpeaa.sl Go.Proofs.Ytbeaopblopmpeaa.pm Go.Proofs.Ytbeaopblopmpeaa.bw Go.Proofs.Ytbeaopblopmpeaa.fn
set_option linter.unusedVariables false

set_option maxHeartbeats 2000000 in
theorem specJoinA (a b : Int) (xs ys : List Int) (v u : Value) (B C : Nat) (w : World) (ha : Ints w B v xs) (hB : B ≤ w.heap.size) (hb : Ints w C u ys) (hC : C ≤ w.heap.size) (nv : NilOk v) (nu : NilOk u) (hn : xs.length ≤ 1099511627776) (hm : ys.length ≤ 1099511627776) (h : okB a xs = false) :
    Calls Try.prog 37 #[.agg #[.int .i64 a, v], .agg #[.int .i64 b, u]] w fun e w' => ∃ ao cap, e = .returned (.tuple #[.agg #[.int .i64 (jnS a b xs ys), .slice ao (jnW a b xs ys).length cap], .int .i64 (jnC a b xs ys)]) ∧ Own w' w.heap.size w'.heap.size (.slice ao (jnW a b xs ys).length cap) (jnW a b xs ys) ∧ Below w.heap.size w w' := by
  obtain ⟨ao, cap, hv⟩ := ints_val ha
  obtain ⟨bo, dap, hu⟩ := ints_val hb
  subst hv
  subst hu
  have HX := hid ha
  have HY := hid hb
  have HNv := hid nv
  have HNu := hid nu
  clear ha hb nv nu
  have HB0 := hid (box3 (Below.refl _ (((w.alloc (.cells #[.int .i64 a, .slice ao xs.length cap] 27)).alloc (.cells #[.int .i64 b, .slice bo ys.length dap] 27)).alloc (.cells #[.int .i64 0, .slice none 0 0] 27))))
  have HV := hid (specOkP a xs (.slice ao xs.length cap) B w.heap.size (((w.alloc (.cells #[.int .i64 a, .slice ao xs.length cap] 27)).alloc (.cells #[.int .i64 b, .slice bo ys.length dap] 27)).alloc (.cells #[.int .i64 0, .slice none 0 0] 27)) (ints_al (ints_al (ints_al HX.out _) _) _) hn (HB0.out.1 0) (HB0.out.1 1))
  rw [h] at HV
  have hno : jnOk a b xs ys = false := by simp [jnOk, h]
  have HW : Hid (jnS a b xs ys = 0 ∧ jnW a b xs ys = [] ∧ jnC a b xs ys = 1) := hid ⟨(jn_no hno).1, (jn_no hno).2, by rw [jnC, if_pos h]⟩
  rw [HW.out.1, HW.out.2.1, HW.out.2.2, List.length_nil]
  clear hno
  go_enter Try.func37, Try.ntmps37
  go_wp2_with fail
  refine HV.out.mono ?_
  rintro e w1 ⟨rfl, q, rfl⟩
  have HB1 := hid (box3 (bdrewN (Below.refl _ (((w.alloc (.cells #[.int .i64 a, .slice ao xs.length cap] 27)).alloc (.cells #[.int .i64 b, .slice bo ys.length dap] 27)).alloc (.cells #[.int .i64 0, .slice none 0 0] 27))) q))
  clear HB0 HV
  generalize (((w.alloc (.cells #[.int .i64 a, .slice ao xs.length cap] 27)).alloc (.cells #[.int .i64 b, .slice bo ys.length dap] 27)).alloc (.cells #[.int .i64 0, .slice none 0 0] 27)).drewN q = w1 at *
  have d0 := HB1.out.1 0
  have d1 := HB1.out.1 1
  have e0 := HB1.out.2.1 0
  have e1 := HB1.out.2.1 1
  have r0 := (HB1.out.2.2.1 0).1
  have r1 := (HB1.out.2.2.1 1).1
  have f0 := (HB1.out.2.2.1 0).2
  have f1 := (HB1.out.2.2.1 1).2
  have hz := HB1.out.2.2.2.2
  simp at d0 d1 e0 e1 r0 r1
  have HBw := hid HB1.out.2.2.2.1
  have HY1 := hid (HY.out.chg (Chg.ofBelow (lo := 0) HBw.out) (.inr (Nat.zero_le _)))
  have HX1 := hid (HX.out.chg (Chg.ofBelow (lo := 0) HBw.out) (.inr (Nat.zero_le _)))
  clear HX HY HB1
  go_wp2
  refine bodyPost_ret (v := .tuple #[.agg #[.int .i64 0, .slice none 0 0], .int .i64 1]) (by simp [results, Try.results37, go_sem, r0, r1]) rfl ⟨none, 0, rfl, Own.nil _ _, ?_⟩
  exact (HBw.out.setCell (by show w.heap.size ≤ w.heap.size + 1 + 1; omega) _).setCell (by show w.heap.size ≤ w.heap.size + 1 + 1; omega) _

set_option maxHeartbeats 2000000 in
theorem specJoinB (a b : Int) (xs ys : List Int) (v u : Value) (B C : Nat) (w : World) (ha : Ints w B v xs) (hB : B ≤ w.heap.size) (hb : Ints w C u ys) (hC : C ≤ w.heap.size) (nv : NilOk v) (nu : NilOk u) (hn : xs.length ≤ 1099511627776) (hm : ys.length ≤ 1099511627776) (h : okB a xs = true) (h2 : okB b ys = false) :
    Calls Try.prog 37 #[.agg #[.int .i64 a, v], .agg #[.int .i64 b, u]] w fun e w' => ∃ ao cap, e = .returned (.tuple #[.agg #[.int .i64 (jnS a b xs ys), .slice ao (jnW a b xs ys).length cap], .int .i64 (jnC a b xs ys)]) ∧ Own w' w.heap.size w'.heap.size (.slice ao (jnW a b xs ys).length cap) (jnW a b xs ys) ∧ Below w.heap.size w w' := by
  obtain ⟨ao, cap, hv⟩ := ints_val ha
  obtain ⟨bo, dap, hu⟩ := ints_val hb
  subst hv
  subst hu
  have HX := hid ha
  have HY := hid hb
  have HNv := hid nv
  have HNu := hid nu
  clear ha hb nv nu
  have HB0 := hid (box3 (Below.refl _ (((w.alloc (.cells #[.int .i64 a, .slice ao xs.length cap] 27)).alloc (.cells #[.int .i64 b, .slice bo ys.length dap] 27)).alloc (.cells #[.int .i64 0, .slice none 0 0] 27))))
  have HV := hid (specOkP a xs (.slice ao xs.length cap) B w.heap.size (((w.alloc (.cells #[.int .i64 a, .slice ao xs.length cap] 27)).alloc (.cells #[.int .i64 b, .slice bo ys.length dap] 27)).alloc (.cells #[.int .i64 0, .slice none 0 0] 27)) (ints_al (ints_al (ints_al HX.out _) _) _) hn (HB0.out.1 0) (HB0.out.1 1))
  rw [h] at HV
  have hno : jnOk a b xs ys = false := by simp [jnOk, h2]
  have HW : Hid (jnS a b xs ys = 0 ∧ jnW a b xs ys = [] ∧ jnC a b xs ys = 1) := hid ⟨(jn_no hno).1, (jn_no hno).2, by rw [jnC, if_neg (by rw [h]; simp), if_pos h2]⟩
  rw [HW.out.1, HW.out.2.1, HW.out.2.2, List.length_nil]
  clear hno
  clear h
  go_enter Try.func37, Try.ntmps37
  go_wp2_with fail
  refine HV.out.mono ?_
  rintro e w1 ⟨rfl, q, rfl⟩
  have HB1 := hid (box3 (bdrewN (Below.refl _ (((w.alloc (.cells #[.int .i64 a, .slice ao xs.length cap] 27)).alloc (.cells #[.int .i64 b, .slice bo ys.length dap] 27)).alloc (.cells #[.int .i64 0, .slice none 0 0] 27))) q))
  clear HB0 HV
  generalize (((w.alloc (.cells #[.int .i64 a, .slice ao xs.length cap] 27)).alloc (.cells #[.int .i64 b, .slice bo ys.length dap] 27)).alloc (.cells #[.int .i64 0, .slice none 0 0] 27)).drewN q = w1 at *
  have d0 := HB1.out.1 0
  have d1 := HB1.out.1 1
  have e0 := HB1.out.2.1 0
  have e1 := HB1.out.2.1 1
  have r0 := (HB1.out.2.2.1 0).1
  have r1 := (HB1.out.2.2.1 1).1
  have f0 := (HB1.out.2.2.1 0).2
  have f1 := (HB1.out.2.2.1 1).2
  have hz := HB1.out.2.2.2.2
  simp at d0 d1 e0 e1 r0 r1
  have HBw := hid HB1.out.2.2.2.1
  have HY1 := hid (HY.out.chg (Chg.ofBelow (lo := 0) HBw.out) (.inr (Nat.zero_le _)))
  have HX1 := hid (HX.out.chg (Chg.ofBelow (lo := 0) HBw.out) (.inr (Nat.zero_le _)))
  clear HX HY HB1
  have HV2 := hid (specOkP b ys (.slice bo ys.length dap) C (w.heap.size + 1) w1 HY1.out hm e0 e1)
  rw [h2] at HV2
  go_wp2_with fail
  refine HV2.out.mono ?_
  rintro e w2 ⟨rfl, q2, rfl⟩
  have b2 := bdrewN (Below.refl w1.heap.size w1) q2
  generalize w1.drewN q2 = w2 at *
  have d0' := (b2.cell (p := ⟨w.heap.size, 0, none⟩) (by show w.heap.size < w1.heap.size; omega)).trans d0
  have d1' := (b2.cell (p := ⟨w.heap.size, 1, none⟩) (by show w.heap.size < w1.heap.size; omega)).trans d1
  have e0' := (b2.cell (p := ⟨w.heap.size + 1, 0, none⟩) (by show w.heap.size + 1 < w1.heap.size; omega)).trans e0
  have e1' := (b2.cell (p := ⟨w.heap.size + 1, 1, none⟩) (by show w.heap.size + 1 < w1.heap.size; omega)).trans e1
  have r0' := (b2.cell (p := ⟨w.heap.size + 1 + 1, 0, none⟩) (by show w.heap.size + 1 + 1 < w1.heap.size; omega)).trans r0
  have r1' := (b2.cell (p := ⟨w.heap.size + 1 + 1, 1, none⟩) (by show w.heap.size + 1 + 1 < w1.heap.size; omega)).trans r1
  have f0' := (b2.frozen (p := ⟨w.heap.size + 1 + 1, 0, none⟩) (by show w.heap.size + 1 + 1 < w1.heap.size; omega)).trans f0
  have f1' := (b2.frozen (p := ⟨w.heap.size + 1 + 1, 1, none⟩) (by show w.heap.size + 1 + 1 < w1.heap.size; omega)).trans f1
  have hz2 := b2.size
  have HBw2 := hid (HBw.out.trans (b2.mono (by omega)))
  have HX2 := hid (HX1.out.chg (Chg.ofBelow (lo := 0) b2) (.inr (Nat.zero_le _)))
  have HY2 := hid (HY1.out.chg (Chg.ofBelow (lo := 0) b2) (.inr (Nat.zero_le _)))
  clear b2 HV2 HX1 HY1 HBw d0 d1 e0 e1 r0 r1 f0 f1
  go_wp2
  refine bodyPost_ret (v := .tuple #[.agg #[.int .i64 0, .slice none 0 0], .int .i64 1]) (by simp [results, Try.results37, go_sem, r0', r1']) rfl ⟨none, 0, rfl, Own.nil _ _, ?_⟩
  exact (HBw2.out.setCell (by show w.heap.size ≤ w.heap.size + 1 + 1; omega) _).setCell (by show w.heap.size ≤ w.heap.size + 1 + 1; omega) _

set_option maxHeartbeats 2000000 in
theorem specJoinS (a b : Int) (xs ys : List Int) (v u : Value) (B C : Nat) (w : World) (ha : Ints w B v xs) (hB : B ≤ w.heap.size) (hb : Ints w C u ys) (hC : C ≤ w.heap.size) (nv : NilOk v) (nu : NilOk u) (hn : xs.length ≤ 1099511627776) (hm : ys.length ≤ 1099511627776) (h : okB a xs = true) (h2 : okB b ys = true) (hab : ¬ a = b) :
    Calls Try.prog 37 #[.agg #[.int .i64 a, v], .agg #[.int .i64 b, u]] w fun e w' => ∃ ao cap, e = .returned (.tuple #[.agg #[.int .i64 (jnS a b xs ys), .slice ao (jnW a b xs ys).length cap], .int .i64 (jnC a b xs ys)]) ∧ Own w' w.heap.size w'.heap.size (.slice ao (jnW a b xs ys).length cap) (jnW a b xs ys) ∧ Below w.heap.size w w' := by
  obtain ⟨ao, cap, hv⟩ := ints_val ha
  obtain ⟨bo, dap, hu⟩ := ints_val hb
  subst hv
  subst hu
  have HX := hid ha
  have HY := hid hb
  have HNv := hid nv
  have HNu := hid nu
  clear ha hb nv nu
  have HB0 := hid (box3 (Below.refl _ (((w.alloc (.cells #[.int .i64 a, .slice ao xs.length cap] 27)).alloc (.cells #[.int .i64 b, .slice bo ys.length dap] 27)).alloc (.cells #[.int .i64 0, .slice none 0 0] 27))))
  have HV := hid (specOkP a xs (.slice ao xs.length cap) B w.heap.size (((w.alloc (.cells #[.int .i64 a, .slice ao xs.length cap] 27)).alloc (.cells #[.int .i64 b, .slice bo ys.length dap] 27)).alloc (.cells #[.int .i64 0, .slice none 0 0] 27)) (ints_al (ints_al (ints_al HX.out _) _) _) hn (HB0.out.1 0) (HB0.out.1 1))
  rw [h] at HV
  have hno : jnOk a b xs ys = false := by simp [jnOk, hab]
  have HW : Hid (jnS a b xs ys = 0 ∧ jnW a b xs ys = [] ∧ jnC a b xs ys = 6) := hid ⟨(jn_no hno).1, (jn_no hno).2, by rw [jnC, if_neg (by rw [h]; simp), if_neg (by rw [h2]; simp), if_pos hab]⟩
  rw [HW.out.1, HW.out.2.1, HW.out.2.2, List.length_nil]
  clear hno
  have hab' : (a == b) = false := beq_eq_false_iff_ne.2 hab
  clear h
  go_enter Try.func37, Try.ntmps37
  go_wp2_with fail
  refine HV.out.mono ?_
  rintro e w1 ⟨rfl, q, rfl⟩
  have HB1 := hid (box3 (bdrewN (Below.refl _ (((w.alloc (.cells #[.int .i64 a, .slice ao xs.length cap] 27)).alloc (.cells #[.int .i64 b, .slice bo ys.length dap] 27)).alloc (.cells #[.int .i64 0, .slice none 0 0] 27))) q))
  clear HB0 HV
  generalize (((w.alloc (.cells #[.int .i64 a, .slice ao xs.length cap] 27)).alloc (.cells #[.int .i64 b, .slice bo ys.length dap] 27)).alloc (.cells #[.int .i64 0, .slice none 0 0] 27)).drewN q = w1 at *
  have d0 := HB1.out.1 0
  have d1 := HB1.out.1 1
  have e0 := HB1.out.2.1 0
  have e1 := HB1.out.2.1 1
  have r0 := (HB1.out.2.2.1 0).1
  have r1 := (HB1.out.2.2.1 1).1
  have f0 := (HB1.out.2.2.1 0).2
  have f1 := (HB1.out.2.2.1 1).2
  have hz := HB1.out.2.2.2.2
  simp at d0 d1 e0 e1 r0 r1
  have HBw := hid HB1.out.2.2.2.1
  have HY1 := hid (HY.out.chg (Chg.ofBelow (lo := 0) HBw.out) (.inr (Nat.zero_le _)))
  have HX1 := hid (HX.out.chg (Chg.ofBelow (lo := 0) HBw.out) (.inr (Nat.zero_le _)))
  clear HX HY HB1
  have HV2 := hid (specOkP b ys (.slice bo ys.length dap) C (w.heap.size + 1) w1 HY1.out hm e0 e1)
  rw [h2] at HV2
  go_wp2_with fail
  refine HV2.out.mono ?_
  rintro e w2 ⟨rfl, q2, rfl⟩
  have b2 := bdrewN (Below.refl w1.heap.size w1) q2
  generalize w1.drewN q2 = w2 at *
  have d0' := (b2.cell (p := ⟨w.heap.size, 0, none⟩) (by show w.heap.size < w1.heap.size; omega)).trans d0
  have d1' := (b2.cell (p := ⟨w.heap.size, 1, none⟩) (by show w.heap.size < w1.heap.size; omega)).trans d1
  have e0' := (b2.cell (p := ⟨w.heap.size + 1, 0, none⟩) (by show w.heap.size + 1 < w1.heap.size; omega)).trans e0
  have e1' := (b2.cell (p := ⟨w.heap.size + 1, 1, none⟩) (by show w.heap.size + 1 < w1.heap.size; omega)).trans e1
  have r0' := (b2.cell (p := ⟨w.heap.size + 1 + 1, 0, none⟩) (by show w.heap.size + 1 + 1 < w1.heap.size; omega)).trans r0
  have r1' := (b2.cell (p := ⟨w.heap.size + 1 + 1, 1, none⟩) (by show w.heap.size + 1 + 1 < w1.heap.size; omega)).trans r1
  have f0' := (b2.frozen (p := ⟨w.heap.size + 1 + 1, 0, none⟩) (by show w.heap.size + 1 + 1 < w1.heap.size; omega)).trans f0
  have f1' := (b2.frozen (p := ⟨w.heap.size + 1 + 1, 1, none⟩) (by show w.heap.size + 1 + 1 < w1.heap.size; omega)).trans f1
  have hz2 := b2.size
  have HBw2 := hid (HBw.out.trans (b2.mono (by omega)))
  have HX2 := hid (HX1.out.chg (Chg.ofBelow (lo := 0) b2) (.inr (Nat.zero_le _)))
  have HY2 := hid (HY1.out.chg (Chg.ofBelow (lo := 0) b2) (.inr (Nat.zero_le _)))
  clear b2 HV2 HX1 HY1 HBw d0 d1 e0 e1 r0 r1 f0 f1
  go_wp2
  refine bodyPost_ret (v := .tuple #[.agg #[.int .i64 0, .slice none 0 0], .int .i64 6]) (by simp [results, Try.results37, go_sem, r0', r1']) rfl ⟨none, 0, rfl, Own.nil _ _, ?_⟩
  exact (HBw2.out.setCell (by show w.heap.size ≤ w.heap.size + 1 + 1; omega) _).setCell (by show w.heap.size ≤ w.heap.size + 1 + 1; omega) _

end Go.Proofs.Ytbeaopblopmpeaa.br
