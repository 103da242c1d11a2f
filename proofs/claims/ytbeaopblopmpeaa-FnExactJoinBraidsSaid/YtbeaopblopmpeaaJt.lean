/-
  JoinBraids: the model's contract.
-/
import Derived.Test.YtbeaopblopmpeaaJs
namespace Go.Proofs.Ytbeaopblopmpeaa.br
open Go.RowKit Go.Proofs.Ytbeaopblopmpeaa.sl Go.Proofs.Ytbeaopblopmpeaa.pm Go.Proofs.Ytbeaopblopmpeaa.bw Go.Proofs.Ytbeaopblopmpeaa.fn
set_option linter.unusedVariables false

set_option maxRecDepth 20000 in
set_option maxHeartbeats 2000000 in
theorem specJoinF (a b : Int) (xs ys : List Int) (v u : Value) (B C : Nat) (w : World) (ha : Ints w B v xs) (hB : B ≤ w.heap.size) (hb : Ints w C u ys) (hC : C ≤ w.heap.size) (nv : NilOk v) (nu : NilOk u) (hn : xs.length ≤ 1099511627776) (hm : ys.length ≤ 1099511627776) (h : okB a xs = true) (h2 : okB b ys = true) (hab : a = b) (h40 : ¬ xs.length + ys.length ≤ 40) :
    Calls Try.prog 37 #[.agg #[.int .i64 a, v], .agg #[.int .i64 b, u]] w fun e w' => ∃ ao cap, e = .returned (.tuple #[.agg #[.int .i64 (jnS a b xs ys), .slice ao (jnW a b xs ys).length cap], .int .i64 (jnC a b xs ys)]) ∧ Own w' w.heap.size w'.heap.size (.slice ao (jnW a b xs ys).length cap) (jnW a b xs ys) ∧ Below w.heap.size w w' := by
  subst hab
  obtain ⟨ao, cap, hv⟩ := ints_val ha
  obtain ⟨bo, dap, hu⟩ := ints_val hb
  subst hv
  subst hu
  have HX := hid ha
  have HY := hid hb
  have HNv := hid nv
  have HNu := hid nu
  clear ha hb nv nu
  have HB0 := hid (box3 (Below.refl _ (((w.alloc (.cells #[.int .i64 a, .slice ao xs.length cap] 27)).alloc (.cells #[.int .i64 a, .slice bo ys.length dap] 27)).alloc (.cells #[.int .i64 0, .slice none 0 0] 27))))
  have HV := hid (specOkP a xs (.slice ao xs.length cap) B w.heap.size (((w.alloc (.cells #[.int .i64 a, .slice ao xs.length cap] 27)).alloc (.cells #[.int .i64 a, .slice bo ys.length dap] 27)).alloc (.cells #[.int .i64 0, .slice none 0 0] 27)) (ints_al (ints_al (ints_al HX.out _) _) _) hn (HB0.out.1 0) (HB0.out.1 1))
  rw [h] at HV
  have hx40 : xs.length ≤ 40 := (ok_parts h).2.2.1
  have hy40 : ys.length ≤ 40 := (ok_parts h2).2.2.1
  have hsum : IntKind.i64.wrap ((xs.length : Int) + (ys.length : Int)) = (xs.length : Int) + (ys.length : Int) := IntWalk.i64_in _ (by omega)
  have hgt : decide (40 < (xs.length : Int) + (ys.length : Int)) = true := by simp; omega
  have hno : jnOk a a xs ys = false := by simp [jnOk]; intros; omega
  have HW : Hid (jnS a a xs ys = 0 ∧ jnW a a xs ys = [] ∧ jnC a a xs ys = 5) := hid ⟨(jn_no hno).1, (jn_no hno).2, by rw [jnC, if_neg (by rw [h]; simp), if_neg (by rw [h2]; simp), if_neg (by simp), if_neg h40]⟩
  rw [HW.out.1, HW.out.2.1, HW.out.2.2, List.length_nil]
  clear hno h
  go_enter Try.func37, Try.ntmps37
  go_wp2_with fail
  refine HV.out.mono ?_
  rintro e w1 ⟨rfl, q, rfl⟩
  have HB1 := hid (box3 (bdrewN (Below.refl _ (((w.alloc (.cells #[.int .i64 a, .slice ao xs.length cap] 27)).alloc (.cells #[.int .i64 a, .slice bo ys.length dap] 27)).alloc (.cells #[.int .i64 0, .slice none 0 0] 27))) q))
  clear HB0 HV
  generalize (((w.alloc (.cells #[.int .i64 a, .slice ao xs.length cap] 27)).alloc (.cells #[.int .i64 a, .slice bo ys.length dap] 27)).alloc (.cells #[.int .i64 0, .slice none 0 0] 27)).drewN q = w1 at *
  have d0 := HB1.out.1 0
  have d1 := HB1.out.1 1
  have e0 := HB1.out.2.1 0
  have e1 := HB1.out.2.1 1
  have r0 := (HB1.out.2.2.1 0).1
  have r1 := (HB1.out.2.2.1 1).1
  have f0 := (HB1.out.2.2.1 0).2
  have f1 := (HB1.out.2.2.1 1).2
  have hz := HB1.out.2.2.2.2
  simp at d0 d1 e0 e1 r0 r1
  have HBw := hid HB1.out.2.2.2.1
  have HY1 := hid (HY.out.chg (Chg.ofBelow (lo := 0) HBw.out) (.inr (Nat.zero_le _)))
  have HX1 := hid (HX.out.chg (Chg.ofBelow (lo := 0) HBw.out) (.inr (Nat.zero_le _)))
  clear HX HY HB1
  have HV2 := hid (specOkP a ys (.slice bo ys.length dap) C (w.heap.size + 1) w1 HY1.out hm e0 e1)
  rw [h2] at HV2
  go_wp2_with fail
  refine HV2.out.mono ?_
  rintro e w2 ⟨rfl, q2, rfl⟩
  have b2 := bdrewN (Below.refl w1.heap.size w1) q2
  generalize w1.drewN q2 = w2 at *
  have d0' := (b2.cell (p := ⟨w.heap.size, 0, none⟩) (by show w.heap.size < w1.heap.size; omega)).trans d0
  have d1' := (b2.cell (p := ⟨w.heap.size, 1, none⟩) (by show w.heap.size < w1.heap.size; omega)).trans d1
  have e0' := (b2.cell (p := ⟨w.heap.size + 1, 0, none⟩) (by show w.heap.size + 1 < w1.heap.size; omega)).trans e0
  have e1' := (b2.cell (p := ⟨w.heap.size + 1, 1, none⟩) (by show w.heap.size + 1 < w1.heap.size; omega)).trans e1
  have r0' := (b2.cell (p := ⟨w.heap.size + 1 + 1, 0, none⟩) (by show w.heap.size + 1 + 1 < w1.heap.size; omega)).trans r0
  have r1' := (b2.cell (p := ⟨w.heap.size + 1 + 1, 1, none⟩) (by show w.heap.size + 1 + 1 < w1.heap.size; omega)).trans r1
  have f0' := (b2.frozen (p := ⟨w.heap.size + 1 + 1, 0, none⟩) (by show w.heap.size + 1 + 1 < w1.heap.size; omega)).trans f0
  have f1' := (b2.frozen (p := ⟨w.heap.size + 1 + 1, 1, none⟩) (by show w.heap.size + 1 + 1 < w1.heap.size; omega)).trans f1
  have hz2 := b2.size
  have HBw2 := hid (HBw.out.trans (b2.mono (by omega)))
  have HX2 := hid (HX1.out.chg (Chg.ofBelow (lo := 0) b2) (.inr (Nat.zero_le _)))
  have HY2 := hid (HY1.out.chg (Chg.ofBelow (lo := 0) b2) (.inr (Nat.zero_le _)))
  clear b2 HV2 HX1 HY1 HBw d0 d1 e0 e1 r0 r1 f0 f1
  go_wp2
  refine bodyPost_ret (v := .tuple #[.agg #[.int .i64 0, .slice none 0 0], .int .i64 5]) (by simp [results, Try.results37, go_sem, r0', r1']) rfl ⟨none, 0, rfl, Own.nil _ _, ?_⟩
  exact (HBw2.out.setCell (by show w.heap.size ≤ w.heap.size + 1 + 1; omega) _).setCell (by show w.heap.size ≤ w.heap.size + 1 + 1; omega) _

set_option maxRecDepth 20000 in
set_option maxHeartbeats 2000000 in
theorem specJoinJ (a b : Int) (xs ys : List Int) (v u : Value) (B C : Nat) (w : World) (ha : Ints w B v xs) (hB : B ≤ w.heap.size) (hb : Ints w C u ys) (hC : C ≤ w.heap.size) (nv : NilOk v) (nu : NilOk u) (hn : xs.length ≤ 1099511627776) (hm : ys.length ≤ 1099511627776) (h : okB a xs = true) (h2 : okB b ys = true) (hab : a = b) (h40 : xs.length + ys.length ≤ 40) :
    Calls Try.prog 37 #[.agg #[.int .i64 a, v], .agg #[.int .i64 b, u]] w fun e w' => ∃ ao cap, e = .returned (.tuple #[.agg #[.int .i64 (jnS a b xs ys), .slice ao (jnW a b xs ys).length cap], .int .i64 (jnC a b xs ys)]) ∧ Own w' w.heap.size w'.heap.size (.slice ao (jnW a b xs ys).length cap) (jnW a b xs ys) ∧ Below w.heap.size w w' := by
  subst hab
  obtain ⟨ao, cap, hv⟩ := ints_val ha
  obtain ⟨bo, dap, hu⟩ := ints_val hb
  subst hv
  subst hu
  have HX := hid ha
  have HY := hid hb
  have HNv := hid nv
  have HNu := hid nu
  clear ha hb nv nu
  have HB0 := hid (box3 (Below.refl _ (((w.alloc (.cells #[.int .i64 a, .slice ao xs.length cap] 27)).alloc (.cells #[.int .i64 a, .slice bo ys.length dap] 27)).alloc (.cells #[.int .i64 0, .slice none 0 0] 27))))
  have HV := hid (specOkP a xs (.slice ao xs.length cap) B w.heap.size (((w.alloc (.cells #[.int .i64 a, .slice ao xs.length cap] 27)).alloc (.cells #[.int .i64 a, .slice bo ys.length dap] 27)).alloc (.cells #[.int .i64 0, .slice none 0 0] 27)) (ints_al (ints_al (ints_al HX.out _) _) _) hn (HB0.out.1 0) (HB0.out.1 1))
  rw [h] at HV
  have hx40 : xs.length ≤ 40 := (ok_parts h).2.2.1
  have hy40 : ys.length ≤ 40 := (ok_parts h2).2.2.1
  have hsum : IntKind.i64.wrap ((xs.length : Int) + (ys.length : Int)) = (xs.length : Int) + (ys.length : Int) := IntWalk.i64_in _ (by omega)
  have hgt : decide (40 < (xs.length : Int) + (ys.length : Int)) = false := by simp; omega
  have hyes : jnOk a a xs ys = true := by simp [jnOk, h, h2, h40]
  have HW : Hid (jnS a a xs ys = a ∧ jnW a a xs ys = xs ++ ys ∧ jnC a a xs ys = 0) := hid ⟨by rw [jnS, if_pos hyes], by rw [jnW, if_pos hyes], by rw [jnC, if_neg (by rw [h]; simp), if_neg (by rw [h2]; simp), if_neg (by simp), if_pos h40]⟩
  rw [HW.out.1, HW.out.2.1, HW.out.2.2]
  clear hyes h
  go_enter Try.func37, Try.ntmps37
  go_wp2_with fail
  refine HV.out.mono ?_
  rintro e w1 ⟨rfl, q, rfl⟩
  have HB1 := hid (box3 (bdrewN (Below.refl _ (((w.alloc (.cells #[.int .i64 a, .slice ao xs.length cap] 27)).alloc (.cells #[.int .i64 a, .slice bo ys.length dap] 27)).alloc (.cells #[.int .i64 0, .slice none 0 0] 27))) q))
  clear HB0 HV
  generalize (((w.alloc (.cells #[.int .i64 a, .slice ao xs.length cap] 27)).alloc (.cells #[.int .i64 a, .slice bo ys.length dap] 27)).alloc (.cells #[.int .i64 0, .slice none 0 0] 27)).drewN q = w1 at *
  have d0 := HB1.out.1 0
  have d1 := HB1.out.1 1
  have e0 := HB1.out.2.1 0
  have e1 := HB1.out.2.1 1
  have r0 := (HB1.out.2.2.1 0).1
  have r1 := (HB1.out.2.2.1 1).1
  have f0 := (HB1.out.2.2.1 0).2
  have f1 := (HB1.out.2.2.1 1).2
  have hz := HB1.out.2.2.2.2
  simp at d0 d1 e0 e1 r0 r1
  have HBw := hid HB1.out.2.2.2.1
  have HY1 := hid (HY.out.chg (Chg.ofBelow (lo := 0) HBw.out) (.inr (Nat.zero_le _)))
  have HX1 := hid (HX.out.chg (Chg.ofBelow (lo := 0) HBw.out) (.inr (Nat.zero_le _)))
  clear HX HY HB1
  have HV2 := hid (specOkP a ys (.slice bo ys.length dap) C (w.heap.size + 1) w1 HY1.out hm e0 e1)
  rw [h2] at HV2
  go_wp2_with fail
  refine HV2.out.mono ?_
  rintro e w2 ⟨rfl, q2, rfl⟩
  have b2 := bdrewN (Below.refl w1.heap.size w1) q2
  generalize w1.drewN q2 = w2 at *
  have d0' := (b2.cell (p := ⟨w.heap.size, 0, none⟩) (by show w.heap.size < w1.heap.size; omega)).trans d0
  have d1' := (b2.cell (p := ⟨w.heap.size, 1, none⟩) (by show w.heap.size < w1.heap.size; omega)).trans d1
  have e0' := (b2.cell (p := ⟨w.heap.size + 1, 0, none⟩) (by show w.heap.size + 1 < w1.heap.size; omega)).trans e0
  have e1' := (b2.cell (p := ⟨w.heap.size + 1, 1, none⟩) (by show w.heap.size + 1 < w1.heap.size; omega)).trans e1
  have r0' := (b2.cell (p := ⟨w.heap.size + 1 + 1, 0, none⟩) (by show w.heap.size + 1 + 1 < w1.heap.size; omega)).trans r0
  have r1' := (b2.cell (p := ⟨w.heap.size + 1 + 1, 1, none⟩) (by show w.heap.size + 1 + 1 < w1.heap.size; omega)).trans r1
  have f0' := (b2.frozen (p := ⟨w.heap.size + 1 + 1, 0, none⟩) (by show w.heap.size + 1 + 1 < w1.heap.size; omega)).trans f0
  have f1' := (b2.frozen (p := ⟨w.heap.size + 1 + 1, 1, none⟩) (by show w.heap.size + 1 + 1 < w1.heap.size; omega)).trans f1
  have hz2 := b2.size
  have HBw2 := hid (HBw.out.trans (b2.mono (by omega)))
  have HX2 := hid (HX1.out.chg (Chg.ofBelow (lo := 0) b2) (.inr (Nat.zero_le _)))
  have HY2 := hid (HY1.out.chg (Chg.ofBelow (lo := 0) b2) (.inr (Nat.zero_le _)))
  clear b2 HV2 HX1 HY1 HBw d0 d1 e0 e1 r0 r1 f0 f1
  go_wp2_with fail
  have HXd : Hid (Ints w2.drew B (.slice ao xs.length cap) xs) := hid (HX2.out.chg (Chg.ofBelow (lo := 0) ((Below.refl w2.heap.size w2).drew)) (.inr (Nat.zero_le _)))
  have HYd : Hid (Ints w2.drew C (.slice bo ys.length dap) ys) := hid (HY2.out.chg (Chg.ofBelow (lo := 0) ((Below.refl w2.heap.size w2).drew)) (.inr (Nat.zero_le _)))
  have HBd : Hid (Below w.heap.size w w2.drew) := hid HBw2.out.drew
  go_region_law (first
    | (refine step_appendAll rfl _ _ rfl w2.heap.size w3.heap.size _ xs HO3.out rfl _ ys C HY3.out HNu.out rfl (by omega) (by omega) ?_; intro v4 w4 o4 c4; have b4 := c4.below (B := w2.heap.size) (Nat.le_refl _) (by omega); obtain ⟨ao4, cap4, hv4⟩ := own_val o4; subst hv4; have HO4 := hid o4; have hz4 := c4.size; have HB4 := hid (HB3.out.trans (b4.mono (by omega))); have x0d := (b4.cell (p := ⟨w.heap.size, 0, none⟩) (by show w.heap.size < w2.heap.size; omega)).trans x0c; have x1d := (b4.cell (p := ⟨w.heap.size, 1, none⟩) (by show w.heap.size < w2.heap.size; omega)).trans x1c; have y1d := (b4.cell (p := ⟨w.heap.size + 1, 1, none⟩) (by show w.heap.size + 1 < w2.heap.size; omega)).trans y1c; have s0d := (b4.cell (p := ⟨w.heap.size + 1 + 1, 0, none⟩) (by show w.heap.size + 1 + 1 < w2.heap.size; omega)).trans s0c; have s1d := (b4.cell (p := ⟨w.heap.size + 1 + 1, 1, none⟩) (by show w.heap.size + 1 + 1 < w2.heap.size; omega)).trans s1c; have p0d := (b4.frozen (p := ⟨w.heap.size + 1 + 1, 0, none⟩) (by show w.heap.size + 1 + 1 < w2.heap.size; omega)).trans p0c; have p1d := (b4.frozen (p := ⟨w.heap.size + 1 + 1, 1, none⟩) (by show w.heap.size + 1 + 1 < w2.heap.size; omega)).trans p1c; clear o4 c4 b4)
    | (go_wp2_with (go_at_call 81; refine (ownL xs _ B w2.drew HXd.out HNv.out hn).mono ?_; rintro e w3 ⟨v3, rfl, o3, b3⟩; have HO3 : Hid (Own w3 w2.heap.size w3.heap.size v3 xs) := hid o3; have hz3 : w2.heap.size ≤ w3.heap.size := b3.size; have HY3 := hid (HYd.out.chg (Chg.ofBelow (lo := 0) b3) (.inr (Nat.zero_le _))); have HB3 := hid (HBd.out.trans (b3.mono (by show w.heap.size ≤ w2.heap.size; omega))); have x0c := (b3.cell (p := ⟨w.heap.size, 0, none⟩) (by show w.heap.size < w2.heap.size; omega)).trans d0'; have x1c := (b3.cell (p := ⟨w.heap.size, 1, none⟩) (by show w.heap.size < w2.heap.size; omega)).trans d1'; have y1c := (b3.cell (p := ⟨w.heap.size + 1, 1, none⟩) (by show w.heap.size + 1 < w2.heap.size; omega)).trans e1'; have s0c := (b3.cell (p := ⟨w.heap.size + 1 + 1, 0, none⟩) (by show w.heap.size + 1 + 1 < w2.heap.size; omega)).trans r0'; have s1c := (b3.cell (p := ⟨w.heap.size + 1 + 1, 1, none⟩) (by show w.heap.size + 1 + 1 < w2.heap.size; omega)).trans r1'; have p0c := (b3.frozen (p := ⟨w.heap.size + 1 + 1, 0, none⟩) (by show w.heap.size + 1 + 1 < w2.heap.size; omega)).trans f0'; have p1c := (b3.frozen (p := ⟨w.heap.size + 1 + 1, 1, none⟩) (by show w.heap.size + 1 + 1 < w2.heap.size; omega)).trans f1'; clear o3 b3)))
  all_goals (try go_wp2)
  all_goals
    refine bodyPost_ret (v := .tuple #[.agg #[.int .i64 a, .slice ao4 (xs ++ ys).length cap4], .int .i64 0]) (by simp [results, Try.results37, go_sem, s0d, s1d]) rfl ⟨ao4, cap4, rfl, ?_, ?_⟩
    · have h := own_other (own_other HO4.out (w.heap.size + 1 + 1) 0 (.int .i64 a) (by omega)) (w.heap.size + 1 + 1) 1 (.slice ao4 (xs ++ ys).length cap4) (by omega)
      have h2 := h.lo (lo' := w.heap.size) (by omega)
      simpa using h2
    · exact (HB4.out.setCell (by show w.heap.size ≤ w.heap.size + 1 + 1; omega) _).setCell (by show w.heap.size ≤ w.heap.size + 1 + 1; omega) _

theorem specJoin (a b : Int) (xs ys : List Int) (v u : Value) (B C : Nat) (w : World) (ha : Ints w B v xs) (hB : B ≤ w.heap.size) (hb : Ints w C u ys) (hC : C ≤ w.heap.size) (nv : NilOk v) (nu : NilOk u) (hn : xs.length ≤ 1099511627776) (hm : ys.length ≤ 1099511627776) :
    Calls Try.prog 37 #[.agg #[.int .i64 a, v], .agg #[.int .i64 b, u]] w fun e w' => ∃ ao cap, e = .returned (.tuple #[.agg #[.int .i64 (jnS a b xs ys), .slice ao (jnW a b xs ys).length cap], .int .i64 (jnC a b xs ys)]) ∧ Own w' w.heap.size w'.heap.size (.slice ao (jnW a b xs ys).length cap) (jnW a b xs ys) ∧ Below w.heap.size w w' := by
  cases h : okB a xs
  · exact specJoinA a b xs ys v u B C w ha hB hb hC nv nu hn hm h
  · cases h2 : okB b ys
    · exact specJoinB a b xs ys v u B C w ha hB hb hC nv nu hn hm h h2
    · by_cases hab : a = b
      · by_cases h40 : xs.length + ys.length ≤ 40
        · exact specJoinJ a b xs ys v u B C w ha hB hb hC nv nu hn hm h h2 hab h40
        · exact specJoinF a b xs ys v u B C w ha hB hb hC nv nu hn hm h h2 hab h40
      · exact specJoinS a b xs ys v u B C w ha hB hb hC nv nu hn hm h h2 hab
end Go.Proofs.Ytbeaopblopmpeaa.br
