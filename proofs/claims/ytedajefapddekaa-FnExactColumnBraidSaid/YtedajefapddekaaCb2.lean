/-
  ColumnBraid of the model.
-/
import Derived.Test.YtedajefapddekaaCb1
namespace Go.Proofs.Ytedajefapddekaa.cb
open Go.RowKit Go.Proofs.Ytedajefapddekaa.sl Go.Proofs.Ytedajefapddekaa.pm Go.Proofs.Ytedajefapddekaa.br Go.Proofs.Ytedajefapddekaa.bw Go.Proofs.Ytedajefapddekaa.fn Go.Proofs.Ytedajefapddekaa.db
set_option linter.unusedVariables false
set_option maxRecDepth 100000

theorem siQ (c lo hi : Int) (q : Bool) (hq : decide (lo ≤ c ∧ c ≤ hi) = q) (w : World) : Calls Try.prog 53 #[.int .i64 c, .int .i64 lo, .int .i64 hi] w fun e w' => e = .returned (.bool q) ∧ w = w' := by
  subst hq; exact (pm.specIn c lo hi w).mono fun _ _ h => ⟨by rw [h.1], h.2⟩
theorem stk_all (ss : List Int) (h : ∀ j, j < ss.length → stk (ss.getD j 0) = true) : ss.all stk = true := by
  rw [List.all_eq_true]
  intro x hx
  obtain ⟨j, hj, rfl⟩ := List.getElem_of_mem hx
  have := h j hj
  rwa [show ss.getD j 0 = ss[j] from by simp [List.getD, List.getElem?_eq_getElem hj]] at this
theorem stk_bad (ss : List Int) (k : Nat) (hk : k < ss.length) (h : stk (ss.getD k 0) = false) : ss.all stk = false := by
  rw [List.all_eq_false]
  exact ⟨ss[k], List.getElem_mem hk, by rw [show ss.getD k 0 = ss[k] from by simp [List.getD, List.getElem?_eq_getElem hk]] at h; rw [h]; simp⟩
theorem sum_le (ss : List Int) (k : Nat) (hk : k ≤ ss.length) (hl : ss.length ≤ 12) (h : ∀ j, j < k → stk (ss.getD j 0) = true) : 0 ≤ sumTo ss k ∧ sumTo ss k ≤ 48 := by
  have : 0 ≤ sumTo ss k ∧ sumTo ss k ≤ 4 * (k : Int) := by
    induction k with
    | zero => rw [sumTo_zero]; omega
    | succ k ih =>
      have h1 := ih (by omega) (fun j hj => h j (by omega))
      have h2 := h k (by omega)
      rw [sumTo_succ ss k (by omega)]
      simp only [stk, decide_eq_true_eq] at h2
      omega
  omega

set_option maxHeartbeats 4000000 in
theorem specCB (s : Int) (xs ss : List Int) (v u : Value) (B C : Nat) (w : World) (ha : Ints w B v xs) (hB : B ≤ w.heap.size) (hb : Ints w C u ss) (hC : C ≤ w.heap.size) (hn : xs.length ≤ 1099511627776) (hm : ss.length ≤ 1099511627776) (nv : NilOk v) (nu : NilOk u) :
    Calls Try.prog 28 #[.agg #[.int .i64 s, v], u] w fun e w' => ∃ ao cap, e = .returned (.tuple #[.agg #[.int .i64 (cbSt s xs ss), .slice ao (cbWo s xs ss).length cap], .int .i64 (cbCo s xs ss)]) ∧ sl.Own w' w.heap.size w'.heap.size (.slice ao (cbWo s xs ss).length cap) (cbWo s xs ss) ∧ Below w.heap.size w w' := by
  obtain ⟨ao, cap, hv⟩ := ints_val ha
  obtain ⟨bo, dap, hu⟩ := ints_val hb
  subst hv
  subst hu
  have HX := hid ha
  have HY := hid hb
  have HNu := hid nu
  clear ha hb nu nv
  have HV := hid (specOkA2 s xs (.slice ao xs.length cap) B w (.cells #[.int .i64 0, .slice none 0 0] 39) HX.out hn)
  cases h : okB s xs
  · have HW := hid (cb_bad (s := s) (xs := xs) (ss := ss) (by unfold cbP; rw [h]; rfl))
    rw [h] at HV
    clear h
    go_enter Try.func28, Try.ntmps28
    go_wp2_with fail
    refine HV.out.mono ?_
    rintro e w1 ⟨rfl, q, rfl⟩
    have HB1 := hid (box2 (bdrewN (Below.refl _ (((w.alloc (.cells #[.int .i64 s, .slice ao xs.length cap] 39)).alloc (.cells #[.int .i64 0, .slice none 0 0] 39)))) q))
    generalize ((w.alloc (.cells #[.int .i64 s, .slice ao xs.length cap] 39)).alloc (.cells #[.int .i64 0, .slice none 0 0] 39)).drewN q = w1 at *
    have d0 := HB1.out.1 0
    have d1 := HB1.out.1 1
    have r0 := (HB1.out.2.1 0).1
    have r1 := (HB1.out.2.1 1).1
    have f0 := (HB1.out.2.1 0).2
    have f1 := (HB1.out.2.1 1).2
    have hz := HB1.out.2.2.2
    simp at d0 d1 r0 r1
    have HX1 := hid (HX.out.chg (Chg.ofBelow (lo := 0) HB1.out.2.2.1) (.inr (Nat.zero_le _)))
    have HY1 := hid (HY.out.chg (Chg.ofBelow (lo := 0) HB1.out.2.2.1) (.inr (Nat.zero_le _)))
    have HBw := hid HB1.out.2.2.1
    clear HV HX HY HB1
    go_wp2
    refine bodyPost_ret (v := .tuple #[.agg #[.int .i64 0, .slice none 0 0], .int .i64 1]) (by simp [results, Try.results28, go_sem, r0, r1]) rfl ⟨none, 0, by rw [HW.out.1, HW.out.2.1, HW.out.2.2]; rfl, by rw [HW.out.2.1]; exact sl.Own.nil _ _, ?_⟩
    exact (HBw.out.setCell (p := (⟨w.heap.size + 1, 0, none⟩ : Addr)) (by show w.heap.size ≤ w.heap.size + 1; omega) _).setCell (p := (⟨w.heap.size + 1, 1, none⟩ : Addr)) (by show w.heap.size ≤ w.heap.size + 1; omega) _
  · rw [h] at HV
    by_cases hs : (ss.length : Int) = s
    · have hP : cbP s xs ss = true := by unfold cbP; rw [h, decide_eq_true hs]; rfl
      have hl : xs.length ≤ 40 := (ok_parts h).2.2.1
      have hsl : ss.length ≤ 12 := by have := (ok_parts h).2.1; omega
      have HBad := hid (fun k hk hb => cb_rng hP (stk_bad ss k hk hb))
      have HGo := hid (fun hst => cb_go hP hst)
      have HOkS := hid (fun hst => cR_ok (xs := xs) h hs (all_stk hst).2)
      have HSmall := hid (fun hst => dW_small (xs := xs) h hs (all_stk hst).2)
      have HRl := hid (red_let h ss hs)
      have HKs := hid (ok_small h)
      have HRn := hid (Nat.le_trans (redL_len xs) hl)
      have HCl := hid (fun hst => cR_len (ss := ss) hl (all_stk hst).2)
      have heq : ((ss.length : Int) == s) = true := by simpa using hs
      have hnq : ((ss.length : Int) != s) = false := by simpa using hs
      obtain ⟨m, hm2⟩ : ∃ m, m = ss.length := ⟨_, rfl⟩
      rw [← hm2] at hsl hm heq hnq HY HNu ⊢
      have HM := hid hm2
      clear hP h hs hm2
      go_enter Try.func28, Try.ntmps28
      go_wp2_with fail
      refine HV.out.mono ?_
      rintro e w1 ⟨rfl, q, rfl⟩
      have HB1 := hid (box2 (bdrewN (Below.refl _ (((w.alloc (.cells #[.int .i64 s, .slice ao xs.length cap] 39)).alloc (.cells #[.int .i64 0, .slice none 0 0] 39)))) q))
      generalize ((w.alloc (.cells #[.int .i64 s, .slice ao xs.length cap] 39)).alloc (.cells #[.int .i64 0, .slice none 0 0] 39)).drewN q = w1 at *
      have d0 := HB1.out.1 0
      have d1 := HB1.out.1 1
      have r0 := (HB1.out.2.1 0).1
      have r1 := (HB1.out.2.1 1).1
      have f0 := (HB1.out.2.1 0).2
      have f1 := (HB1.out.2.1 1).2
      have hz := HB1.out.2.2.2
      simp at d0 d1 r0 r1
      have HX1 := hid (HX.out.chg (Chg.ofBelow (lo := 0) HB1.out.2.2.1) (.inr (Nat.zero_le _)))
      have HY1 := hid (HY.out.chg (Chg.ofBelow (lo := 0) HB1.out.2.2.1) (.inr (Nat.zero_le _)))
      have HBw := hid HB1.out.2.2.1
      clear HV HX HY HB1
      go_wp2
      go_loopw [6, 7] (fun n i wr => ∃ k : Nat, k ≤ m ∧ i = .int .i64 k ∧ n = .int .i64 (sumTo ss k) ∧ (∀ j, j < k → stk (ss.getD j 0) = true) ∧ wr = w1) (fun _ i _ => m - (intOf i).toNat)
      case atStart => exact ⟨0, Nat.zero_le _, rfl, by rw [sumTo_zero], fun j hj => by omega, rfl⟩
      case round =>
        obtain ⟨k, hk, rfl, rfl, hst, hwr⟩ := hrel
        obtain rfl := hwr.symm
        have HSt := hid hst
        have hsb := sum_le ss k (by rw [← HM.out]; exact hk) (by rw [← HM.out]; exact hsl) hst
        clear hst
        by_cases hlt : k < m
        · rcases HY1.out with ⟨hx, _⟩ | ⟨hp, b, off, cap', hv, hb, hc⟩
          · rw [HM.out, hx] at hlt; simp at hlt
          · simp only [Value.slice.injEq] at hv
            obtain ⟨rfl, hlen, rfl⟩ := hv
            clear hlen
            have h1 := hc k (by rw [← HM.out]; exact hlt)
            have HSs := hid (sumTo_succ ss k (by rw [← HM.out]; exact hlt))
            clear hc hp
            cases hq : stk (ss.getD k 0)
            · have HW := hid (HBad.out k (by rw [← HM.out]; exact hlt) hq)
              have HI := hid (siQ (ss.getD k 0) 1 4 false hq)
              clear hq HSs
              generalize ss.getD k 0 = x at *
              generalize sumTo ss k = t at *
              go_wp2_with fail
              refine (HI.out _).mono ?_
              rintro e w2 ⟨rfl, hw2⟩
              obtain rfl := hw2
              go_wp2
              refine bodyPost_ret (v := .tuple #[.agg #[.int .i64 0, .slice none 0 0], .int .i64 2]) (by simp [results, Try.results28, go_sem, r0, r1]) rfl ⟨none, 0, by rw [HW.out.1, HW.out.2.1, HW.out.2.2]; rfl, by rw [HW.out.2.1]; exact sl.Own.nil _ _, ?_⟩
              exact (HBw.out.setCell (p := (⟨w.heap.size + 1, 0, none⟩ : Addr)) (by show w.heap.size ≤ w.heap.size + 1; omega) _).setCell (p := (⟨w.heap.size + 1, 1, none⟩ : Addr)) (by show w.heap.size ≤ w.heap.size + 1; omega) _
            · have HI := hid (siQ (ss.getD k 0) 1 4 true hq)
              have hxr := of_decide_eq_true hq
              have HQ := hid hq
              clear hq
              generalize hx0 : ss.getD k 0 = x at *
              generalize sumTo ss k = t at *
              have HX0 := hid hx0
              clear hx0
              go_wp2_with fail
              refine (HI.out _).mono ?_
              rintro e w2 ⟨rfl, hw2⟩
              obtain rfl := hw2
              go_wp2
              go_roundw
              case rel =>
                refine ⟨k + 1, by omega, by go_num, by rw [HSs.out], fun j hj => ?_, trivial⟩
                by_cases e : j = k
                · subst e; rw [HX0.out]; exact HQ.out
                · exact HSt.out j (by omega)
              case measure => simp [intOf]; omega
        · obtain rfl : k = m := by omega
          have hall := stk_all ss (fun j hj => HSt.out j (by rw [HM.out]; exact hj))
          have HW := hid (HGo.out hall)
          have HOk := hid (HOkS.out hall)
          have HSm := hid (all_stk hall).2
          have HSmw := hid (HSmall.out hall)
          have HCn := hid (HCl.out hall)
          have hsum : sumTo ss k = sumL ss := by rw [HM.out, sumTo_all]
          rw [hsum]
          rw [hsum] at hsb
          clear hall hsum HBad HGo HOkS HSmall HCl
          go_wp2_with fail
          refine (fv.specRedL xs (.slice ao xs.length cap) B w1 HX1.out (by omega) (by omega) HKs.out).mono ?_
          rintro e w3 ⟨v3, rfl, o3, b3⟩
          have d0c := (b3.cell (p := ⟨w.heap.size, 0, none⟩) (by show w.heap.size < w1.heap.size; omega)).trans d0
          have d1c := (b3.cell (p := ⟨w.heap.size, 1, none⟩) (by show w.heap.size < w1.heap.size; omega)).trans d1
          have r0c := (b3.cell (p := ⟨w.heap.size + 1, 0, none⟩) (by show w.heap.size + 1 < w1.heap.size; omega)).trans r0
          have r1c := (b3.cell (p := ⟨w.heap.size + 1, 1, none⟩) (by show w.heap.size + 1 < w1.heap.size; omega)).trans r1
          have f0c := (b3.frozen (p := ⟨w.heap.size + 1, 0, none⟩) (by show w.heap.size + 1 < w1.heap.size; omega)).trans f0
          have f1c := (b3.frozen (p := ⟨w.heap.size + 1, 1, none⟩) (by show w.heap.size + 1 < w1.heap.size; omega)).trans f1
          have hzw3 := b3.size
          have HO3 := hid o3
          have HY3 := hid (HY1.out.chg (Chg.ofBelow (lo := 0) b3) (.inr (Nat.zero_le _)))
          have HBw3 := hid (HBw.out.trans (b3.mono (by omega)))
          clear b3 o3 d0 d1 r0 r1 f0 f1
          have HDb := hid (specWords (redL xs) ss v3 (.slice bo k dap) w3.heap.size C w3 HO3.out.ints HY3.out (Nat.le_refl _) (by omega) HNu.out HRl.out HRn.out (by rw [← HM.out]; exact hsl) HSm.out)
          go_wp2_with fail
          refine HDb.out.mono ?_
          rintro e w4 ⟨v4, rfl, o4, b4⟩
          have d0d := (b4.cell (p := ⟨w.heap.size, 0, none⟩) (by show w.heap.size < w3.heap.size; omega)).trans d0c
          have d1d := (b4.cell (p := ⟨w.heap.size, 1, none⟩) (by show w.heap.size < w3.heap.size; omega)).trans d1c
          have r0d := (b4.cell (p := ⟨w.heap.size + 1, 0, none⟩) (by show w.heap.size + 1 < w3.heap.size; omega)).trans r0c
          have r1d := (b4.cell (p := ⟨w.heap.size + 1, 1, none⟩) (by show w.heap.size + 1 < w3.heap.size; omega)).trans r1c
          have f0d := (b4.frozen (p := ⟨w.heap.size + 1, 0, none⟩) (by show w.heap.size + 1 < w3.heap.size; omega)).trans f0c
          have f1d := (b4.frozen (p := ⟨w.heap.size + 1, 1, none⟩) (by show w.heap.size + 1 < w3.heap.size; omega)).trans f1c
          have hzw4 := b4.size
          have HO4 : Hid (sl.Own w4 w3.heap.size w4.heap.size v4 (dW xs ss)) := hid o4
          have HBw4 := hid (HBw3.out.trans (b4.mono (by omega)))
          clear b4 o4 d0c d1c r0c r1c f0c f1c HDb
          go_wp2_with fail
          refine (fv.specRedL (dW xs ss) v4 w4.heap.size w4 HO4.out.ints (Nat.le_refl _) (by have := HCn.out.1; omega) HSmw.out).mono ?_
          rintro e w5 ⟨v5, rfl, o5, b5⟩
          have d0e := (b5.cell (p := ⟨w.heap.size, 0, none⟩) (by show w.heap.size < w4.heap.size; omega)).trans d0d
          have d1e := (b5.cell (p := ⟨w.heap.size, 1, none⟩) (by show w.heap.size < w4.heap.size; omega)).trans d1d
          have r0e := (b5.cell (p := ⟨w.heap.size + 1, 0, none⟩) (by show w.heap.size + 1 < w4.heap.size; omega)).trans r0d
          have r1e := (b5.cell (p := ⟨w.heap.size + 1, 1, none⟩) (by show w.heap.size + 1 < w4.heap.size; omega)).trans r1d
          have f0e := (b5.frozen (p := ⟨w.heap.size + 1, 0, none⟩) (by show w.heap.size + 1 < w4.heap.size; omega)).trans f0d
          have f1e := (b5.frozen (p := ⟨w.heap.size + 1, 1, none⟩) (by show w.heap.size + 1 < w4.heap.size; omega)).trans f1d
          have hzw5 := b5.size
          have HO5 : Hid (sl.Own w5 w4.heap.size w5.heap.size v5 (cR xs ss)) := hid o5
          have HBw5 := hid (HBw4.out.trans (b5.mono (by omega)))
          obtain ⟨a5, c5, hv5⟩ := br.own_val HO5.out
          subst hv5
          clear b5 o5 d0d d1d r0d r1d f0d f1d
          obtain ⟨l5, hl5⟩ : ∃ l5, l5 = (cR xs ss).length := ⟨_, rfl⟩
          rw [← hl5] at HO5
          rw [← hl5]
          have HL5 := hid hl5
          clear hl5
          have bA := (Below.refl w5.heap.size w5).alloc (Nat.le_refl _) (.cells #[.int .i64 (sumL ss), .slice a5 l5 c5] 39)
          have d0g := (bA.cell (p := ⟨w.heap.size, 0, none⟩) (by show w.heap.size < w5.heap.size; omega)).trans d0e
          have d1g := (bA.cell (p := ⟨w.heap.size, 1, none⟩) (by show w.heap.size < w5.heap.size; omega)).trans d1e
          have r0g := (bA.cell (p := ⟨w.heap.size + 1, 0, none⟩) (by show w.heap.size + 1 < w5.heap.size; omega)).trans r0e
          have r1g := (bA.cell (p := ⟨w.heap.size + 1, 1, none⟩) (by show w.heap.size + 1 < w5.heap.size; omega)).trans r1e
          have f0g := (bA.frozen (p := ⟨w.heap.size + 1, 0, none⟩) (by show w.heap.size + 1 < w5.heap.size; omega)).trans f0e
          have f1g := (bA.frozen (p := ⟨w.heap.size + 1, 1, none⟩) (by show w.heap.size + 1 < w5.heap.size; omega)).trans f1e
          have hzwA := bA.size
          have x0 : (w5.alloc (.cells #[.int .i64 (sumL ss), .slice a5 l5 c5] 39)).cell? ⟨w5.heap.size, 0, none⟩ = some (.int .i64 (sumL ss)) := World.cell?_alloc_at _ _ _ _ rfl
          have x1 : (w5.alloc (.cells #[.int .i64 (sumL ss), .slice a5 l5 c5] 39)).cell? ⟨w5.heap.size, 1, none⟩ = some (.slice a5 l5 c5) := World.cell?_alloc_at _ _ _ _ rfl
          have HVo := hid (specOkP (sumL ss) (cR xs ss) (.slice a5 l5 c5) w5.heap.size w5.heap.size (w5.alloc (.cells #[.int .i64 (sumL ss), .slice a5 l5 c5] 39)) (ints_al HO5.out.ints _) (by have := HCn.out.2; omega) x0 x1)
          have HOA := hid (br.own_al HO5.out (.cells #[.int .i64 (sumL ss), .slice a5 l5 c5] 39))
          have HBwA := hid (HBw5.out.alloc (by omega) (.cells #[.int .i64 (sumL ss), .slice a5 l5 c5] 39))
          clear bA d0e d1e r0e r1e f0e f1e hzwA
          rw [HOk.out] at HVo
          cases hj : joinOk (sumL ss) [cR xs ss]
          · have HJ : Hid (joinS (sumL ss) [cR xs ss] = 0 ∧ joinW (sumL ss) [cR xs ss] = [] ∧ joinC (sumL ss) [cR xs ss] = 5) := hid (by unfold joinS joinW joinC; rw [hj]; exact ⟨rfl, rfl, rfl⟩)
            rw [hj] at HVo
            clear hj
            go_wp2_with fail
            generalize w5.alloc (.cells #[.int .i64 (sumL ss), .slice a5 l5 c5] 39) = wA at *
            refine HVo.out.mono ?_
            rintro e w6 ⟨rfl, q6, hw6⟩
            have r0 : w6.cell? ⟨w.heap.size + 1, 0, none⟩ = some (.int .i64 0) := by rw [hw6]; exact r0g
            have r1 : w6.cell? ⟨w.heap.size + 1, 1, none⟩ = some (.slice none 0 0) := by rw [hw6]; exact r1g
            have f0 : w6.frozen? ⟨w.heap.size + 1, 0, none⟩ = false := by rw [hw6]; exact f0g
            have f1 : w6.frozen? ⟨w.heap.size + 1, 1, none⟩ = false := by rw [hw6]; exact f1g
            have HBw : Hid (Below w.heap.size w w6) := hid (by rw [hw6]; exact bdrewN HBwA.out q6)
            clear hw6
            rw [HJ.out.1, HJ.out.2.1, HJ.out.2.2] at HW
            go_wp2
            refine bodyPost_ret (v := .tuple #[.agg #[.int .i64 0, .slice none 0 0], .int .i64 5]) (by simp [results, Try.results28, go_sem, r0, r1]) rfl ⟨none, 0, by rw [HW.out.1, HW.out.2.1, HW.out.2.2]; rfl, by rw [HW.out.2.1]; exact sl.Own.nil _ _, ?_⟩
            exact (HBw.out.setCell (p := (⟨w.heap.size + 1, 0, none⟩ : Addr)) (by show w.heap.size ≤ w.heap.size + 1; omega) _).setCell (p := (⟨w.heap.size + 1, 1, none⟩ : Addr)) (by show w.heap.size ≤ w.heap.size + 1; omega) _
          · have HJ : Hid (joinS (sumL ss) [cR xs ss] = sumL ss ∧ joinW (sumL ss) [cR xs ss] = cR xs ss ∧ joinC (sumL ss) [cR xs ss] = 0) := hid (by unfold joinS joinW joinC; rw [hj]; refine ⟨rfl, ?_, rfl⟩; simp)
            rw [hj] at HVo
            clear hj
            go_wp2_with fail
            generalize hwA : w5.alloc (.cells #[.int .i64 (sumL ss), .slice a5 l5 c5] 39) = wA at *
            have hsA : wA.heap.size = w5.heap.size + 1 := by rw [← hwA]; simp
            clear hwA
            refine HVo.out.mono ?_
            rintro e w6 ⟨rfl, q6, hw6⟩
            have r0 : w6.cell? ⟨w.heap.size + 1, 0, none⟩ = some (.int .i64 0) := by rw [hw6]; exact r0g
            have r1 : w6.cell? ⟨w.heap.size + 1, 1, none⟩ = some (.slice none 0 0) := by rw [hw6]; exact r1g
            have f0 : w6.frozen? ⟨w.heap.size + 1, 0, none⟩ = false := by rw [hw6]; exact f0g
            have f1 : w6.frozen? ⟨w.heap.size + 1, 1, none⟩ = false := by rw [hw6]; exact f1g
            have x0 : w6.cell? ⟨w5.heap.size, 0, none⟩ = some (.int .i64 (sumL ss)) := by rw [hw6]; exact x0
            have x1 : w6.cell? ⟨w5.heap.size, 1, none⟩ = some (.slice a5 l5 c5) := by rw [hw6]; exact x1
            have HBw : Hid (Below w.heap.size w w6) := hid (by rw [hw6]; exact bdrewN HBwA.out q6)
            have HO6 : Hid (sl.Own w6 w4.heap.size w5.heap.size (.slice a5 l5 c5) (cR xs ss)) := hid (by rw [hw6]; exact HOA.out.drewN q6)
            have hs6 : w5.heap.size + 1 ≤ w6.heap.size := by rw [hw6]; show _ ≤ wA.heap.size; omega
            clear hw6
            rw [HJ.out.1, HJ.out.2.1, HJ.out.2.2] at HW
            go_wp2
            refine bodyPost_ret (v := .tuple #[.agg #[.int .i64 (sumL ss), .slice a5 l5 c5], .int .i64 0]) (by simp [results, Try.results28, go_sem, r0, r1]) rfl ⟨a5, c5, by rw [HW.out.1, HW.out.2.1, HW.out.2.2, ← HL5.out], ?_, ?_⟩
            · rw [HW.out.2.1, ← HL5.out]
              have h := own_other (own_other HO6.out (w.heap.size + 1) 0 (.int .i64 (sumL ss)) (by omega)) (w.heap.size + 1) 1 (.slice a5 l5 c5) (by omega)
              have h2 := (h.lo (lo' := w.heap.size) (by omega)).hi (hi' := w6.heap.size) (by omega) (by simp)
              simpa using h2
            · exact (HBw.out.setCell (p := (⟨w.heap.size + 1, 0, none⟩ : Addr)) (by show w.heap.size ≤ w.heap.size + 1; omega) _).setCell (p := (⟨w.heap.size + 1, 1, none⟩ : Addr)) (by show w.heap.size ≤ w.heap.size + 1; omega) _
    · have HW := hid (cb_bad (s := s) (xs := xs) (ss := ss) (by unfold cbP; rw [h, decide_eq_false hs]; rfl))
      have hne : ((ss.length : Int) == s) = false := by simpa using hs
      clear h hs
      go_enter Try.func28, Try.ntmps28
      go_wp2_with fail
      refine HV.out.mono ?_
      rintro e w1 ⟨rfl, q, rfl⟩
      have HB1 := hid (box2 (bdrewN (Below.refl _ (((w.alloc (.cells #[.int .i64 s, .slice ao xs.length cap] 39)).alloc (.cells #[.int .i64 0, .slice none 0 0] 39)))) q))
      generalize ((w.alloc (.cells #[.int .i64 s, .slice ao xs.length cap] 39)).alloc (.cells #[.int .i64 0, .slice none 0 0] 39)).drewN q = w1 at *
      have d0 := HB1.out.1 0
      have d1 := HB1.out.1 1
      have r0 := (HB1.out.2.1 0).1
      have r1 := (HB1.out.2.1 1).1
      have f0 := (HB1.out.2.1 0).2
      have f1 := (HB1.out.2.1 1).2
      have hz := HB1.out.2.2.2
      simp at d0 d1 r0 r1
      have HX1 := hid (HX.out.chg (Chg.ofBelow (lo := 0) HB1.out.2.2.1) (.inr (Nat.zero_le _)))
      have HY1 := hid (HY.out.chg (Chg.ofBelow (lo := 0) HB1.out.2.2.1) (.inr (Nat.zero_le _)))
      have HBw := hid HB1.out.2.2.1
      clear HV HX HY HB1
      go_wp2
      refine bodyPost_ret (v := .tuple #[.agg #[.int .i64 0, .slice none 0 0], .int .i64 1]) (by simp [results, Try.results28, go_sem, r0, r1]) rfl ⟨none, 0, by rw [HW.out.1, HW.out.2.1, HW.out.2.2]; rfl, by rw [HW.out.2.1]; exact sl.Own.nil _ _, ?_⟩
      exact (HBw.out.setCell (p := (⟨w.heap.size + 1, 0, none⟩ : Addr)) (by show w.heap.size ≤ w.heap.size + 1; omega) _).setCell (p := (⟨w.heap.size + 1, 1, none⟩ : Addr)) (by show w.heap.size ≤ w.heap.size + 1; omega) _
end Go.Proofs.Ytedajefapddekaa.cb
