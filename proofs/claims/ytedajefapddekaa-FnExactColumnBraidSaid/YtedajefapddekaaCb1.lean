/-
  ColumnBraid of both sides.
-/
import Derived.Test.YtedajefapddekaaCb0
namespace Go.Proofs.Ytedajefapddekaa.cb
open Go.RowKit Go.Proofs.Ytedajefapddekaa.sl Go.Proofs.Ytedajefapddekaa.pm Go.Proofs.Ytedajefapddekaa.br Go.Proofs.Ytedajefapddekaa.bw Go.Proofs.Ytedajefapddekaa.fn Go.Proofs.Ytedajefapddekaa.db
set_option linter.unusedVariables false
set_option maxRecDepth 100000

theorem wds_one (w : World) (B g : Nat) (a1 : Option Addr) (c1 : Nat) (xs : List Int) (h1 : w.cell? ⟨g, 0, none⟩ = some (.slice a1 xs.length c1)) (i1 : Ints w B (.slice a1 xs.length c1) xs) (n1 : NilOk (.slice a1 xs.length c1)) : Wds w B g [xs] := by
  intro j hj
  match j, hj with
  | 0, _ => exact ⟨a1, c1, h1, i1, n1⟩
  | j + 1, hj => simp at hj

set_option maxHeartbeats 4000000 in
theorem implCB (s : Int) (xs ss : List Int) (v u : Value) (B C : Nat) (w : World) (ha : Ints w B v xs) (hB : B ≤ w.heap.size) (hb : Ints w C u ss) (hC : C ≤ w.heap.size) (hn : xs.length ≤ 1099511627776) (hm : ss.length ≤ 1099511627776) (nv : NilOk v) (nu : NilOk u) :
    Calls Try.prog 31 #[.agg #[.int .i64 s, v], u] w fun e w' => ∃ ao cap, e = .returned (.tuple #[.agg #[.int .i64 (cbSt s xs ss), .slice ao (cbWo s xs ss).length cap], .int .i64 (cbCo s xs ss)]) ∧ sl.Own w' w.heap.size w'.heap.size (.slice ao (cbWo s xs ss).length cap) (cbWo s xs ss) ∧ Below w.heap.size w w' := by
  obtain ⟨ao, cap, hv⟩ := ints_val ha
  obtain ⟨bo, dap, hu⟩ := ints_val hb
  subst hv
  subst hu
  have HX := hid ha
  have HY := hid hb
  have HNu := hid nu
  clear ha hb nu nv
  have HV := hid (implValidB s xs (.slice ao xs.length cap) B ((w.alloc (.cells #[.int .i64 s, .slice ao xs.length cap] 39)).alloc (.cells #[.int .i64 0, .slice none 0 0] 39)) (ints_al (ints_al HX.out _) _) (by simp; omega) hn)
  cases h : okB s xs
  · have HW := hid (cb_bad (s := s) (xs := xs) (ss := ss) (by unfold cbP; rw [h]; rfl))
    rw [h] at HV
    clear h
    go_enter Try.func31, Try.ntmps31
    go_wp2_with fail
    refine HV.out.mono ?_
    rintro e w1 ⟨rfl, b1⟩
    have HB1 := hid (box2 b1)
    have d0 := HB1.out.1 0
    have d1 := HB1.out.1 1
    have r0 := (HB1.out.2.1 0).1
    have r1 := (HB1.out.2.1 1).1
    have f0 := (HB1.out.2.1 0).2
    have f1 := (HB1.out.2.1 1).2
    have hz := HB1.out.2.2.2
    simp at d0 d1 r0 r1
    have HX1 := hid (HX.out.chg (Chg.ofBelow (lo := 0) HB1.out.2.2.1) (.inr (Nat.zero_le _)))
    have HY1 := hid (HY.out.chg (Chg.ofBelow (lo := 0) HB1.out.2.2.1) (.inr (Nat.zero_le _)))
    have HBw := hid HB1.out.2.2.1
    clear b1 HV HX HY HB1
    go_wp2
    refine bodyPost_ret (v := .tuple #[.agg #[.int .i64 0, .slice none 0 0], .int .i64 1]) (by simp [results, Try.results31, go_sem, r0, r1]) rfl ⟨none, 0, by rw [HW.out.1, HW.out.2.1, HW.out.2.2]; rfl, by rw [HW.out.2.1]; exact sl.Own.nil _ _, ?_⟩
    exact (HBw.out.setCell (p := (⟨w.heap.size + 1, 0, none⟩ : Addr)) (by show w.heap.size ≤ w.heap.size + 1; omega) _).setCell (p := (⟨w.heap.size + 1, 1, none⟩ : Addr)) (by show w.heap.size ≤ w.heap.size + 1; omega) _
  · rw [h] at HV
    by_cases hs : (ss.length : Int) = s
    · have hP : cbP s xs ss = true := by unfold cbP; rw [h, decide_eq_true hs]; rfl
      have hl : xs.length ≤ 40 := (ok_parts h).2.2.1
      have hsl : ss.length ≤ 12 := by have := (ok_parts h).2.1; omega
      have HAl : Hid (∀ (W : World) (D : Nat), Ints W D (.slice bo ss.length dap) ss → D ≤ W.heap.size → Calls Try.prog 69 #[.func (.func 70) #[] #[], .slice bo ss.length dap] W fun e w' => e = .returned (.bool (ss.all stk)) ∧ Below W.heap.size W w') := hid (fun W D i l => implAll 70 stk ss _ D W i l hm (fun _ _ => rfl) (fun x W => implStack x W))
      cases hst : ss.all stk
      · have HW := hid (cb_rng hP hst)
        rw [hst] at HAl
        clear hst hP h
        subst hs
        go_enter Try.func31, Try.ntmps31
        go_wp2_with fail
        refine HV.out.mono ?_
        rintro e w1 ⟨rfl, b1⟩
        have HB1 := hid (box2 b1)
        have d0 := HB1.out.1 0
        have d1 := HB1.out.1 1
        have r0 := (HB1.out.2.1 0).1
        have r1 := (HB1.out.2.1 1).1
        have f0 := (HB1.out.2.1 0).2
        have f1 := (HB1.out.2.1 1).2
        have hz := HB1.out.2.2.2
        simp at d0 d1 r0 r1
        have HX1 := hid (HX.out.chg (Chg.ofBelow (lo := 0) HB1.out.2.2.1) (.inr (Nat.zero_le _)))
        have HY1 := hid (HY.out.chg (Chg.ofBelow (lo := 0) HB1.out.2.2.1) (.inr (Nat.zero_le _)))
        have HBw := hid HB1.out.2.2.1
        clear b1 HV HX HY HB1
        go_wp2_with fail
        refine (HAl.out w1 _ HY1.out (by omega)).mono ?_
        rintro e w2 ⟨rfl, b2⟩
        have d0b := (b2.cell (p := ⟨w.heap.size, 0, none⟩) (by show w.heap.size < w1.heap.size; omega)).trans d0
        have d1b := (b2.cell (p := ⟨w.heap.size, 1, none⟩) (by show w.heap.size < w1.heap.size; omega)).trans d1
        have r0b := (b2.cell (p := ⟨w.heap.size + 1, 0, none⟩) (by show w.heap.size + 1 < w1.heap.size; omega)).trans r0
        have r1b := (b2.cell (p := ⟨w.heap.size + 1, 1, none⟩) (by show w.heap.size + 1 < w1.heap.size; omega)).trans r1
        have f0b := (b2.frozen (p := ⟨w.heap.size + 1, 0, none⟩) (by show w.heap.size + 1 < w1.heap.size; omega)).trans f0
        have f1b := (b2.frozen (p := ⟨w.heap.size + 1, 1, none⟩) (by show w.heap.size + 1 < w1.heap.size; omega)).trans f1
        have hzw2 := b2.size
        have HBw2 := hid (HBw.out.trans (b2.mono (by omega)))
        clear b2 d0 d1 r0 r1 f0 f1 HBw
        have r0 := r0b
        have r1 := r1b
        have HBw := HBw2
        go_wp2
        refine bodyPost_ret (v := .tuple #[.agg #[.int .i64 0, .slice none 0 0], .int .i64 2]) (by simp [results, Try.results31, go_sem, r0, r1]) rfl ⟨none, 0, by rw [HW.out.1, HW.out.2.1, HW.out.2.2]; rfl, by rw [HW.out.2.1]; exact sl.Own.nil _ _, ?_⟩
        exact (HBw.out.setCell (p := (⟨w.heap.size + 1, 0, none⟩ : Addr)) (by show w.heap.size ≤ w.heap.size + 1; omega) _).setCell (p := (⟨w.heap.size + 1, 1, none⟩ : Addr)) (by show w.heap.size ≤ w.heap.size + 1; omega) _
      · have HW := hid (cb_go hP hst)
        have hsm := all_stk hst
        rw [hst] at HAl
        have HRd := hid (fun (W : World) (i : Ints W B (.slice ao xs.length cap) xs) (l : B ≤ W.heap.size) => implReduce s xs (.slice ao xs.length cap) B W i l hn)
        have eR1 : strOk s xs = s := strOk_yes h
        have eR2 : rdcW s xs = redL xs := by rw [rdcW, wordOk_yes h]
        rw [eR1, eR2] at HRd
        have HRl := hid (red_let h ss hs)
        have HSmall := hid (dW_small h hs hsm.2)
        have HRn := hid (Nat.le_trans (redL_len xs) hl)
        have HCl := hid (cR_len hl hsm.2)
        have HSm := hid hsm.2
        have HSum := hid (fun (W : World) (D : Nat) (i : Ints W D (.slice bo ss.length dap) ss) => implSum ss 4 (.slice bo ss.length dap) D W i (by omega) (by omega) (fun j hj => by have := hsm.2 j; omega))
        clear hst hP h hsm eR1 eR2
        subst hs
        go_enter Try.func31, Try.ntmps31
        go_wp2_with fail
        refine HV.out.mono ?_
        rintro e w1 ⟨rfl, b1⟩
        have HB1 := hid (box2 b1)
        have d0 := HB1.out.1 0
        have d1 := HB1.out.1 1
        have r0 := (HB1.out.2.1 0).1
        have r1 := (HB1.out.2.1 1).1
        have f0 := (HB1.out.2.1 0).2
        have f1 := (HB1.out.2.1 1).2
        have hz := HB1.out.2.2.2
        simp at d0 d1 r0 r1
        have HX1 := hid (HX.out.chg (Chg.ofBelow (lo := 0) HB1.out.2.2.1) (.inr (Nat.zero_le _)))
        have HY1 := hid (HY.out.chg (Chg.ofBelow (lo := 0) HB1.out.2.2.1) (.inr (Nat.zero_le _)))
        have HBw := hid HB1.out.2.2.1
        clear b1 HV HX HY HB1
        go_wp2_with fail
        refine (HAl.out w1 _ HY1.out (by omega)).mono ?_
        rintro e w2 ⟨rfl, b2⟩
        have d0b := (b2.cell (p := ⟨w.heap.size, 0, none⟩) (by show w.heap.size < w1.heap.size; omega)).trans d0
        have d1b := (b2.cell (p := ⟨w.heap.size, 1, none⟩) (by show w.heap.size < w1.heap.size; omega)).trans d1
        have r0b := (b2.cell (p := ⟨w.heap.size + 1, 0, none⟩) (by show w.heap.size + 1 < w1.heap.size; omega)).trans r0
        have r1b := (b2.cell (p := ⟨w.heap.size + 1, 1, none⟩) (by show w.heap.size + 1 < w1.heap.size; omega)).trans r1
        have f0b := (b2.frozen (p := ⟨w.heap.size + 1, 0, none⟩) (by show w.heap.size + 1 < w1.heap.size; omega)).trans f0
        have f1b := (b2.frozen (p := ⟨w.heap.size + 1, 1, none⟩) (by show w.heap.size + 1 < w1.heap.size; omega)).trans f1
        have hzw2 := b2.size
        have HX2 := hid (HX1.out.chg (Chg.ofBelow (lo := 0) b2) (.inr (Nat.zero_le _)))
        have HY2 := hid (HY1.out.chg (Chg.ofBelow (lo := 0) b2) (.inr (Nat.zero_le _)))
        have HBw2 := hid (HBw.out.trans (b2.mono (by omega)))
        clear b2 d0 d1 r0 r1 f0 f1 HBw HX1 HY1
        go_wp2_with fail
        refine (HRd.out w2 HX2.out (by omega)).mono ?_
        rintro e w3 ⟨a3, c3, rfl, o3, b3⟩
        have d0c := (b3.cell (p := ⟨w.heap.size, 0, none⟩) (by show w.heap.size < w2.heap.size; omega)).trans d0b
        have d1c := (b3.cell (p := ⟨w.heap.size, 1, none⟩) (by show w.heap.size < w2.heap.size; omega)).trans d1b
        have r0c := (b3.cell (p := ⟨w.heap.size + 1, 0, none⟩) (by show w.heap.size + 1 < w2.heap.size; omega)).trans r0b
        have r1c := (b3.cell (p := ⟨w.heap.size + 1, 1, none⟩) (by show w.heap.size + 1 < w2.heap.size; omega)).trans r1b
        have f0c := (b3.frozen (p := ⟨w.heap.size + 1, 0, none⟩) (by show w.heap.size + 1 < w2.heap.size; omega)).trans f0b
        have f1c := (b3.frozen (p := ⟨w.heap.size + 1, 1, none⟩) (by show w.heap.size + 1 < w2.heap.size; omega)).trans f1b
        have hzw3 := b3.size
        have HO3 := hid o3
        have HY3 := hid (HY2.out.chg (Chg.ofBelow (lo := 0) b3) (.inr (Nat.zero_le _)))
        have HBw3 := hid (HBw2.out.trans (b3.mono (by omega)))
        have hfd := br.fieldWord (ss.length : Int) a3 (redL xs).length c3
        have HBl := hid (blockWordsC (redL xs) ss (.slice a3 (redL xs).length c3) (.slice bo ss.length dap) w3.heap.size C w3 HO3.out.ints HY3.out (Nat.le_refl _) (by omega) HNu.out HRl.out HRn.out hsl HSm.out)
        clear b3 o3 d0b d1b r0b r1b f0b f1b HBw2 HX2 HY2
        obtain ⟨m, hm2⟩ : ∃ m, m = (redL xs).length := ⟨_, rfl⟩
        have HM := hid hm2
        rw [← hm2] at hfd HBl HO3
        rw [← hm2]
        clear hm2
        go_wp2_with fail
        refine HBl.out.mono ?_
        rintro e w4 ⟨g4, k4, rfl, ⟨vals, s4⟩, hg4, b4⟩
        have d0d := (b4.cell (p := ⟨w.heap.size, 0, none⟩) (by show w.heap.size < w3.heap.size; omega)).trans d0c
        have d1d := (b4.cell (p := ⟨w.heap.size, 1, none⟩) (by show w.heap.size < w3.heap.size; omega)).trans d1c
        have r0d := (b4.cell (p := ⟨w.heap.size + 1, 0, none⟩) (by show w.heap.size + 1 < w3.heap.size; omega)).trans r0c
        have r1d := (b4.cell (p := ⟨w.heap.size + 1, 1, none⟩) (by show w.heap.size + 1 < w3.heap.size; omega)).trans r1c
        have f0d := (b4.frozen (p := ⟨w.heap.size + 1, 0, none⟩) (by show w.heap.size + 1 < w3.heap.size; omega)).trans f0c
        have f1d := (b4.frozen (p := ⟨w.heap.size + 1, 1, none⟩) (by show w.heap.size + 1 < w3.heap.size; omega)).trans f1c
        have hzw4 := b4.size
        have HY4 := hid (HY3.out.chg (Chg.ofBelow (lo := 0) b4) (.inr (Nat.zero_le _)))
        have HBw4 := hid (HBw3.out.trans (b4.mono (by omega)))
        have hlen4 : (rowsL ss (redL xs) m).length = m := rows_len _ _ _
        have s4' : wk.SR w4 w3.heap.size (.slice (some ⟨g4, 0, none⟩) (rowsL ss (redL xs) m).length k4) vals (rowsL ss (redL xs) m) := by rw [hlen4]; exact s4
        have hfl : (rowsL ss (redL xs) m).flatten = dW xs ss := by rw [HM.out]; exact rows_flat _ _ _
        have HCn := hid (concat (rowsL ss (redL xs) m) g4 k4 w4.heap.size w4 (sr_wds s4') (Nat.le_refl _) hg4 (by rw [hlen4, HM.out]; have := HRn.out; omega) (by rw [hfl]; have := HCl.out.1; omega))
        rw [hlen4, hfl] at HCn
        clear b4 s4 s4' hfl hlen4 d0c d1c r0c r1c f0c f1c HBw3 HY3 HBl
        go_wp2_with fail
        refine HCn.out.mono ?_
        rintro e w5 ⟨v5, rfl, o5, b5⟩
        have d0e := (b5.cell (p := ⟨w.heap.size, 0, none⟩) (by show w.heap.size < w4.heap.size; omega)).trans d0d
        have d1e := (b5.cell (p := ⟨w.heap.size, 1, none⟩) (by show w.heap.size < w4.heap.size; omega)).trans d1d
        have r0e := (b5.cell (p := ⟨w.heap.size + 1, 0, none⟩) (by show w.heap.size + 1 < w4.heap.size; omega)).trans r0d
        have r1e := (b5.cell (p := ⟨w.heap.size + 1, 1, none⟩) (by show w.heap.size + 1 < w4.heap.size; omega)).trans r1d
        have f0e := (b5.frozen (p := ⟨w.heap.size + 1, 0, none⟩) (by show w.heap.size + 1 < w4.heap.size; omega)).trans f0d
        have f1e := (b5.frozen (p := ⟨w.heap.size + 1, 1, none⟩) (by show w.heap.size + 1 < w4.heap.size; omega)).trans f1d
        have hzw5 := b5.size
        have HO5 := hid o5
        have HY5 := hid (HY4.out.chg (Chg.ofBelow (lo := 0) b5) (.inr (Nat.zero_le _)))
        have HBw5 := hid (HBw4.out.trans (b5.mono (by omega)))
        clear b5 o5 d0d d1d r0d r1d f0d f1d HBw4 HY4 HCn
        go_wp2_with fail
        refine (HSum.out w5 _ HY5.out).mono ?_
        rintro e w6 ⟨rfl, hw6⟩
        obtain rfl := hw6
        obtain ⟨a5, c5, hv5⟩ := br.own_val HO5.out
        subst hv5
        have hc5 := own_caps HO5.out
        have HRw := hid (fr.reduced (dW xs ss) (.slice a5 (dW xs ss).length c5) w5.heap.size w5 HO5.out.ints (Nat.le_refl _) ⟨a5, c5, rfl, hc5.1, hc5.2⟩ (by have := HCl.out.1; omega) HSmall.out)
        clear hc5
        go_wp2_with fail
        refine HRw.out.mono ?_
        rintro e w7 ⟨v7, rfl, o7, b7⟩
        have d0g := (b7.cell (p := ⟨w.heap.size, 0, none⟩) (by show w.heap.size < w5.heap.size; omega)).trans d0e
        have d1g := (b7.cell (p := ⟨w.heap.size, 1, none⟩) (by show w.heap.size < w5.heap.size; omega)).trans d1e
        have r0g := (b7.cell (p := ⟨w.heap.size + 1, 0, none⟩) (by show w.heap.size + 1 < w5.heap.size; omega)).trans r0e
        have r1g := (b7.cell (p := ⟨w.heap.size + 1, 1, none⟩) (by show w.heap.size + 1 < w5.heap.size; omega)).trans r1e
        have f0g := (b7.frozen (p := ⟨w.heap.size + 1, 0, none⟩) (by show w.heap.size + 1 < w5.heap.size; omega)).trans f0e
        have f1g := (b7.frozen (p := ⟨w.heap.size + 1, 1, none⟩) (by show w.heap.size + 1 < w5.heap.size; omega)).trans f1e
        have hzw7 := b7.size
        obtain ⟨a7, c7, hv7⟩ := br.own_val o7
        have HO7 := hid o7
        have HBw7 := hid (HBw5.out.trans (b7.mono (by omega)))
        subst hv7
        have hR : redL (dW xs ss) = cR xs ss := rfl
        rw [hR] at HO7
        rw [hR]
        have bA := (Below.refl w7.heap.size w7).alloc (Nat.le_refl _) (.cells #[.slice a7 (cR xs ss).length c7] 30)
        have hWd : Wds (w7.alloc (.cells #[.slice a7 (cR xs ss).length c7] 30)) w7.heap.size w7.heap.size [cR xs ss] := wds_one _ _ _ a7 c7 _ (World.cell?_alloc_at _ _ _ _ rfl) (ints_al HO7.out.ints _) (nilok_own HO7.out)
        have HJn := hid (implJoined (sumL ss) [cR xs ss] w7.heap.size 1 w7.heap.size _ hWd (by simp) (by simp) (by simp) (by have := HCl.out.2; simp; omega))
        have d0h := (bA.cell (p := ⟨w.heap.size, 0, none⟩) (by show w.heap.size < w7.heap.size; omega)).trans d0g
        have d1h := (bA.cell (p := ⟨w.heap.size, 1, none⟩) (by show w.heap.size < w7.heap.size; omega)).trans d1g
        have r0h := (bA.cell (p := ⟨w.heap.size + 1, 0, none⟩) (by show w.heap.size + 1 < w7.heap.size; omega)).trans r0g
        have r1h := (bA.cell (p := ⟨w.heap.size + 1, 1, none⟩) (by show w.heap.size + 1 < w7.heap.size; omega)).trans r1g
        have f0h := (bA.frozen (p := ⟨w.heap.size + 1, 0, none⟩) (by show w.heap.size + 1 < w7.heap.size; omega)).trans f0g
        have f1h := (bA.frozen (p := ⟨w.heap.size + 1, 1, none⟩) (by show w.heap.size + 1 < w7.heap.size; omega)).trans f1g
        have hzwA := bA.size
        have HBwA := hid (HBw7.out.alloc (by omega) (.cells #[.slice a7 (cR xs ss).length c7] 30))
        have hsA : (w7.alloc (.cells #[.slice a7 (cR xs ss).length c7] 30)).heap.size = w7.heap.size + 1 := by simp
        clear b7 o7 hR bA hWd d0e d1e r0e r1e f0e f1e d0g d1g r0g r1g f0g f1g HBw5 HY5 HO5 HO7 HBw7 hzwA
        go_wp2_with fail
        generalize w7.alloc (.cells #[.slice a7 (cR xs ss).length c7] 30) = wA at *
        refine HJn.out.mono ?_
        rintro e w8 ⟨a8, c8, rfl, o8, b8⟩
        have d0k := (b8.cell (p := ⟨w.heap.size, 0, none⟩) (by show w.heap.size < wA.heap.size; omega)).trans d0h
        have d1k := (b8.cell (p := ⟨w.heap.size, 1, none⟩) (by show w.heap.size < wA.heap.size; omega)).trans d1h
        have r0k := (b8.cell (p := ⟨w.heap.size + 1, 0, none⟩) (by show w.heap.size + 1 < wA.heap.size; omega)).trans r0h
        have r1k := (b8.cell (p := ⟨w.heap.size + 1, 1, none⟩) (by show w.heap.size + 1 < wA.heap.size; omega)).trans r1h
        have f0k := (b8.frozen (p := ⟨w.heap.size + 1, 0, none⟩) (by show w.heap.size + 1 < wA.heap.size; omega)).trans f0h
        have f1k := (b8.frozen (p := ⟨w.heap.size + 1, 1, none⟩) (by show w.heap.size + 1 < wA.heap.size; omega)).trans f1h
        have hzw8 := b8.size
        have HO8 := hid o8
        have HBw8 := hid (HBwA.out.trans (b8.mono (by omega)))
        clear b8 o8 d0h d1h r0h r1h f0h f1h HBwA HJn
        go_wp2
        refine bodyPost_ret (v := .tuple #[.agg #[.int .i64 (joinS (sumL ss) [cR xs ss]), .slice a8 (joinW (sumL ss) [cR xs ss]).length c8], .int .i64 (joinC (sumL ss) [cR xs ss])]) (by simp [results, Try.results31, go_sem, r0k, r1k]) rfl ⟨a8, c8, by rw [HW.out.1, HW.out.2.1, HW.out.2.2], ?_, ?_⟩
        · rw [HW.out.2.1]
          have h := own_other (own_other HO8.out (w.heap.size + 1) 0 (.int .i64 (joinS (sumL ss) [cR xs ss])) (by omega)) (w.heap.size + 1) 1 (.slice a8 (joinW (sumL ss) [cR xs ss]).length c8) (by omega)
          have h2 := h.lo (lo' := w.heap.size) (by omega)
          simpa using h2
        · exact (HBw8.out.setCell (p := (⟨w.heap.size + 1, 0, none⟩ : Addr)) (by show w.heap.size ≤ w.heap.size + 1; omega) _).setCell (p := (⟨w.heap.size + 1, 1, none⟩ : Addr)) (by show w.heap.size ≤ w.heap.size + 1; omega) _
    · have HW := hid (cb_bad (s := s) (xs := xs) (ss := ss) (by unfold cbP; rw [h, decide_eq_false hs]; rfl))
      have hne : ((ss.length : Int) == s) = false := by simpa using hs
      clear h hs
      go_enter Try.func31, Try.ntmps31
      go_wp2_with fail
      refine HV.out.mono ?_
      rintro e w1 ⟨rfl, b1⟩
      have HB1 := hid (box2 b1)
      have d0 := HB1.out.1 0
      have d1 := HB1.out.1 1
      have r0 := (HB1.out.2.1 0).1
      have r1 := (HB1.out.2.1 1).1
      have f0 := (HB1.out.2.1 0).2
      have f1 := (HB1.out.2.1 1).2
      have hz := HB1.out.2.2.2
      simp at d0 d1 r0 r1
      have HX1 := hid (HX.out.chg (Chg.ofBelow (lo := 0) HB1.out.2.2.1) (.inr (Nat.zero_le _)))
      have HY1 := hid (HY.out.chg (Chg.ofBelow (lo := 0) HB1.out.2.2.1) (.inr (Nat.zero_le _)))
      have HBw := hid HB1.out.2.2.1
      clear b1 HV HX HY HB1
      go_wp2
      refine bodyPost_ret (v := .tuple #[.agg #[.int .i64 0, .slice none 0 0], .int .i64 1]) (by simp [results, Try.results31, go_sem, r0, r1]) rfl ⟨none, 0, by rw [HW.out.1, HW.out.2.1, HW.out.2.2]; rfl, by rw [HW.out.2.1]; exact sl.Own.nil _ _, ?_⟩
      exact (HBw.out.setCell (p := (⟨w.heap.size + 1, 0, none⟩ : Addr)) (by show w.heap.size ≤ w.heap.size + 1; omega) _).setCell (p := (⟨w.heap.size + 1, 1, none⟩ : Addr)) (by show w.heap.size ≤ w.heap.size + 1; omega) _
end Go.Proofs.Ytedajefapddekaa.cb
