/-
  DoubleBraid of the model.
-/
import Derived.Test.YtlhpipcmebmpdaaDb5
namespace Go.Proofs.Ytlhpipcmebmpdaa.db
open Go.RowKit Go.Proofs.Ytlhpipcmebmpdaa.sl Go.Proofs.Ytlhpipcmebmpdaa.pm Go.Proofs.Ytlhpipcmebmpdaa.fn Go.Proofs.Ytlhpipcmebmpdaa.br Go.Proofs.Ytlhpipcmebmpdaa.bw Go.Proofs.Ytlhpipcmebmpdaa.wk
set_option linter.unusedVariables false

theorem ok_join (ss xs : List Int) (hsm : Sm ss) (hl : ss.length ≤ 12) (hok : ∀ j, j < xs.length → xs.getD j 0 ≠ 0 ∧ 1 - (ss.length : Int) ≤ xs.getD j 0 ∧ xs.getD j 0 ≤ (ss.length : Int) - 1) : okB (sumL ss) (dbW ss xs xs.length) = joinOk (sumL ss) (rowsL ss xs xs.length) := by
  have h0 := (sm_sum ss hsm ss.length (by omega)).1
  rw [List.take_length] at h0
  have hall : (dbW ss xs xs.length).all (letB (sumL ss)) = true := by
    rw [List.all_eq_true]
    intro y hy
    simpa [letB] using dbW_let ss xs hsm hl hok y hy
  unfold okB joinOk
  rw [hall, rows_flat, Bool.and_true]
  congr 1
  simp [h0]
theorem dbWo_len (s : Int) (xs ss : List Int) : (dbWo s xs ss).length ≤ 20000 := by
  unfold dbWo joinW
  split
  · split
    · simp
    · split
      · rename_i h
        simp only [joinOk, Bool.and_eq_true, decide_eq_true_eq] at h
        omega
      · simp
  · simp

set_option maxRecDepth 100000 in
set_option maxHeartbeats 4000000 in
theorem specDouble (s : Int) (xs ss : List Int) (v u : Value) (B C : Nat) (w : World) (ha : Ints w B v xs) (hB : B ≤ w.heap.size) (hb : Ints w C u ss) (hC : C ≤ w.heap.size) (nu : NilOk u) (hn : xs.length ≤ 1099511627776) (hm : ss.length ≤ 1099511627776) :
    Calls Try.prog 14 #[.agg #[.int .i64 s, v], u] w fun e w' => ∃ ao cap, e = .returned (.tuple #[.agg #[.int .i64 (dbSt s xs ss), .slice ao (dbWo s xs ss).length cap], .int .i64 (dbCo s xs ss)]) ∧ sl.Own w' w.heap.size w'.heap.size (.slice ao (dbWo s xs ss).length cap) (dbWo s xs ss) ∧ Below w.heap.size w w' := by
  obtain ⟨ao, cap, hv⟩ := ints_val ha
  obtain ⟨bo, dap, hu⟩ := ints_val hb
  subst hv
  subst hu
  have HX := hid ha
  have HY := hid hb
  have HNu := hid nu
  clear ha hb nu
  have HB0 := hid (box2 (Below.refl _ ((w.alloc (.cells #[.int .i64 s, .slice ao xs.length cap] 26)).alloc (.cells #[.int .i64 0, .slice none 0 0] 26))))
  have HV := hid (specOkP s xs (.slice ao xs.length cap) B w.heap.size ((w.alloc (.cells #[.int .i64 s, .slice ao xs.length cap] 26)).alloc (.cells #[.int .i64 0, .slice none 0 0] 26)) (ints_al (ints_al HX.out _) _) hn (by rw [HB0.out.1 0]; rfl) (by rw [HB0.out.1 1]; rfl))
  obtain ⟨q0, hq0⟩ : ∃ q, q = okB s xs := ⟨_, rfl⟩
  obtain ⟨q1, hq1⟩ : ∃ q, q = ss.any badB := ⟨_, rfl⟩
  obtain ⟨zS, hzS⟩ : ∃ z, z = dbSt s xs ss := ⟨_, rfl⟩
  obtain ⟨zC, hzC⟩ : ∃ z, z = dbCo s xs ss := ⟨_, rfl⟩
  obtain ⟨zW, hzW⟩ : ∃ z, z = dbWo s xs ss := ⟨_, rfl⟩
  rw [← hzS, ← hzC, ← hzW]
  unfold dbSt dbP at hzS
  unfold dbCo dbP at hzC
  unfold dbWo dbP at hzW
  rw [← hq0, ← hq1] at hzS hzC hzW
  rw [← hq0] at HV
  have HS := hid hzS
  have HC := hid hzC
  have HW := hid hzW
  have H0 := hid hq0
  have H1 := hid hq1
  obtain ⟨n, hnn⟩ : ∃ n, n = xs.length := ⟨_, rfl⟩
  obtain ⟨m, hmm⟩ : ∃ m, m = ss.length := ⟨_, rfl⟩
  have HN := hid hnn
  have HM := hid hmm
  rw [← hnn] at HX HV hn HB0 ⊢
  rw [← hmm] at HY HNu hm ⊢
  clear hzS hzC hzW hq0 hq1 hnn hmm
  go_enter Try.func14, Try.ntmps14
  go_wp2_with fail
  refine HV.out.mono ?_
  rintro e w1 ⟨rfl, q, rfl⟩
  have HB1 := hid (box2 (bdrewN (Below.refl _ ((w.alloc (.cells #[.int .i64 s, .slice ao n cap] 26)).alloc (.cells #[.int .i64 0, .slice none 0 0] 26))) q))
  clear HB0 HV
  generalize ((w.alloc (.cells #[.int .i64 s, .slice ao n cap] 26)).alloc (.cells #[.int .i64 0, .slice none 0 0] 26)).drewN q = w1 at *
  have d0 := HB1.out.1 0
  have d1 := HB1.out.1 1
  have r0 := (HB1.out.2.1 0).1
  have r1 := (HB1.out.2.1 1).1
  have f0 := (HB1.out.2.1 0).2
  have f1 := (HB1.out.2.1 1).2
  have hz := HB1.out.2.2.2
  simp at d0 d1 r0 r1
  have HBw := hid HB1.out.2.2.1
  clear HB1
  cases q0 with
  | false =>
    obtain rfl : zS = 0 := by rw [HS.out]; simp
    obtain rfl : zC = 1 := by rw [HC.out]; simp
    obtain rfl : zW = [] := by rw [HW.out]; simp
    go_wp2
    refine bodyPost_ret (v := .tuple #[.agg #[.int .i64 0, .slice none 0 0], .int .i64 1]) (by simp [results, Try.results14, go_sem, r0, r1]) rfl ⟨none, 0, rfl, Own.nil _ _, ?_⟩
    exact (HBw.out.setCell (p := ⟨w.heap.size + 1, 0, none⟩) (Nat.le_succ _) _).setCell (p := ⟨w.heap.size + 1, 1, none⟩) (Nat.le_succ _) _
  | true =>
    obtain ⟨hs0, hs1, hx1, hx2⟩ := ok_parts H0.out.symm
    by_cases hms : (m : Int) = s
    · have hmd : decide ((m : Int) = s) = true := decide_eq_true hms
      have hmb : ((m : Int) == s) = true := by simp [hms]
      have hPd : decide ((ss.length : Int) = s) = true := by rw [← HM.out]; exact hmd
      have HI1 := hid (HY.out.chg (Chg.ofBelow (lo := 0) HBw.out) (.inr (Nat.zero_le _)))
      have HX1 := hid (HX.out.chg (Chg.ofBelow (lo := 0) HBw.out) (.inr (Nat.zero_le _)))
      have HSt := hid (fun k (hk : k < ss.length) => sum_take ss k hk)
      have HIn := hid (fun (y : Int) W => pm.specIn y 0 4 W)
      have HX2 := hid hx2
      clear hx2
      go_wp2
      go_loopw [6, 7] (fun nv i wv => ∃ k : Nat, k ≤ m ∧ nv = .int .i64 (sumL (ss.take k)) ∧ i = .int .i64 (k : Int) ∧ wv = w1 ∧ (0 ≤ sumL (ss.take k) ∧ sumL (ss.take k) ≤ 4 * (k : Int)) ∧ Hid (∀ j, j < k → badB (ss.getD j 0) = false)) (fun _ i _ => m - (intOf i).toNat)
      case atStart => exact ⟨0, Nat.zero_le _, rfl, rfl, rfl, by simp [sumL], hid (fun j hj => by omega)⟩
      case round =>
        obtain ⟨k, hk, rfl, rfl, hwv, hsum, HGd⟩ := hrel
        subst hwv
        by_cases hlt : k < m
        · rcases HI1.out with ⟨hnil, _⟩ | ⟨hp, b, off, cap2, hv, hb, hc⟩
          · exfalso
            have := HM.out
            rw [hnil] at this
            simp at this
            omega
          · simp only [Value.slice.injEq] at hv
            obtain ⟨rfl, hnw, rfl⟩ := hv
            have hcx := hc k (by rw [← HM.out]; exact hlt)
            have HE := hid (HSt.out k (by rw [← HM.out]; exact hlt))
            have HBd : Hid (badB (ss.getD k 0) = !decide (0 ≤ ss.getD k 0 ∧ ss.getD k 0 ≤ 4)) := hid rfl
            have HAny : Hid (badB (ss.getD k 0) = true → ss.any badB = true) := hid (fun h => by
              rw [List.any_eq_true]
              exact ⟨ss.getD k 0, by simp [List.getD, List.getElem?_eq_getElem (show k < ss.length by rw [← HM.out]; exact hlt)], h⟩)
            have HGd2 : Hid (badB (ss.getD k 0) = false → ∀ j, j < k + 1 → badB (ss.getD j 0) = false) := hid (fun h j hj => by
              by_cases e : j = k
              · rw [e]; exact h
              · exact HGd.out j (by omega))
            clear hc hp hb hnw
            generalize ss.getD k 0 = y at *
            generalize sumL (ss.take k) = sk at *
            by_cases hy : 0 ≤ y ∧ y ≤ 4
            · have hyd : decide (0 ≤ y ∧ y ≤ 4) = true := decide_eq_true hy
              have HIy := hid (HIn.out y)
              rw [hyd] at HIy HBd
              have hwy : IntKind.i64.wrap (sk + y) = sk + y := IntWalk.i64_in _ (by omega)
              go_wp2_with (go_at_call 56; refine (HIy.out _).mono ?_; rintro e w9 ⟨rfl, rfl⟩)
              go_roundw
              case rel => exact ⟨k + 1, by omega, by rw [HE.out], by go_num, trivial, by rw [HE.out]; omega, hid (HGd2.out HBd.out)⟩
              case measure => simp [intOf]; omega
            · have hyd : decide (0 ≤ y ∧ y ≤ 4) = false := decide_eq_false hy
              have HIy := hid (HIn.out y)
              rw [hyd] at HIy HBd
              have hq1 : q1 = true := by rw [H1.out]; exact HAny.out HBd.out
              subst hq1
              obtain rfl : zS = 0 := by rw [HS.out, hPd]; simp
              obtain rfl : zC = 2 := by rw [HC.out, hPd]; simp
              obtain rfl : zW = [] := by rw [HW.out, hPd]; simp
              go_wp2_with (go_at_call 56; refine (HIy.out _).mono ?_; rintro e w9 ⟨rfl, rfl⟩)
              refine bodyPost_ret (v := .tuple #[.agg #[.int .i64 0, .slice none 0 0], .int .i64 2]) (by simp [results, Try.results14, go_sem, r0, r1]) rfl ⟨none, 0, rfl, Own.nil _ _, ?_⟩
              exact (HBw.out.setCell (p := ⟨w.heap.size + 1, 0, none⟩) (Nat.le_succ _) _).setCell (p := ⟨w.heap.size + 1, 1, none⟩) (Nat.le_succ _) _
        · obtain rfl : k = m := by omega
          have hq1 : q1 = false := by
            rw [H1.out, List.any_eq_false]
            intro x hx
            obtain ⟨j, hj, rfl⟩ := List.getElem_of_mem hx
            have := HGd.out j (by rw [HM.out]; exact hj)
            simpa [List.getD, List.getElem?_eq_getElem hj] using this
          subst hq1
          have hsm := sm_of H1.out.symm
          obtain ⟨sk, hsk⟩ : ∃ z, z = sumL (ss.take k) := ⟨_, rfl⟩
          have hss : sk = sumL ss := by rw [hsk, HM.out, List.take_length]
          rw [← hsk] at hsum ⊢
          have hok : ∀ j, j < xs.length → xs.getD j 0 ≠ 0 ∧ 1 - (ss.length : Int) ≤ xs.getD j 0 ∧ xs.getD j 0 ≤ (ss.length : Int) - 1 := fun j hj => by rw [← HM.out, hms]; exact HX2.out j hj
          have hk12 : ss.length ≤ 12 := by rw [← HM.out]; omega
          have HWd := hid (specWords xs ss (.slice ao n cap) (.slice bo k dap) B C wr HX1.out HI1.out (by omega) (by omega) HNu.out hok hx1 hk12 hsm)
          have hjo := ok_join ss xs hsm hk12 hok
          obtain ⟨jo, hjo2⟩ : ∃ z, z = joinOk (sumL ss) (rowsL ss xs xs.length) := ⟨_, rfl⟩
          have eS : zS = if jo = true then sk else 0 := by rw [HS.out, hPd, hss, hjo2]; simp [joinS]
          have eC : zC = if jo = true then 0 else 5 := by rw [HC.out, hPd, hjo2]; simp [joinC]
          have eW : zW = if jo = true then dbW ss xs xs.length else [] := by rw [HW.out, hPd, hjo2]; simp [joinW, rows_flat]
          rw [← hjo2, ← hss] at hjo
          have HJo := hid hjo
          have hl1 := dbW_len ss xs hsm xs.length (Nat.le_refl _)
          clear hsk hss hok hk12 hjo hjo2 hsm HS HC HW HX1 HI1 HGd HX2 HSt HIn
          obtain ⟨D, hD⟩ : ∃ D, D = dbW ss xs xs.length := ⟨_, rfl⟩
          rw [← hD] at HWd HJo eW hl1
          clear hD
          go_wp2_with fail
          refine HWd.out.mono ?_
          rintro e w3 ⟨v3, rfl, o3, b3⟩
          obtain ⟨ao3, cap3, hv3⟩ := br.own_val o3
          subst hv3
          have HO3 := hid o3
          have hz3 := b3.size
          have bA : Below w3.heap.size w3 (w3.alloc (.cells #[.int .i64 sk, .slice ao3 D.length cap3] 26)) := (Below.refl _ _).alloc (Nat.le_refl _) _
          have HOk := hid (specOkP sk D (.slice ao3 D.length cap3) w3.heap.size w3.heap.size (w3.alloc (.cells #[.int .i64 sk, .slice ao3 D.length cap3] 26)) (ints_al (o3.ints.mono o3.2.2) _) (by omega) (World.cell?_alloc_at _ _ _ _ rfl) (World.cell?_alloc_at _ _ _ _ rfl))
          rw [HJo.out] at HOk
          have bB := b3.trans (bA.mono hz3)
          have s0 := (bB.cell (p := ⟨w.heap.size + 1, 0, none⟩) (by show w.heap.size + 1 < _; omega)).trans r0
          have s1 := (bB.cell (p := ⟨w.heap.size + 1, 1, none⟩) (by show w.heap.size + 1 < _; omega)).trans r1
          have g0 := (bB.frozen (p := ⟨w.heap.size + 1, 0, none⟩) (by show w.heap.size + 1 < _; omega)).trans f0
          have g1 := (bB.frozen (p := ⟨w.heap.size + 1, 1, none⟩) (by show w.heap.size + 1 < _; omega)).trans f1
          have HB4 := hid (HBw.out.trans (bB.mono (by omega)))
          have HO4 := hid (o3.chg (Chg.ofBelow (lo := 0) bA) (.inr (.inr (Nat.zero_le _))))
          clear o3 b3 bA bB
          go_wp2_with fail
          refine HOk.out.mono ?_
          rintro e w4 ⟨rfl, q4, rfl⟩
          have k0 : ((w3.alloc (.cells #[.int .i64 sk, .slice ao3 D.length cap3] 26)).drewN q4).cell? ⟨w3.heap.size, 0, none⟩ = some (.int .i64 sk) := World.cell?_alloc_at _ _ _ _ rfl
          have k1 : ((w3.alloc (.cells #[.int .i64 sk, .slice ao3 D.length cap3] 26)).drewN q4).cell? ⟨w3.heap.size, 1, none⟩ = some (.slice ao3 D.length cap3) := World.cell?_alloc_at _ _ _ _ rfl
          have u0 : ((w3.alloc (.cells #[.int .i64 sk, .slice ao3 D.length cap3] 26)).drewN q4).cell? ⟨w.heap.size + 1, 0, none⟩ = some (.int .i64 0) := s0
          have u1 : ((w3.alloc (.cells #[.int .i64 sk, .slice ao3 D.length cap3] 26)).drewN q4).cell? ⟨w.heap.size + 1, 1, none⟩ = some (.slice none 0 0) := s1
          have x0 : ((w3.alloc (.cells #[.int .i64 sk, .slice ao3 D.length cap3] 26)).drewN q4).frozen? ⟨w.heap.size + 1, 0, none⟩ = false := g0
          have x1 : ((w3.alloc (.cells #[.int .i64 sk, .slice ao3 D.length cap3] 26)).drewN q4).frozen? ⟨w.heap.size + 1, 1, none⟩ = false := g1
          have HO5 := hid (HO4.out.drewN q4)
          have HB5 := hid (bdrewN HB4.out q4)
          have hz5 : w3.heap.size + 1 ≤ ((w3.alloc (.cells #[.int .i64 sk, .slice ao3 D.length cap3] 26)).drewN q4).heap.size := by show w3.heap.size + 1 ≤ (w3.alloc _).heap.size; simp
          clear s0 s1 g0 g1 HO4 HB4 HO3 HOk HJo
          generalize (w3.alloc (.cells #[.int .i64 sk, .slice ao3 D.length cap3] 26)).drewN q4 = w5 at *
          cases jo with
          | true =>
            obtain rfl : zS = sk := eS
            obtain rfl : zC = 0 := eC
            obtain rfl : zW = D := eW
            go_wp2
            refine bodyPost_ret (v := .tuple #[.agg #[.int .i64 zS, .slice ao3 zW.length cap3], .int .i64 0]) (by simp [results, Try.results14, go_sem, u0, u1]) rfl ⟨ao3, cap3, rfl, ?_, ?_⟩
            · have h := own_other (own_other (HO5.out.hi (hi' := w5.heap.size) (by omega) (Nat.le_refl _)) (w.heap.size + 1) 0 (.int .i64 zS) (by omega)) (w.heap.size + 1) 1 (.slice ao3 zW.length cap3) (by omega)
              have h2 := h.lo (lo' := w.heap.size) (by omega)
              simpa using h2
            · exact (HB5.out.setCell (p := ⟨w.heap.size + 1, 0, none⟩) (Nat.le_succ _) _).setCell (p := ⟨w.heap.size + 1, 1, none⟩) (Nat.le_succ _) _
          | false =>
            obtain rfl : zS = 0 := eS
            obtain rfl : zC = 5 := eC
            obtain rfl : zW = [] := eW
            go_wp2
            refine bodyPost_ret (v := .tuple #[.agg #[.int .i64 0, .slice none 0 0], .int .i64 5]) (by simp [results, Try.results14, go_sem, u0, u1]) rfl ⟨none, 0, rfl, Own.nil _ _, ?_⟩
            exact (HB5.out.setCell (p := ⟨w.heap.size + 1, 0, none⟩) (Nat.le_succ _) _).setCell (p := ⟨w.heap.size + 1, 1, none⟩) (Nat.le_succ _) _
    · have hmd : decide ((m : Int) = s) = false := decide_eq_false hms
      have hmb : ((m : Int) == s) = false := by simp [hms]
      have hPd : decide ((ss.length : Int) = s) = false := by rw [← HM.out]; exact hmd
      obtain rfl : zS = 0 := by rw [HS.out, hPd]; simp
      obtain rfl : zC = 1 := by rw [HC.out, hPd]; simp
      obtain rfl : zW = [] := by rw [HW.out, hPd]; simp
      go_wp2
      refine bodyPost_ret (v := .tuple #[.agg #[.int .i64 0, .slice none 0 0], .int .i64 1]) (by simp [results, Try.results14, go_sem, r0, r1]) rfl ⟨none, 0, rfl, Own.nil _ _, ?_⟩
      exact (HBw.out.setCell (p := ⟨w.heap.size + 1, 0, none⟩) (Nat.le_succ _) _).setCell (p := ⟨w.heap.size + 1, 1, none⟩) (Nat.le_succ _) _
theorem specDoubleP (s : Int) (xs ss : List Int) (v u : Value) (B C : Nat) (w : World) (ha : Ints w B v xs) (hB : B ≤ w.heap.size) (hb : Ints w C u ss) (hC : C ≤ w.heap.size) (hn : xs.length ≤ 1099511627776) (hm : ss.length ≤ 1099511627776) (nv : NilOk v) (nu : NilOk u) :
    Calls Try.prog 14 #[.agg #[.int .i64 s, v], u] w fun e w' => ∃ ao cap, e = .returned (.tuple #[.agg #[.int .i64 (dbSt s xs ss), .slice ao (dbWo s xs ss).length cap], .int .i64 (dbCo s xs ss)]) ∧ sl.Own w' w.heap.size w'.heap.size (.slice ao (dbWo s xs ss).length cap) (dbWo s xs ss) ∧ Below w.heap.size w w' :=
  specDouble s xs ss v u B C w ha hB hb hC nu hn hm
theorem implDoubleP (s : Int) (xs ss : List Int) (v u : Value) (B C : Nat) (w : World) (ha : Ints w B v xs) (hB : B ≤ w.heap.size) (hb : Ints w C u ss) (hC : C ≤ w.heap.size) (hn : xs.length ≤ 1099511627776) (hm : ss.length ≤ 1099511627776) (nv : NilOk v) (nu : NilOk u) :
    Calls Try.prog 17 #[.agg #[.int .i64 s, v], u] w fun e w' => ∃ ao cap, e = .returned (.tuple #[.agg #[.int .i64 (dbSt s xs ss), .slice ao (dbWo s xs ss).length cap], .int .i64 (dbCo s xs ss)]) ∧ sl.Own w' w.heap.size w'.heap.size (.slice ao (dbWo s xs ss).length cap) (dbWo s xs ss) ∧ Below w.heap.size w w' :=
  implDouble s xs ss v u B C w ha hB hb hC nu hn hm
end Go.Proofs.Ytlhpipcmebmpdaa.db
