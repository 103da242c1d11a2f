/-
  The model's test of a description.
-/
import Derived.Test.YtlhpipcmebmpdabVm6
namespace Go.Proofs.Ytlhpipcmebmpdab.mc
open Go.RowKit Go.Sort Go.Proofs.Ytlhpipcmebmpdab.sl Go.Proofs.Ytlhpipcmebmpdab.br Go.Proofs.Ytlhpipcmebmpdab.fn Go.Proofs.Ytlhpipcmebmpdab.ss
set_option linter.unusedVariables false
set_option linter.unusedSimpArgs false

set_option maxRecDepth 100000 in
theorem specInfo0 (x0 x1 x2 x3 x4 : Int) (ps : List Int) (f : Value) (B p o : Nat) (W0 : Int) (bf : Nat) (w : World) (H : nf.At w p o ⟨x0, x1, x2, x3, x4, ps⟩ f) (ha : Ints w B f ps) (hcap : vr.CapOk f) (hn : ps.length ≤ 1048576) (hw : 1 ≤ W0 ∧ W0 ≤ 24) (hbf : bf ≤ 300) (h1 : ¬ x0 = 1) (h2 : ¬ x0 = 2) (h5 : ¬ x0 = 5) :
    Calls Try.prog 70 #[.pointer (some ⟨p, o, none⟩), .int .i64 W0, .int .i64 (bf : Int)] w fun e w' => e = .returned (.bool (infB W0 ⟨x0, x1, x2, x3, x4, ps⟩ && diffB (bf : Int) ps)) ∧ ∃ q, w' = w.drewN q := by
  have HF : Hid (infB W0 ⟨x0, x1, x2, x3, x4, ps⟩ = false) := hid (by simp [infB, kindB, h1, h2, h5])
  rw [HF.out, Bool.false_and]
  have b1 : (x0 == 1) = false := by simpa using h1
  have d1 : (x0 != 1) = true := by simpa using h1
  have b2 : (x0 == 2) = false := by simpa using h2
  have d2 : (x0 != 2) = true := by simpa using h2
  have b5 : (x0 == 5) = false := by simpa using h5
  have d5 : (x0 != 5) = true := by simpa using h5
  have c0 := H.c0
  have c1 := H.c1
  have c2 := H.c2
  have c3 := H.c3
  have c4 := H.c4
  simp only at c0 c1 c2 c3 c4
  clear H ha hcap hn HF h1 h2 h5
  go_enter Try.func70, Try.ntmps70
  go_wp2
  go_ret
  exact ⟨rfl, 0, rfl⟩

set_option maxRecDepth 100000 in
set_option maxHeartbeats 2000000 in
theorem specInfo1 (x1 x2 x3 x4 : Int) (ps : List Int) (f : Value) (B p o : Nat) (W0 : Int) (bf : Nat) (w : World) (H : nf.At w p o ⟨1, x1, x2, x3, x4, ps⟩ f) (ha : Ints w B f ps) (hcap : vr.CapOk f) (hn : ps.length ≤ 1048576) (hw : 1 ≤ W0 ∧ W0 ≤ 24) (hbf : bf ≤ 300) :
    Calls Try.prog 70 #[.pointer (some ⟨p, o, none⟩), .int .i64 W0, .int .i64 (bf : Int)] w fun e w' => e = .returned (.bool (infB W0 ⟨1, x1, x2, x3, x4, ps⟩ && diffB (bf : Int) ps)) ∧ ∃ q, w' = w.drewN q := by
  obtain ⟨hw0, hw1⟩ := hw
  have hwr : IntKind.i64.wrap (W0 - 1) = W0 - 1 := IntWalk.i64_in _ (by omega)
  have hwb : IntKind.i64.wrap ((bf : Int) - 1) = (bf : Int) - 1 := IntWalk.i64_in _ (by omega)
  obtain ⟨q, hq⟩ : ∃ q, q = (infB W0 ⟨1, x1, x2, x3, x4, ps⟩ && diffB (bf : Int) ps) := ⟨_, rfl⟩
  rw [← hq]
  simp only [infB] at hq
  obtain ⟨b0, hb0⟩ : ∃ b, b = kindB 1 ps.length := ⟨_, rfl⟩
  obtain ⟨b1, hb1⟩ : ∃ b, b = vo.carB x1 := ⟨_, rfl⟩
  obtain ⟨b2, hb2⟩ : ∃ b, b = inB 1 2 x2 := ⟨_, rfl⟩
  obtain ⟨b3, hb3⟩ : ∃ b, b = inB 0 (W0 - 1) x3 := ⟨_, rfl⟩
  obtain ⟨b4, hb4⟩ : ∃ b, b = vo.dirB x4 := ⟨_, rfl⟩
  obtain ⟨dd, hdd⟩ : ∃ d, d = diffB (bf : Int) ps := ⟨_, rfl⟩
  rw [← hb0, ← hb1, ← hb2, ← hb3, ← hb4, ← hdd] at hq
  have A1 := hid (fun w1 => show Calls Try.prog 83 #[.int .i64 x1] w1 fun e w2 => e = .returned (.bool b1) ∧ w1 = w2 from by rw [hb1]; exact vo.specYarn _ w1)
  have A2 := hid (fun w1 => show Calls Try.prog 84 #[.int .i64 x2] w1 fun e w2 => e = .returned (.bool b2) ∧ w1 = w2 from by rw [hb2]; exact nd.specBed _ w1)
  have A3 := hid (fun w1 => show Calls Try.prog 62 #[.int .i64 x3, .int .i64 0, .int .i64 (W0 - 1)] w1 fun e w2 => e = .returned (.bool b3) ∧ w1 = w2 from by rw [hb3]; exact nd.specIn _ _ _ w1)
  have A4 := hid (fun w1 => show Calls Try.prog 85 #[.int .i64 x4] w1 fun e w2 => e = .returned (.bool b4) ∧ w1 = w2 from by rw [hb4]; exact vo.specDir _ w1)
  clear hb1 hb2 hb3 hb4
  have HBad1 : Hid (∀ k, k < ps.length → inB 0 ((bf : Int) - 1) (ps.getD k 0) = false → dd = false) := hid (fun k h1 h2 => by rw [hdd]; exact diff_bad1 h1 h2)
  have HBad2 : Hid (∀ k, k < ps.length → ps.getD k 0 ∈ ps.take k → dd = false) := hid (fun k h1 h2 => by rw [hdd]; exact diff_bad2 h1 h2)
  have HGood : Hid (PreD (bf : Int) ps ps.length → dd = true) := hid (fun h => by rw [hdd]; exact diff_good h)
  have HStep := hid (fun k p h1 h2 h3 => @preD_step (bf : Int) ps k p h1 h2 h3)
  have HP0 := hid (preD_zero (bf : Int) ps)
  clear hdd
  obtain ⟨ao, cap, hv⟩ := ints_val ha
  obtain ⟨n, hnn⟩ : ∃ n, n = ps.length := ⟨_, rfl⟩
  rw [← hnn] at hv hn hb0 HBad1 HBad2 HGood HStep
  subst hv
  have HCell : Hid (∀ j, j < n → ∃ b off, ao = some ⟨b, off, none⟩ ∧ b < B ∧ (∀ i, i < n → w.cell? ⟨b, off + i, none⟩ = some (.int .i64 (ps.getD i 0)))) := hid (fun j hj => by
    rcases ha with ⟨h0, _⟩ | ⟨hp, b, off, cap, hv, hb, hc⟩
    · rw [h0] at hnn; simp at hnn; omega
    · simp only [Value.slice.injEq] at hv
      exact ⟨b, off, hv.1, hb, fun i hi => hc i (by omega)⟩)
  have hcn := (hcap _ _ _ rfl).1
  have HN := hid hnn
  have c0 := H.c0
  have c1 := H.c1
  have c2 := H.c2
  have c3 := H.c3
  have c4 := H.c4
  simp only at c0 c1 c2 c3 c4
  have HC5 := hid H.c5
  have hpl := H.lt
  have HC0 := hid H.c0
  clear H ha hcap hnn
  have HQ := hid hq
  have HB0 := hid hb0
  clear hq hb0
  cases b1 with
  | false =>
    have HF : Hid (q = false) := hid (by rw [HQ.out]; simp)
    clear HQ
    go_enter Try.func70, Try.ntmps70
    go_wp2_with (first | (go_at_call 83; refine (A1.out _).mono ?_; rintro e w2 ⟨rfl, rfl⟩))
    go_ret
    exact ⟨by rw [HF.out]; rfl, 0, rfl⟩
  | true =>
    cases b2 with
    | false =>
      have HF : Hid (q = false) := hid (by rw [HQ.out]; simp)
      clear HQ
      go_enter Try.func70, Try.ntmps70
      go_wp2_with (first | (go_at_call 83; refine (A1.out _).mono ?_; rintro e w2 ⟨rfl, rfl⟩) | (go_at_call 84; refine (A2.out _).mono ?_; rintro e w2 ⟨rfl, rfl⟩))
      go_ret
      exact ⟨by rw [HF.out]; rfl, 0, rfl⟩
    | true =>
      cases b3 with
      | false =>
        have HF : Hid (q = false) := hid (by rw [HQ.out]; simp)
        clear HQ
        go_enter Try.func70, Try.ntmps70
        go_wp2_with (first | (go_at_call 83; refine (A1.out _).mono ?_; rintro e w2 ⟨rfl, rfl⟩) | (go_at_call 84; refine (A2.out _).mono ?_; rintro e w2 ⟨rfl, rfl⟩) | (go_at_call 62; refine (A3.out _).mono ?_; rintro e w2 ⟨rfl, rfl⟩))
        go_ret
        exact ⟨by rw [HF.out]; rfl, 0, rfl⟩
      | true =>
        cases b4 with
        | false =>
          have HF : Hid (q = false) := hid (by rw [HQ.out]; simp)
          clear HQ
          go_enter Try.func70, Try.ntmps70
          go_wp2_with (first | (go_at_call 83; refine (A1.out _).mono ?_; rintro e w2 ⟨rfl, rfl⟩) | (go_at_call 84; refine (A2.out _).mono ?_; rintro e w2 ⟨rfl, rfl⟩) | (go_at_call 62; refine (A3.out _).mono ?_; rintro e w2 ⟨rfl, rfl⟩) | (go_at_call 85; refine (A4.out _).mono ?_; rintro e w2 ⟨rfl, rfl⟩))
          go_ret
          exact ⟨by rw [HF.out]; rfl, 0, rfl⟩
        | true =>
          have HQ2 : Hid (q = (b0 && dd)) := hid (by rw [HQ.out]; simp)
          clear HQ
          go_enter Try.func70, Try.ntmps70
          go_wp2_with (first | (go_at_call 83; refine (A1.out _).mono ?_; rintro e w2 ⟨rfl, rfl⟩) | (go_at_call 84; refine (A2.out _).mono ?_; rintro e w2 ⟨rfl, rfl⟩) | (go_at_call 62; refine (A3.out _).mono ?_; rintro e w2 ⟨rfl, rfl⟩) | (go_at_call 85; refine (A4.out _).mono ?_; rintro e w2 ⟨rfl, rfl⟩))
          clear c0 c1 c2 c3 c4 A1 A2 A3 A4
          go_loopw [7] (fun i wr => ∃ k : Nat, k ≤ n ∧ i = .int .i64 k ∧ PreD (bf : Int) ps k ∧ ∃ q, wr = w.drewN q) (fun i _ => n - (intOf i).toNat)
          case atStart => exact ⟨0, Nat.zero_le _, rfl, HP0.out, 0, rfl⟩
          case round =>
            obtain ⟨k, hk, rfl, hpre, qd, hwr2⟩ := hrel
            have HPr := hid hpre
            have HW := hid hwr2
            have y5 : wr.cell? ⟨p, o + 5, none⟩ = some (.slice ao n cap) := by rw [HW.out]; exact HC5.out
            clear hpre hwr2
            by_cases hlt : k < n
            · obtain ⟨b, off, rfl, hbB, hcs⟩ := HCell.out k hlt
              have HCs := hid (fun i hi => show wr.cell? ⟨b, off + i, none⟩ = some (.int .i64 (ps.getD i 0)) from by rw [HW.out]; exact hcs i hi)
              have hx := HCs.out k hlt
              have H1 := hid (HBad1.out k hlt)
              have H2 := hid (HBad2.out k hlt)
              have H3 := hid (HStep.out k HPr.out hlt)
              clear hcs
              obtain ⟨t, ht⟩ : ∃ t, inB 0 ((bf : Int) - 1) (ps.getD k 0) = t := ⟨_, rfl⟩
              have HI := hid (fun W => vr.inQ (ps.getD k 0) 0 ((bf : Int) - 1) t ht W)
              cases t with
              | false =>
                have HF : Hid (q = false) := hid (by rw [HQ2.out, H1.out ht, Bool.and_false])
                clear ht HQ2
                generalize ps.getD k 0 = x at *
                go_wp2
                go_quiet ((go_at_call 62; exact Calls.quiet_of_same (HI.out _)))
                go_wp2
                go_ret
                exact ⟨by rw [HF.out]; rfl, _, by rw [HW.out]; exact drewN_add _ _ _⟩
              | true =>
                have HFr := hid (vr.ints_front (w := wr) (B := wr.heap.size) (off := off) (World.block_lt_of_cell? wr _ hx) HCs.out HN.out k cap hk)
                have hlk : (ps.take k).length ≤ 1099511627776 := by simp; omega
                have H3b := hid (H3.out ht)
                clear ht
                obtain ⟨u, hu⟩ : ∃ u, vr.hasB (ps.take k) (ps.getD k 0) = u := ⟨_, rfl⟩
                have HH := hid (fun (W : World) (hW : Ints W wr.heap.size (.slice (some ⟨b, off, none⟩) k cap) (ps.take k)) => vr.hasQ (ps.take k) (ps.getD k 0) u hu _ _ W hW hlk)
                cases u with
                | true =>
                  have HF : Hid (q = false) := hid (by rw [HQ2.out, H2.out ((vr.has_mem _ _).1 hu), Bool.and_false])
                  clear hu HQ2
                  generalize ps.getD k 0 = x at *
                  go_wp2
                  go_quiet ((first | (go_at_call 62; exact Calls.quiet_of_same (HI.out _)) | (go_at_call 43; exact Calls.quiet_of_same (HH.out _ HFr.out))))
                  go_wp2
                  go_ret
                  exact ⟨by rw [HF.out]; rfl, _, by rw [HW.out]; exact drewN_add _ _ _⟩
                | false =>
                  have HPn := hid (H3b.out ((vr.has_not _ _).1 hu))
                  clear hu
                  generalize ps.getD k 0 = x at *
                  go_wp2
                  go_quiet ((first | (go_at_call 62; exact Calls.quiet_of_same (HI.out _)) | (go_at_call 43; exact Calls.quiet_of_same (HH.out _ HFr.out))))
                  go_wp2
                  go_roundw
                  case rel => exact ⟨k + 1, by omega, by go_num, HPn.out, _, by rw [HW.out]; exact drewN_add _ _ _⟩
                  case measure => simp [intOf]; omega
            · obtain rfl : k = n := by omega
              have HD : Hid (dd = true) := hid (HGood.out HPr.out)
              have y0 : wr.cell? ⟨p, o, none⟩ = some (.int .i64 1) := by rw [HW.out]; exact HC0.out
              by_cases h4 : (k : Int) ≤ 4
              · have hd4 : decide ((k : Int) ≤ 4) = true := decide_eq_true h4
                have hd4n : decide (k ≤ 4) = true := decide_eq_true (by omega)
                by_cases h0 : k = 0
                · have HF : Hid (q = true) := hid (by rw [HQ2.out, HD.out, HB0.out, h0]; rfl)
                  subst h0
                  clear HQ2 HB0 hd4 hd4n h4
                  go_wp2
                  go_ret
                  exact ⟨by rw [HF.out]; rfl, qd, HW.out⟩
                · have HF : Hid (q = true) := hid (by rw [HQ2.out, HD.out, HB0.out]; simp [kindB, inB]; omega)
                  have hz1 : ((k : Int) == 0) = false := by simpa using h0
                  have hz2 : (k == 0) = false := by simpa using h0
                  have hg1 : decide ((0 : Int) < (k : Int)) = true := decide_eq_true (by omega)
                  have hg2 : decide (0 < k) = true := decide_eq_true (by omega)
                  have hg3 : 0 < k := by omega
                  clear HQ2 HB0 h4
                  go_wp2
                  go_ret
                  exact ⟨by rw [HF.out]; first | rfl | simp, qd, HW.out⟩
              · have hd4 : decide ((k : Int) ≤ 4) = false := decide_eq_false h4
                have hd4n : decide (k ≤ 4) = false := decide_eq_false (by omega)
                have HF : Hid (q = false) := hid (by rw [HQ2.out, HB0.out]; simp [kindB, inB]; omega)
                clear HQ2 HB0 h4
                go_wp2
                go_ret
                exact ⟨by rw [HF.out]; rfl, qd, HW.out⟩

set_option maxRecDepth 100000 in
set_option maxHeartbeats 2000000 in
theorem specInfo2 (x1 x2 x3 x4 : Int) (ps : List Int) (f : Value) (B p o : Nat) (W0 : Int) (bf : Nat) (w : World) (H : nf.At w p o ⟨2, x1, x2, x3, x4, ps⟩ f) (ha : Ints w B f ps) (hcap : vr.CapOk f) (hn : ps.length ≤ 1048576) (hw : 1 ≤ W0 ∧ W0 ≤ 24) (hbf : bf ≤ 300) :
    Calls Try.prog 70 #[.pointer (some ⟨p, o, none⟩), .int .i64 W0, .int .i64 (bf : Int)] w fun e w' => e = .returned (.bool (infB W0 ⟨2, x1, x2, x3, x4, ps⟩ && diffB (bf : Int) ps)) ∧ ∃ q, w' = w.drewN q := by
  obtain ⟨hw0, hw1⟩ := hw
  have hwr : IntKind.i64.wrap (W0 - 1) = W0 - 1 := IntWalk.i64_in _ (by omega)
  have hwb : IntKind.i64.wrap ((bf : Int) - 1) = (bf : Int) - 1 := IntWalk.i64_in _ (by omega)
  obtain ⟨q, hq⟩ : ∃ q, q = (infB W0 ⟨2, x1, x2, x3, x4, ps⟩ && diffB (bf : Int) ps) := ⟨_, rfl⟩
  rw [← hq]
  simp only [infB] at hq
  obtain ⟨b0, hb0⟩ : ∃ b, b = kindB 2 ps.length := ⟨_, rfl⟩
  obtain ⟨b1, hb1⟩ : ∃ b, b = vo.carB x1 := ⟨_, rfl⟩
  obtain ⟨b2, hb2⟩ : ∃ b, b = inB 1 2 x2 := ⟨_, rfl⟩
  obtain ⟨b3, hb3⟩ : ∃ b, b = inB 0 (W0 - 1) x3 := ⟨_, rfl⟩
  obtain ⟨b4, hb4⟩ : ∃ b, b = vo.dirB x4 := ⟨_, rfl⟩
  obtain ⟨dd, hdd⟩ : ∃ d, d = diffB (bf : Int) ps := ⟨_, rfl⟩
  rw [← hb0, ← hb1, ← hb2, ← hb3, ← hb4, ← hdd] at hq
  have A1 := hid (fun w1 => show Calls Try.prog 83 #[.int .i64 x1] w1 fun e w2 => e = .returned (.bool b1) ∧ w1 = w2 from by rw [hb1]; exact vo.specYarn _ w1)
  have A2 := hid (fun w1 => show Calls Try.prog 84 #[.int .i64 x2] w1 fun e w2 => e = .returned (.bool b2) ∧ w1 = w2 from by rw [hb2]; exact nd.specBed _ w1)
  have A3 := hid (fun w1 => show Calls Try.prog 62 #[.int .i64 x3, .int .i64 0, .int .i64 (W0 - 1)] w1 fun e w2 => e = .returned (.bool b3) ∧ w1 = w2 from by rw [hb3]; exact nd.specIn _ _ _ w1)
  have A4 := hid (fun w1 => show Calls Try.prog 85 #[.int .i64 x4] w1 fun e w2 => e = .returned (.bool b4) ∧ w1 = w2 from by rw [hb4]; exact vo.specDir _ w1)
  clear hb1 hb2 hb3 hb4
  have HBad1 : Hid (∀ k, k < ps.length → inB 0 ((bf : Int) - 1) (ps.getD k 0) = false → dd = false) := hid (fun k h1 h2 => by rw [hdd]; exact diff_bad1 h1 h2)
  have HBad2 : Hid (∀ k, k < ps.length → ps.getD k 0 ∈ ps.take k → dd = false) := hid (fun k h1 h2 => by rw [hdd]; exact diff_bad2 h1 h2)
  have HGood : Hid (PreD (bf : Int) ps ps.length → dd = true) := hid (fun h => by rw [hdd]; exact diff_good h)
  have HStep := hid (fun k p h1 h2 h3 => @preD_step (bf : Int) ps k p h1 h2 h3)
  have HP0 := hid (preD_zero (bf : Int) ps)
  clear hdd
  obtain ⟨ao, cap, hv⟩ := ints_val ha
  obtain ⟨n, hnn⟩ : ∃ n, n = ps.length := ⟨_, rfl⟩
  rw [← hnn] at hv hn hb0 HBad1 HBad2 HGood HStep
  subst hv
  have HCell : Hid (∀ j, j < n → ∃ b off, ao = some ⟨b, off, none⟩ ∧ b < B ∧ (∀ i, i < n → w.cell? ⟨b, off + i, none⟩ = some (.int .i64 (ps.getD i 0)))) := hid (fun j hj => by
    rcases ha with ⟨h0, _⟩ | ⟨hp, b, off, cap, hv, hb, hc⟩
    · rw [h0] at hnn; simp at hnn; omega
    · simp only [Value.slice.injEq] at hv
      exact ⟨b, off, hv.1, hb, fun i hi => hc i (by omega)⟩)
  have hcn := (hcap _ _ _ rfl).1
  have HN := hid hnn
  have c0 := H.c0
  have c1 := H.c1
  have c2 := H.c2
  have c3 := H.c3
  have c4 := H.c4
  simp only at c0 c1 c2 c3 c4
  have HC5 := hid H.c5
  have hpl := H.lt
  have HC0 := hid H.c0
  clear H ha hcap hnn
  have HQ := hid hq
  have HB0 := hid hb0
  clear hq hb0
  cases b1 with
  | false =>
    have HF : Hid (q = false) := hid (by rw [HQ.out]; simp)
    clear HQ
    go_enter Try.func70, Try.ntmps70
    go_wp2_with (first | (go_at_call 83; refine (A1.out _).mono ?_; rintro e w2 ⟨rfl, rfl⟩))
    go_ret
    exact ⟨by rw [HF.out]; rfl, 0, rfl⟩
  | true =>
    cases b2 with
    | false =>
      have HF : Hid (q = false) := hid (by rw [HQ.out]; simp)
      clear HQ
      go_enter Try.func70, Try.ntmps70
      go_wp2_with (first | (go_at_call 83; refine (A1.out _).mono ?_; rintro e w2 ⟨rfl, rfl⟩) | (go_at_call 84; refine (A2.out _).mono ?_; rintro e w2 ⟨rfl, rfl⟩))
      go_ret
      exact ⟨by rw [HF.out]; rfl, 0, rfl⟩
    | true =>
      cases b3 with
      | false =>
        have HF : Hid (q = false) := hid (by rw [HQ.out]; simp)
        clear HQ
        go_enter Try.func70, Try.ntmps70
        go_wp2_with (first | (go_at_call 83; refine (A1.out _).mono ?_; rintro e w2 ⟨rfl, rfl⟩) | (go_at_call 84; refine (A2.out _).mono ?_; rintro e w2 ⟨rfl, rfl⟩) | (go_at_call 62; refine (A3.out _).mono ?_; rintro e w2 ⟨rfl, rfl⟩))
        go_ret
        exact ⟨by rw [HF.out]; rfl, 0, rfl⟩
      | true =>
        cases b4 with
        | false =>
          have HF : Hid (q = false) := hid (by rw [HQ.out]; simp)
          clear HQ
          go_enter Try.func70, Try.ntmps70
          go_wp2_with (first | (go_at_call 83; refine (A1.out _).mono ?_; rintro e w2 ⟨rfl, rfl⟩) | (go_at_call 84; refine (A2.out _).mono ?_; rintro e w2 ⟨rfl, rfl⟩) | (go_at_call 62; refine (A3.out _).mono ?_; rintro e w2 ⟨rfl, rfl⟩) | (go_at_call 85; refine (A4.out _).mono ?_; rintro e w2 ⟨rfl, rfl⟩))
          go_ret
          exact ⟨by rw [HF.out]; rfl, 0, rfl⟩
        | true =>
          have HQ2 : Hid (q = (b0 && dd)) := hid (by rw [HQ.out]; simp)
          clear HQ
          go_enter Try.func70, Try.ntmps70
          go_wp2_with (first | (go_at_call 83; refine (A1.out _).mono ?_; rintro e w2 ⟨rfl, rfl⟩) | (go_at_call 84; refine (A2.out _).mono ?_; rintro e w2 ⟨rfl, rfl⟩) | (go_at_call 62; refine (A3.out _).mono ?_; rintro e w2 ⟨rfl, rfl⟩) | (go_at_call 85; refine (A4.out _).mono ?_; rintro e w2 ⟨rfl, rfl⟩))
          clear c0 c1 c2 c3 c4 A1 A2 A3 A4
          go_loopw [7] (fun i wr => ∃ k : Nat, k ≤ n ∧ i = .int .i64 k ∧ PreD (bf : Int) ps k ∧ ∃ q, wr = w.drewN q) (fun i _ => n - (intOf i).toNat)
          case atStart => exact ⟨0, Nat.zero_le _, rfl, HP0.out, 0, rfl⟩
          case round =>
            obtain ⟨k, hk, rfl, hpre, qd, hwr2⟩ := hrel
            have HPr := hid hpre
            have HW := hid hwr2
            have y5 : wr.cell? ⟨p, o + 5, none⟩ = some (.slice ao n cap) := by rw [HW.out]; exact HC5.out
            clear hpre hwr2
            by_cases hlt : k < n
            · obtain ⟨b, off, rfl, hbB, hcs⟩ := HCell.out k hlt
              have HCs := hid (fun i hi => show wr.cell? ⟨b, off + i, none⟩ = some (.int .i64 (ps.getD i 0)) from by rw [HW.out]; exact hcs i hi)
              have hx := HCs.out k hlt
              have H1 := hid (HBad1.out k hlt)
              have H2 := hid (HBad2.out k hlt)
              have H3 := hid (HStep.out k HPr.out hlt)
              clear hcs
              obtain ⟨t, ht⟩ : ∃ t, inB 0 ((bf : Int) - 1) (ps.getD k 0) = t := ⟨_, rfl⟩
              have HI := hid (fun W => vr.inQ (ps.getD k 0) 0 ((bf : Int) - 1) t ht W)
              cases t with
              | false =>
                have HF : Hid (q = false) := hid (by rw [HQ2.out, H1.out ht, Bool.and_false])
                clear ht HQ2
                generalize ps.getD k 0 = x at *
                go_wp2
                go_quiet ((go_at_call 62; exact Calls.quiet_of_same (HI.out _)))
                go_wp2
                go_ret
                exact ⟨by rw [HF.out]; rfl, _, by rw [HW.out]; exact drewN_add _ _ _⟩
              | true =>
                have HFr := hid (vr.ints_front (w := wr) (B := wr.heap.size) (off := off) (World.block_lt_of_cell? wr _ hx) HCs.out HN.out k cap hk)
                have hlk : (ps.take k).length ≤ 1099511627776 := by simp; omega
                have H3b := hid (H3.out ht)
                clear ht
                obtain ⟨u, hu⟩ : ∃ u, vr.hasB (ps.take k) (ps.getD k 0) = u := ⟨_, rfl⟩
                have HH := hid (fun (W : World) (hW : Ints W wr.heap.size (.slice (some ⟨b, off, none⟩) k cap) (ps.take k)) => vr.hasQ (ps.take k) (ps.getD k 0) u hu _ _ W hW hlk)
                cases u with
                | true =>
                  have HF : Hid (q = false) := hid (by rw [HQ2.out, H2.out ((vr.has_mem _ _).1 hu), Bool.and_false])
                  clear hu HQ2
                  generalize ps.getD k 0 = x at *
                  go_wp2
                  go_quiet ((first | (go_at_call 62; exact Calls.quiet_of_same (HI.out _)) | (go_at_call 43; exact Calls.quiet_of_same (HH.out _ HFr.out))))
                  go_wp2
                  go_ret
                  exact ⟨by rw [HF.out]; rfl, _, by rw [HW.out]; exact drewN_add _ _ _⟩
                | false =>
                  have HPn := hid (H3b.out ((vr.has_not _ _).1 hu))
                  clear hu
                  generalize ps.getD k 0 = x at *
                  go_wp2
                  go_quiet ((first | (go_at_call 62; exact Calls.quiet_of_same (HI.out _)) | (go_at_call 43; exact Calls.quiet_of_same (HH.out _ HFr.out))))
                  go_wp2
                  go_roundw
                  case rel => exact ⟨k + 1, by omega, by go_num, HPn.out, _, by rw [HW.out]; exact drewN_add _ _ _⟩
                  case measure => simp [intOf]; omega
            · obtain rfl : k = n := by omega
              have HD : Hid (dd = true) := hid (HGood.out HPr.out)
              have y0 : wr.cell? ⟨p, o, none⟩ = some (.int .i64 2) := by rw [HW.out]; exact HC0.out
              by_cases h4 : (k : Int) ≤ 4
              · have hd4 : decide ((k : Int) ≤ 4) = true := decide_eq_true h4
                have hd4n : decide (k ≤ 4) = true := decide_eq_true (by omega)
                by_cases h0 : k = 0
                · have HF : Hid (q = true) := hid (by rw [HQ2.out, HD.out, HB0.out, h0]; rfl)
                  subst h0
                  clear HQ2 HB0 hd4 hd4n h4
                  go_wp2
                  go_ret
                  exact ⟨by rw [HF.out]; rfl, qd, HW.out⟩
                · have HF : Hid (q = false) := hid (by rw [HQ2.out, HD.out, HB0.out]; simp [kindB, inB]; omega)
                  have hz1 : ((k : Int) == 0) = false := by simpa using h0
                  have hz2 : (k == 0) = false := by simpa using h0
                  have hg1 : decide ((0 : Int) < (k : Int)) = true := decide_eq_true (by omega)
                  have hg2 : decide (0 < k) = true := decide_eq_true (by omega)
                  have hg3 : 0 < k := by omega
                  clear HQ2 HB0 h4
                  go_wp2
                  go_ret
                  exact ⟨by rw [HF.out]; first | rfl | simp, qd, HW.out⟩
              · have hd4 : decide ((k : Int) ≤ 4) = false := decide_eq_false h4
                have hd4n : decide (k ≤ 4) = false := decide_eq_false (by omega)
                have HF : Hid (q = false) := hid (by rw [HQ2.out, HB0.out]; simp [kindB, inB]; omega)
                clear HQ2 HB0 h4
                go_wp2
                go_ret
                exact ⟨by rw [HF.out]; rfl, qd, HW.out⟩

set_option maxRecDepth 100000 in
set_option maxHeartbeats 2000000 in
theorem specInfo5 (x1 x2 x3 x4 : Int) (ps : List Int) (f : Value) (B p o : Nat) (W0 : Int) (bf : Nat) (w : World) (H : nf.At w p o ⟨5, x1, x2, x3, x4, ps⟩ f) (ha : Ints w B f ps) (hcap : vr.CapOk f) (hn : ps.length ≤ 1048576) (hw : 1 ≤ W0 ∧ W0 ≤ 24) (hbf : bf ≤ 300) :
    Calls Try.prog 70 #[.pointer (some ⟨p, o, none⟩), .int .i64 W0, .int .i64 (bf : Int)] w fun e w' => e = .returned (.bool (infB W0 ⟨5, x1, x2, x3, x4, ps⟩ && diffB (bf : Int) ps)) ∧ ∃ q, w' = w.drewN q := by
  obtain ⟨hw0, hw1⟩ := hw
  have hwr : IntKind.i64.wrap (W0 - 1) = W0 - 1 := IntWalk.i64_in _ (by omega)
  have hwb : IntKind.i64.wrap ((bf : Int) - 1) = (bf : Int) - 1 := IntWalk.i64_in _ (by omega)
  obtain ⟨q, hq⟩ : ∃ q, q = (infB W0 ⟨5, x1, x2, x3, x4, ps⟩ && diffB (bf : Int) ps) := ⟨_, rfl⟩
  rw [← hq]
  simp only [infB] at hq
  obtain ⟨b0, hb0⟩ : ∃ b, b = kindB 5 ps.length := ⟨_, rfl⟩
  obtain ⟨b1, hb1⟩ : ∃ b, b = vo.carB x1 := ⟨_, rfl⟩
  obtain ⟨b2, hb2⟩ : ∃ b, b = inB 1 2 x2 := ⟨_, rfl⟩
  obtain ⟨b3, hb3⟩ : ∃ b, b = inB 0 (W0 - 1) x3 := ⟨_, rfl⟩
  obtain ⟨b4, hb4⟩ : ∃ b, b = vo.dirB x4 := ⟨_, rfl⟩
  obtain ⟨dd, hdd⟩ : ∃ d, d = diffB (bf : Int) ps := ⟨_, rfl⟩
  rw [← hb0, ← hb1, ← hb2, ← hb3, ← hb4, ← hdd] at hq
  have A1 := hid (fun w1 => show Calls Try.prog 83 #[.int .i64 x1] w1 fun e w2 => e = .returned (.bool b1) ∧ w1 = w2 from by rw [hb1]; exact vo.specYarn _ w1)
  have A2 := hid (fun w1 => show Calls Try.prog 84 #[.int .i64 x2] w1 fun e w2 => e = .returned (.bool b2) ∧ w1 = w2 from by rw [hb2]; exact nd.specBed _ w1)
  have A3 := hid (fun w1 => show Calls Try.prog 62 #[.int .i64 x3, .int .i64 0, .int .i64 (W0 - 1)] w1 fun e w2 => e = .returned (.bool b3) ∧ w1 = w2 from by rw [hb3]; exact nd.specIn _ _ _ w1)
  have A4 := hid (fun w1 => show Calls Try.prog 85 #[.int .i64 x4] w1 fun e w2 => e = .returned (.bool b4) ∧ w1 = w2 from by rw [hb4]; exact vo.specDir _ w1)
  clear hb1 hb2 hb3 hb4
  have HBad1 : Hid (∀ k, k < ps.length → inB 0 ((bf : Int) - 1) (ps.getD k 0) = false → dd = false) := hid (fun k h1 h2 => by rw [hdd]; exact diff_bad1 h1 h2)
  have HBad2 : Hid (∀ k, k < ps.length → ps.getD k 0 ∈ ps.take k → dd = false) := hid (fun k h1 h2 => by rw [hdd]; exact diff_bad2 h1 h2)
  have HGood : Hid (PreD (bf : Int) ps ps.length → dd = true) := hid (fun h => by rw [hdd]; exact diff_good h)
  have HStep := hid (fun k p h1 h2 h3 => @preD_step (bf : Int) ps k p h1 h2 h3)
  have HP0 := hid (preD_zero (bf : Int) ps)
  clear hdd
  obtain ⟨ao, cap, hv⟩ := ints_val ha
  obtain ⟨n, hnn⟩ : ∃ n, n = ps.length := ⟨_, rfl⟩
  rw [← hnn] at hv hn hb0 HBad1 HBad2 HGood HStep
  subst hv
  have HCell : Hid (∀ j, j < n → ∃ b off, ao = some ⟨b, off, none⟩ ∧ b < B ∧ (∀ i, i < n → w.cell? ⟨b, off + i, none⟩ = some (.int .i64 (ps.getD i 0)))) := hid (fun j hj => by
    rcases ha with ⟨h0, _⟩ | ⟨hp, b, off, cap, hv, hb, hc⟩
    · rw [h0] at hnn; simp at hnn; omega
    · simp only [Value.slice.injEq] at hv
      exact ⟨b, off, hv.1, hb, fun i hi => hc i (by omega)⟩)
  have hcn := (hcap _ _ _ rfl).1
  have HN := hid hnn
  have c0 := H.c0
  have c1 := H.c1
  have c2 := H.c2
  have c3 := H.c3
  have c4 := H.c4
  simp only at c0 c1 c2 c3 c4
  have HC5 := hid H.c5
  have hpl := H.lt
  have HC0 := hid H.c0
  clear H ha hcap hnn
  have HQ := hid hq
  have HB0 := hid hb0
  clear hq hb0
  cases b1 with
  | false =>
    have HF : Hid (q = false) := hid (by rw [HQ.out]; simp)
    clear HQ
    go_enter Try.func70, Try.ntmps70
    go_wp2_with (first | (go_at_call 83; refine (A1.out _).mono ?_; rintro e w2 ⟨rfl, rfl⟩))
    go_ret
    exact ⟨by rw [HF.out]; rfl, 0, rfl⟩
  | true =>
    cases b2 with
    | false =>
      have HF : Hid (q = false) := hid (by rw [HQ.out]; simp)
      clear HQ
      go_enter Try.func70, Try.ntmps70
      go_wp2_with (first | (go_at_call 83; refine (A1.out _).mono ?_; rintro e w2 ⟨rfl, rfl⟩) | (go_at_call 84; refine (A2.out _).mono ?_; rintro e w2 ⟨rfl, rfl⟩))
      go_ret
      exact ⟨by rw [HF.out]; rfl, 0, rfl⟩
    | true =>
      cases b3 with
      | false =>
        have HF : Hid (q = false) := hid (by rw [HQ.out]; simp)
        clear HQ
        go_enter Try.func70, Try.ntmps70
        go_wp2_with (first | (go_at_call 83; refine (A1.out _).mono ?_; rintro e w2 ⟨rfl, rfl⟩) | (go_at_call 84; refine (A2.out _).mono ?_; rintro e w2 ⟨rfl, rfl⟩) | (go_at_call 62; refine (A3.out _).mono ?_; rintro e w2 ⟨rfl, rfl⟩))
        go_ret
        exact ⟨by rw [HF.out]; rfl, 0, rfl⟩
      | true =>
        cases b4 with
        | false =>
          have HF : Hid (q = false) := hid (by rw [HQ.out]; simp)
          clear HQ
          go_enter Try.func70, Try.ntmps70
          go_wp2_with (first | (go_at_call 83; refine (A1.out _).mono ?_; rintro e w2 ⟨rfl, rfl⟩) | (go_at_call 84; refine (A2.out _).mono ?_; rintro e w2 ⟨rfl, rfl⟩) | (go_at_call 62; refine (A3.out _).mono ?_; rintro e w2 ⟨rfl, rfl⟩) | (go_at_call 85; refine (A4.out _).mono ?_; rintro e w2 ⟨rfl, rfl⟩))
          go_ret
          exact ⟨by rw [HF.out]; rfl, 0, rfl⟩
        | true =>
          have HQ2 : Hid (q = (b0 && dd)) := hid (by rw [HQ.out]; simp)
          clear HQ
          go_enter Try.func70, Try.ntmps70
          go_wp2_with (first | (go_at_call 83; refine (A1.out _).mono ?_; rintro e w2 ⟨rfl, rfl⟩) | (go_at_call 84; refine (A2.out _).mono ?_; rintro e w2 ⟨rfl, rfl⟩) | (go_at_call 62; refine (A3.out _).mono ?_; rintro e w2 ⟨rfl, rfl⟩) | (go_at_call 85; refine (A4.out _).mono ?_; rintro e w2 ⟨rfl, rfl⟩))
          clear c0 c1 c2 c3 c4 A1 A2 A3 A4
          go_loopw [7] (fun i wr => ∃ k : Nat, k ≤ n ∧ i = .int .i64 k ∧ PreD (bf : Int) ps k ∧ ∃ q, wr = w.drewN q) (fun i _ => n - (intOf i).toNat)
          case atStart => exact ⟨0, Nat.zero_le _, rfl, HP0.out, 0, rfl⟩
          case round =>
            obtain ⟨k, hk, rfl, hpre, qd, hwr2⟩ := hrel
            have HPr := hid hpre
            have HW := hid hwr2
            have y5 : wr.cell? ⟨p, o + 5, none⟩ = some (.slice ao n cap) := by rw [HW.out]; exact HC5.out
            clear hpre hwr2
            by_cases hlt : k < n
            · obtain ⟨b, off, rfl, hbB, hcs⟩ := HCell.out k hlt
              have HCs := hid (fun i hi => show wr.cell? ⟨b, off + i, none⟩ = some (.int .i64 (ps.getD i 0)) from by rw [HW.out]; exact hcs i hi)
              have hx := HCs.out k hlt
              have H1 := hid (HBad1.out k hlt)
              have H2 := hid (HBad2.out k hlt)
              have H3 := hid (HStep.out k HPr.out hlt)
              clear hcs
              obtain ⟨t, ht⟩ : ∃ t, inB 0 ((bf : Int) - 1) (ps.getD k 0) = t := ⟨_, rfl⟩
              have HI := hid (fun W => vr.inQ (ps.getD k 0) 0 ((bf : Int) - 1) t ht W)
              cases t with
              | false =>
                have HF : Hid (q = false) := hid (by rw [HQ2.out, H1.out ht, Bool.and_false])
                clear ht HQ2
                generalize ps.getD k 0 = x at *
                go_wp2
                go_quiet ((go_at_call 62; exact Calls.quiet_of_same (HI.out _)))
                go_wp2
                go_ret
                exact ⟨by rw [HF.out]; rfl, _, by rw [HW.out]; exact drewN_add _ _ _⟩
              | true =>
                have HFr := hid (vr.ints_front (w := wr) (B := wr.heap.size) (off := off) (World.block_lt_of_cell? wr _ hx) HCs.out HN.out k cap hk)
                have hlk : (ps.take k).length ≤ 1099511627776 := by simp; omega
                have H3b := hid (H3.out ht)
                clear ht
                obtain ⟨u, hu⟩ : ∃ u, vr.hasB (ps.take k) (ps.getD k 0) = u := ⟨_, rfl⟩
                have HH := hid (fun (W : World) (hW : Ints W wr.heap.size (.slice (some ⟨b, off, none⟩) k cap) (ps.take k)) => vr.hasQ (ps.take k) (ps.getD k 0) u hu _ _ W hW hlk)
                cases u with
                | true =>
                  have HF : Hid (q = false) := hid (by rw [HQ2.out, H2.out ((vr.has_mem _ _).1 hu), Bool.and_false])
                  clear hu HQ2
                  generalize ps.getD k 0 = x at *
                  go_wp2
                  go_quiet ((first | (go_at_call 62; exact Calls.quiet_of_same (HI.out _)) | (go_at_call 43; exact Calls.quiet_of_same (HH.out _ HFr.out))))
                  go_wp2
                  go_ret
                  exact ⟨by rw [HF.out]; rfl, _, by rw [HW.out]; exact drewN_add _ _ _⟩
                | false =>
                  have HPn := hid (H3b.out ((vr.has_not _ _).1 hu))
                  clear hu
                  generalize ps.getD k 0 = x at *
                  go_wp2
                  go_quiet ((first | (go_at_call 62; exact Calls.quiet_of_same (HI.out _)) | (go_at_call 43; exact Calls.quiet_of_same (HH.out _ HFr.out))))
                  go_wp2
                  go_roundw
                  case rel => exact ⟨k + 1, by omega, by go_num, HPn.out, _, by rw [HW.out]; exact drewN_add _ _ _⟩
                  case measure => simp [intOf]; omega
            · obtain rfl : k = n := by omega
              have HD : Hid (dd = true) := hid (HGood.out HPr.out)
              have y0 : wr.cell? ⟨p, o, none⟩ = some (.int .i64 5) := by rw [HW.out]; exact HC0.out
              by_cases h4 : (k : Int) ≤ 4
              · have hd4 : decide ((k : Int) ≤ 4) = true := decide_eq_true h4
                have hd4n : decide (k ≤ 4) = true := decide_eq_true (by omega)
                by_cases h0 : k = 0
                · have HF : Hid (q = false) := hid (by rw [HQ2.out, HD.out, HB0.out, h0]; rfl)
                  subst h0
                  clear HQ2 HB0 hd4 hd4n h4
                  go_wp2
                  go_ret
                  exact ⟨by rw [HF.out]; rfl, qd, HW.out⟩
                · have HF : Hid (q = true) := hid (by rw [HQ2.out, HD.out, HB0.out]; simp [kindB, inB]; omega)
                  have hz1 : ((k : Int) == 0) = false := by simpa using h0
                  have hz2 : (k == 0) = false := by simpa using h0
                  have hg1 : decide ((0 : Int) < (k : Int)) = true := decide_eq_true (by omega)
                  have hg2 : decide (0 < k) = true := decide_eq_true (by omega)
                  have hg3 : 0 < k := by omega
                  clear HQ2 HB0 h4
                  go_wp2
                  go_ret
                  exact ⟨by rw [HF.out]; first | rfl | simp, qd, HW.out⟩
              · have hd4 : decide ((k : Int) ≤ 4) = false := decide_eq_false h4
                have hd4n : decide (k ≤ 4) = false := decide_eq_false (by omega)
                have HF : Hid (q = false) := hid (by rw [HQ2.out, HB0.out]; simp [kindB, inB]; omega)
                clear HQ2 HB0 h4
                go_wp2
                go_ret
                exact ⟨by rw [HF.out]; rfl, qd, HW.out⟩

theorem specInfo (x0 x1 x2 x3 x4 : Int) (ps : List Int) (f : Value) (B p o : Nat) (W0 : Int) (bf : Nat) (w : World) (H : nf.At w p o ⟨x0, x1, x2, x3, x4, ps⟩ f) (ha : Ints w B f ps) (hcap : vr.CapOk f) (hn : ps.length ≤ 1048576) (hw : 1 ≤ W0 ∧ W0 ≤ 24) (hbf : bf ≤ 300) :
    Calls Try.prog 70 #[.pointer (some ⟨p, o, none⟩), .int .i64 W0, .int .i64 (bf : Int)] w fun e w' => e = .returned (.bool (infB W0 ⟨x0, x1, x2, x3, x4, ps⟩ && diffB (bf : Int) ps)) ∧ ∃ q, w' = w.drewN q := by
  by_cases h1 : x0 = 1
  · subst h1; exact specInfo1 x1 x2 x3 x4 ps f B p o W0 bf w H ha hcap hn hw hbf
  · by_cases h2 : x0 = 2
    · subst h2; exact specInfo2 x1 x2 x3 x4 ps f B p o W0 bf w H ha hcap hn hw hbf
    · by_cases h5 : x0 = 5
      · subst h5; exact specInfo5 x1 x2 x3 x4 ps f B p o W0 bf w H ha hcap hn hw hbf
      · exact specInfo0 x0 x1 x2 x3 x4 ps f B p o W0 bf w H ha hcap hn hw hbf h1 h2 h5
end Go.Proofs.Ytlhpipcmebmpdab.mc
