/-
  l14After and StacksAfter of the model.
-/
import Derived.Test.YtbbnheiibkcgiabDoorKn5
namespace Go.Proofs.YtbbnheiibkcgiabDoor.kn
open Go.RowKit Go.Proofs.YtbbnheiibkcgiabDoor.sl Go.Proofs.YtbbnheiibkcgiabDoor.st
set_option linter.unusedVariables false

theorem aft_small {ss ks : List Int} (hF : Fit ss ks) (k : Nat) (hk : k ≤ ks.length) : (aftTo ss ks k).length ≤ 64 := by
  have h := aftTo_len (ss := ss) hF.kn k hk
  have h2 := sF_bound md ks (fun j hj => by have := md_bound (hF.kn j hj); omega) k hk
  have := hF.k16
  omega

theorem sub_mk6 {j : Nat} (h : j = 6) (x : Int) : mkC (j : Int) [x] = [x + 1] := by subst h; simp [mkC, sum1]
theorem sub_mk7 {j : Nat} (h : j = 7) (x : Int) : mkC (j : Int) [x] = [x] := by subst h; simp [mkC, sum1]

set_option maxRecDepth 100000 in
set_option maxHeartbeats 4000000 in
theorem specAfter (ss ks : List Int) (v u : Value) (B C : Nat) (w : World) (ha : Ints w B v ss) (hb : Ints w C u ks) (hC : C ≤ w.heap.size) (hF : Fit ss ks) :
    Calls Tryd.prog 60 #[v, u] w fun e w' => ∃ v', e = .returned v' ∧ sl.Own w' w.heap.size w'.heap.size v' (aftTo ss ks ks.length) ∧ Below w.heap.size w w' := by
  have HO0 : Hid (sl.Own (w.alloc (.cells #[] 2)) w.heap.size (w.alloc (.cells #[] 2)).heap.size (.slice (some ⟨w.heap.size, 0, none⟩) 0 0) (aftTo ss ks 0)) := hid (Own.built w #[] rfl)
  have HB0 := hid ((Below.refl w.heap.size w).alloc (Nat.le_refl _) (.cells #[] 2))
  rcases hb with ⟨rfl, bo2, cb2, hu2⟩ | ⟨hp, b, offb, cb2, hu2, hbb, hc⟩
  · obtain ⟨ao, cap, hv⟩ := br.ints_val ha
    clear ha hF
    generalize ss.length = n at *
    subst hv hu2
    go_enter Tryd.func60, Tryd.ntmps60
    go_wp2
    refine wp_loop_rounds 1 ?_
    rw [rounds_succ]
    go_wp2
    go_ret
    exact ⟨_, rfl, HO0.out, HB0.out⟩
  have HA := hid ha
  obtain ⟨ao, cap, hv⟩ := br.ints_val ha
  have HFt := hid hF
  have hk16 := hF.k16
  have hs8 := hF.s8
  have HCk := hid hc
  have HOff := hid (fun k (h : k < ks.length) => off_succ hF.kn k h)
  have HTl := hid (fun k (h : k < ks.length) => tkn_list hF.kn hF.tot k h)
  have HOl := hid (fun k (h : k ≤ ks.length) => off_le hF.kn hF.tot k h)
  have HKn := hid hF.kn
  have HSt := hid hF.st
  have HSm := hid (fun k (h : k ≤ ks.length) => aft_small hF k h)
  obtain ⟨m, hmm⟩ : ∃ m, m = ks.length := ⟨_, rfl⟩
  rw [← hmm] at hp hk16 HCk HOff HTl HKn HOl HSm hu2 ⊢
  have HMm := hid hmm
  obtain ⟨n, hnn⟩ : ∃ n, n = ss.length := ⟨_, rfl⟩
  rw [← hnn] at hv hs8 HTl HSt HOl
  have HNn := hid hnn
  subst hv hu2
  clear hmm hnn ha hF hc
  rcases HA.out with ⟨h0, _⟩ | ⟨hp2, b2, off2, cap2, hv2, hbb2, hc2⟩
  · have HN0 : Hid (n = 0) := hid (by rw [HNn.out, h0]; rfl)
    clear h0 HSt
    go_enter Tryd.func60, Tryd.ntmps60
    go_wp2
    go_loopw [5, 6, 7] (fun u a i wr => ∃ k : Nat, k ≤ m ∧ i = .int .i64 k ∧ a = .int .i64 (off ks k : Int) ∧ sl.Own wr w.heap.size wr.heap.size u (aftTo ss ks k) ∧ Below w.heap.size w wr) (fun _ _ i _ => m - (intOf i).toNat)
    case atStart => exact ⟨0, Nat.zero_le _, rfl, rfl, HO0.out, HB0.out⟩
    case round =>
      obtain ⟨k, hk, rfl, rfl, hown, hbel⟩ := hrel
      have HO := hid hown
      have HB := hid hbel
      clear hown hbel HO0 HB0
      have hol := HOl.out k hk
      by_cases hlt : k < m
      · obtain ⟨j, hj, hj1⟩ := knd_nat (HKn.out k hlt)
        have hcw := HCk.out k hlt
        have hc1 := (HB.out.cell (p := ⟨b, offb + k, none⟩) (by show b < _; omega)).trans hcw
        have hos := HOff.out k hlt
        have hTl := HTl.out k hlt
        rw [hj] at hc1 hos hTl hcw
        rw [tk_at hj1] at hos hTl
        have htb := tk_bound (HKn.out k hlt)
        rw [hj, tk_at hj1] at htb
        have HCT := hid (specTaken (j : Int))
        rw [tk_at hj1] at HCT
        have HCM := hid (specMade (j : Int))
        rw [md_at hj1] at HCM
        have hmb := md_bound (HKn.out k hlt)
        rw [hj, md_at hj1] at hmb
        have hso := HOl.out (k + 1) (by omega)
        obtain ⟨o, ho⟩ : ∃ o, o = off ks k := ⟨_, rfl⟩
        rw [← ho] at hos hol hTl ⊢
        have HOs : Hid ((off ks (k + 1) : Int) = (o : Int) + tkT.getD j 0) := hid (by omega)
        by_cases h6 : j = 6
        · obtain ⟨e1, e2⟩ := hTl.1 (by rw [h6]; rfl)
          have := HN0.out
          omega
        by_cases h7 : j = 7
        · obtain ⟨e1, e2⟩ := hTl.1 (by rw [h7]; rfl)
          have := HN0.out
          omega
        have n6 : ((j : Int) == 6) = false := by simp; omega
        have n7 : ((j : Int) == 7) = false := by simp; omega
        obtain ⟨q, hq, hq4⟩ : ∃ q : Nat, mdT.getD j 0 = (q : Int) ∧ q ≤ 4 := ⟨(mdT.getD j 0).toNat, by omega, by omega⟩
        have HAs : Hid (aftTo ss ks (k + 1) = aftTo ss ks k ++ List.replicate q 1) := hid (by
          rw [aftTo_succ, mdn, hj, mkC, if_neg (by omega), if_neg (by omega), md_at hj1, hq, Int.toNat_natCast])
        rw [hq] at HCM
        generalize tkT.getD j 0 = tn at *
        clear hTl ho hj hos hso h6 h7 hmb hq
        go_wp2_with fail
        refine (HCM.out _).mono ?_
        rintro e W2 ⟨rfl, c2⟩
        have HB2 := hid (HB.out.trans (c2.mono HB.out.size))
        have HO2 : Hid (sl.Own W2 w.heap.size W2.heap.size u5 (aftTo ss ks k ++ List.replicate 0 1)) := hid (by
          rw [List.replicate_zero, List.append_nil]
          exact (HO.out.chg (Chg.ofBelow (lo := 0) c2) (.inr (.inr (Nat.zero_le _)))).hi c2.size (Nat.le_refl _))
        clear c2 HB HO hc1 HCM
        go_wp2
        go_loopw [5, 8] (fun y c wv => ∃ i : Nat, i ≤ q ∧ c = .int .i64 ((q : Int) - (i : Int)) ∧ sl.Own wv w.heap.size wv.heap.size y (aftTo ss ks k ++ List.replicate i 1) ∧ Below w.heap.size w wv) (fun _ c _ => (intOf c).toNat)
        case atStart => exact ⟨0, Nat.zero_le _, by simp, HO2.out, HB2.out⟩
        case round =>
          obtain ⟨i, hi, rfl, hown, hbel⟩ := hrel
          have HOi := hid hown
          have HBi := hid hbel
          clear hown hbel HO2 HB2
          by_cases hlti : i < q
          · have hgt : decide ((0 : Int) < (q : Int) - (i : Int)) = true := by simp; omega
            have hlen : (aftTo ss ks k ++ List.replicate i (1 : Int)).length ≤ 1099511627776 := by
              have := HSm.out k (by omega)
              rw [List.length_append, List.length_replicate]; omega
            have HLen := hid hlen
            clear hlen
            go_wp2_with (at_builtin; refine wp_append rfl _ _ rfl w.heap.size wr.heap.size _ (aftTo ss ks k ++ List.replicate i 1) 1 HOi.out rfl rfl HBi.out.size HLen.out ?_; intro v8 W8 o8 c8 hl8; have HO8 := hid o8; have HB8 := hid (HBi.out.trans (c8.below (Nat.le_refl _) HBi.out.size)); clear o8 c8 hl8)
            go_roundw
            case rel => exact ⟨i + 1, by omega, by go_num, by rw [List.replicate_succ', ← List.append_assoc]; exact HO8.out, HB8.out⟩
            case measure => simp [intOf]; omega
          · obtain rfl : i = q := by omega
            have hgt : decide ((0 : Int) < (i : Int) - (i : Int)) = false := by simp
            have HO8 := hid HOi.out
            have HB8 := hid HBi.out
            have hc8 := (HB8.out.cell (p := ⟨b, offb + k, none⟩) (by show b < _; omega)).trans hcw
            clear HOi HBi
            go_wp2_with fail
            refine (HCT.out _).mono ?_
            rintro e W9 ⟨rfl, c9⟩
            have HB9 := hid (HB8.out.trans (c9.mono HB8.out.size))
            have HO9 := hid ((HO8.out.chg (Chg.ofBelow (lo := 0) c9) (.inr (.inr (Nat.zero_le _)))).hi c9.size (Nat.le_refl _))
            clear c9
            go_wp2
            go_roundw
            case rel => exact ⟨k + 1, by omega, by go_num, by rw [HOs.out], by rw [HAs.out]; exact HO9.out, HB9.out⟩
            case measure => simp [intOf]; omega
      · obtain rfl : k = m := by omega
        go_wp2
        go_ret
        exact ⟨_, rfl, HO.out, HB.out⟩
  · rw [← HNn.out] at hv2 hc2
    simp only [Value.slice.injEq] at hv2
    obtain ⟨rfl, _, rfl⟩ := hv2
    have HC2 := hid hc2
    clear hc2 hp2 HA
    go_enter Tryd.func60, Tryd.ntmps60
    go_wp2
    go_loopw [5, 6, 7] (fun u a i wr => ∃ k : Nat, k ≤ m ∧ i = .int .i64 k ∧ a = .int .i64 (off ks k : Int) ∧ sl.Own wr w.heap.size wr.heap.size u (aftTo ss ks k) ∧ Below w.heap.size w wr) (fun _ _ i _ => m - (intOf i).toNat)
    case atStart => exact ⟨0, Nat.zero_le _, rfl, rfl, HO0.out, HB0.out⟩
    case round =>
      obtain ⟨k, hk, rfl, rfl, hown, hbel⟩ := hrel
      have HO := hid hown
      have HB := hid hbel
      clear hown hbel HO0 HB0
      have hol := HOl.out k hk
      by_cases hlt : k < m
      · obtain ⟨j, hj, hj1⟩ := knd_nat (HKn.out k hlt)
        have hcw := HCk.out k hlt
        have hc1 := (HB.out.cell (p := ⟨b, offb + k, none⟩) (by show b < _; omega)).trans hcw
        have hos := HOff.out k hlt
        have hTl := HTl.out k hlt
        rw [hj] at hc1 hos hTl hcw
        rw [tk_at hj1] at hos hTl
        have htb := tk_bound (HKn.out k hlt)
        rw [hj, tk_at hj1] at htb
        have HCT := hid (specTaken (j : Int))
        rw [tk_at hj1] at HCT
        have HCM := hid (specMade (j : Int))
        rw [md_at hj1] at HCM
        have hmb := md_bound (HKn.out k hlt)
        rw [hj, md_at hj1] at hmb
        have hso := HOl.out (k + 1) (by omega)
        obtain ⟨o, ho⟩ : ∃ o, o = off ks k := ⟨_, rfl⟩
        rw [← ho] at hos hol hTl ⊢
        have HOs : Hid ((off ks (k + 1) : Int) = (o : Int) + tkT.getD j 0) := hid (by omega)
        by_cases h6 : j = 6
        · have ht1 : tkT.getD j 0 = 1 := by rw [h6]; rfl
          obtain ⟨e1, e2⟩ := hTl.1 ht1
          have hB2 : b2 < w.heap.size := World.block_lt_of_cell? w _ (HC2.out o (by omega))
          have p1 := (HB.out.cell (p := ⟨b2, off2 + o, none⟩) hB2).trans (HC2.out o (by omega))
          have b1' := HSt.out o (by omega)
          have HAs : Hid (aftTo ss ks (k + 1) = aftTo ss ks k ++ [ss.getD o 0 + 1]) := hid (by
            rw [aftTo_succ, mdn, hj, e1, sub_mk6 h6])
          generalize ss.getD o 0 = x at *
          subst h6
          rw [ht1] at HCT HOs
          clear hTl e1 ho hj hos hso
          go_wp2_with (at_builtin; refine wp_append rfl _ _ rfl w.heap.size wr.heap.size _ (aftTo ss ks k) (x + 1) HO.out rfl rfl HB.out.size (by have := HSm.out k (by omega); omega) ?_; intro v8 W8 o8 c8 hl8; have HO8 := hid o8; have HB8 := hid (HB.out.trans (c8.below (Nat.le_refl _) HB.out.size)); have hc8 := (HB8.out.cell (p := ⟨b, offb + k, none⟩) (by show b < _; omega)).trans hcw; clear o8 c8 hl8)
          refine (HCT.out _).mono ?_
          rintro e W9 ⟨rfl, c9⟩
          have HB9 := hid (HB8.out.trans (c9.mono HB8.out.size))
          have HO9 := hid ((HO8.out.chg (Chg.ofBelow (lo := 0) c9) (.inr (.inr (Nat.zero_le _)))).hi c9.size (Nat.le_refl _))
          clear c9
          go_wp2
          go_roundw
          case rel => exact ⟨k + 1, by omega, by go_num, by rw [HOs.out], by rw [HAs.out]; exact HO9.out, HB9.out⟩
          case measure => simp [intOf]; omega
        by_cases h7 : j = 7
        · have ht1 : tkT.getD j 0 = 1 := by rw [h7]; rfl
          obtain ⟨e1, e2⟩ := hTl.1 ht1
          have hB2 : b2 < w.heap.size := World.block_lt_of_cell? w _ (HC2.out o (by omega))
          have p1 := (HB.out.cell (p := ⟨b2, off2 + o, none⟩) hB2).trans (HC2.out o (by omega))
          have b1' := HSt.out o (by omega)
          have HAs : Hid (aftTo ss ks (k + 1) = aftTo ss ks k ++ [ss.getD o 0]) := hid (by
            rw [aftTo_succ, mdn, hj, e1, sub_mk7 h7])
          generalize ss.getD o 0 = x at *
          subst h7
          rw [ht1] at HCT HOs
          clear hTl e1 ho hj hos hso
          go_wp2_with (at_builtin; refine wp_append rfl _ _ rfl w.heap.size wr.heap.size _ (aftTo ss ks k) x HO.out rfl rfl HB.out.size (by have := HSm.out k (by omega); omega) ?_; intro v8 W8 o8 c8 hl8; have HO8 := hid o8; have HB8 := hid (HB.out.trans (c8.below (Nat.le_refl _) HB.out.size)); have hc8 := (HB8.out.cell (p := ⟨b, offb + k, none⟩) (by show b < _; omega)).trans hcw; clear o8 c8 hl8)
          refine (HCT.out _).mono ?_
          rintro e W9 ⟨rfl, c9⟩
          have HB9 := hid (HB8.out.trans (c9.mono HB8.out.size))
          have HO9 := hid ((HO8.out.chg (Chg.ofBelow (lo := 0) c9) (.inr (.inr (Nat.zero_le _)))).hi c9.size (Nat.le_refl _))
          clear c9
          go_wp2
          go_roundw
          case rel => exact ⟨k + 1, by omega, by go_num, by rw [HOs.out], by rw [HAs.out]; exact HO9.out, HB9.out⟩
          case measure => simp [intOf]; omega
        have n6 : ((j : Int) == 6) = false := by simp; omega
        have n7 : ((j : Int) == 7) = false := by simp; omega
        obtain ⟨q, hq, hq4⟩ : ∃ q : Nat, mdT.getD j 0 = (q : Int) ∧ q ≤ 4 := ⟨(mdT.getD j 0).toNat, by omega, by omega⟩
        have HAs : Hid (aftTo ss ks (k + 1) = aftTo ss ks k ++ List.replicate q 1) := hid (by
          rw [aftTo_succ, mdn, hj, mkC, if_neg (by omega), if_neg (by omega), md_at hj1, hq, Int.toNat_natCast])
        rw [hq] at HCM
        generalize tkT.getD j 0 = tn at *
        clear hTl ho hj hos hso h6 h7 hmb hq
        go_wp2_with fail
        refine (HCM.out _).mono ?_
        rintro e W2 ⟨rfl, c2⟩
        have HB2 := hid (HB.out.trans (c2.mono HB.out.size))
        have HO2 : Hid (sl.Own W2 w.heap.size W2.heap.size u5 (aftTo ss ks k ++ List.replicate 0 1)) := hid (by
          rw [List.replicate_zero, List.append_nil]
          exact (HO.out.chg (Chg.ofBelow (lo := 0) c2) (.inr (.inr (Nat.zero_le _)))).hi c2.size (Nat.le_refl _))
        clear c2 HB HO hc1 HCM
        go_wp2
        go_loopw [5, 8] (fun y c wv => ∃ i : Nat, i ≤ q ∧ c = .int .i64 ((q : Int) - (i : Int)) ∧ sl.Own wv w.heap.size wv.heap.size y (aftTo ss ks k ++ List.replicate i 1) ∧ Below w.heap.size w wv) (fun _ c _ => (intOf c).toNat)
        case atStart => exact ⟨0, Nat.zero_le _, by simp, HO2.out, HB2.out⟩
        case round =>
          obtain ⟨i, hi, rfl, hown, hbel⟩ := hrel
          have HOi := hid hown
          have HBi := hid hbel
          clear hown hbel HO2 HB2
          by_cases hlti : i < q
          · have hgt : decide ((0 : Int) < (q : Int) - (i : Int)) = true := by simp; omega
            have hlen : (aftTo ss ks k ++ List.replicate i (1 : Int)).length ≤ 1099511627776 := by
              have := HSm.out k (by omega)
              rw [List.length_append, List.length_replicate]; omega
            have HLen := hid hlen
            clear hlen
            go_wp2_with (at_builtin; refine wp_append rfl _ _ rfl w.heap.size wr.heap.size _ (aftTo ss ks k ++ List.replicate i 1) 1 HOi.out rfl rfl HBi.out.size HLen.out ?_; intro v8 W8 o8 c8 hl8; have HO8 := hid o8; have HB8 := hid (HBi.out.trans (c8.below (Nat.le_refl _) HBi.out.size)); clear o8 c8 hl8)
            go_roundw
            case rel => exact ⟨i + 1, by omega, by go_num, by rw [List.replicate_succ', ← List.append_assoc]; exact HO8.out, HB8.out⟩
            case measure => simp [intOf]; omega
          · obtain rfl : i = q := by omega
            have hgt : decide ((0 : Int) < (i : Int) - (i : Int)) = false := by simp
            have HO8 := hid HOi.out
            have HB8 := hid HBi.out
            have hc8 := (HB8.out.cell (p := ⟨b, offb + k, none⟩) (by show b < _; omega)).trans hcw
            clear HOi HBi
            go_wp2_with fail
            refine (HCT.out _).mono ?_
            rintro e W9 ⟨rfl, c9⟩
            have HB9 := hid (HB8.out.trans (c9.mono HB8.out.size))
            have HO9 := hid ((HO8.out.chg (Chg.ofBelow (lo := 0) c9) (.inr (.inr (Nat.zero_le _)))).hi c9.size (Nat.le_refl _))
            clear c9
            go_wp2
            go_roundw
            case rel => exact ⟨k + 1, by omega, by go_num, by rw [HOs.out], by rw [HAs.out]; exact HO9.out, HB9.out⟩
            case measure => simp [intOf]; omega
      · obtain rfl : k = m := by omega
        go_wp2
        go_ret
        exact ⟨_, rfl, HO.out, HB.out⟩
end Go.Proofs.YtbbnheiibkcgiabDoor.kn
