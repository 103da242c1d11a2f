/-
  DoubleBraid: the letters of the blocks, by the model.
-/
import Derived.Test.YtedajefapddekaaDb3
import Derived.Test.YtedajefapddekaaJo
namespace Go.Proofs.Ytedajefapddekaa.db
open Go.RowKit Go.Proofs.Ytedajefapddekaa.sl Go.Proofs.Ytedajefapddekaa.pm Go.Proofs.Ytedajefapddekaa.fn Go.Proofs.Ytedajefapddekaa.br Go.Proofs.Ytedajefapddekaa.bw Go.Proofs.Ytedajefapddekaa.wk
set_option linter.unusedVariables false

theorem dbL_len (ss xs : List Int) (hsm : Sm ss) (j : Nat) (hj : j ≤ xs.length) : (dbL ss xs j).length ≤ 16 := by
  have hn := dbN_all (P := fun y => 0 ≤ y ∧ y ≤ 4) ⟨by omega, by omega⟩ ss xs hsm j hj
  unfold dbL
  rw [swO_len]
  have a1 := hn (ab (xs.getD j 0) - 1).toNat
  have a2 := hn ((ab (xs.getD j 0) - 1).toNat + 1)
  have b1 : ((dbN ss xs j).getD (ab (xs.getD j 0) - 1).toNat 0).toNat ≤ 4 := by omega
  have b2 : ((dbN ss xs j).getD ((ab (xs.getD j 0) - 1).toNat + 1) 0).toNat ≤ 4 := by omega
  exact Nat.mul_le_mul b2 b1
theorem dbW_len (ss xs : List Int) (hsm : Sm ss) (k : Nat) (hk : k ≤ xs.length) : (dbW ss xs k).length ≤ 16 * k := by
  induction k with
  | zero => simp [dbW]
  | succ k ih =>
    have h1 := ih (by omega)
    have h2 := dbL_len ss xs hsm k (by omega)
    rw [dbW_succ, List.length_append]
    omega
theorem sum_take (xs : List Int) (n : Nat) (hn : n < xs.length) : sumL (xs.take (n + 1)) = sumL (xs.take n) + xs.getD n 0 := by
  rw [List.take_succ_eq_append_getElem hn]
  unfold sumL
  rw [List.foldl_append]
  simp [List.getD, List.getElem?_eq_getElem hn]

set_option maxRecDepth 100000 in
set_option maxHeartbeats 4000000 in
theorem specWords (word sizes : List Int) (vl vs : Value) (Bl Bs : Nat) (w : World) (hl : Ints w Bl vl word) (hs : Ints w Bs vs sizes) (hBl : Bl ≤ w.heap.size) (hBs : Bs ≤ w.heap.size) (hnil : NilOk vs) (hok : ∀ j, j < word.length → word.getD j 0 ≠ 0 ∧ 1 - (sizes.length : Int) ≤ word.getD j 0 ∧ word.getD j 0 ≤ (sizes.length : Int) - 1) (hn : word.length ≤ 40) (hm : sizes.length ≤ 12) (hsm : Sm sizes) :
    Calls Try.prog 67 #[vl, vs] w fun e w' => ∃ v', e = .returned v' ∧ sl.Own w' w.heap.size w'.heap.size v' (dbW sizes word word.length) ∧ Below w.heap.size w w' := by
  have HCl := hid (br.ownL sizes vs Bs w hs hnil (by omega))
  obtain ⟨aol, capl, hvl⟩ := ints_slice hl
  have HL := hid hl
  have HOk := hid hok
  have HSm := hid hsm
  have HWs := hid (fun k => dbW_succ sizes word k)
  have HWl := hid (fun k hk => dbW_len sizes word hsm k hk)
  have HLl := hid (fun k hk => dbL_len sizes word hsm k hk)
  have HLn := hid (dbN_len sizes word)
  have HNs := hid (dbN_succ sizes word)
  have HNa := hid (fun k hk => (dbN_all (P := fun y => 0 ≤ y ∧ y ≤ 4) ⟨by omega, by omega⟩ sizes word hsm k hk : Sm (dbN sizes word k)))
  obtain ⟨n, hnn⟩ : ∃ n, n = word.length := ⟨_, rfl⟩
  have HN := hid hnn
  rw [← hnn] at hvl hn HLn HNs HNa HOk HWl HLl ⊢
  subst hvl
  clear hl hs hok hsm hnn
  go_enter Try.func67, Try.ntmps67
  go_wp2_with fail
  refine HCl.out.mono ?_
  rintro e W1 ⟨v1, rfl, o1, b1⟩
  obtain ⟨ao1, cap1, hv1⟩ := br.own_val o1
  have HO1 := hid o1
  have HB1 := hid b1
  have hz1' := b1.size
  obtain ⟨m, hmm⟩ : ∃ m, m = sizes.length := ⟨_, rfl⟩
  have HM := hid hmm
  rw [← hmm] at hv1 hm HLn HOk
  subst hv1
  clear o1 b1 hmm HCl
  have bX : Below W1.heap.size W1 (W1.alloc (.cells #[] 2)) := (Below.refl _ _).alloc (Nat.le_refl _) _
  have HXe := hid (Own.built W1 #[] rfl)
  have HXo := hid (HO1.out.chg (Chg.ofBelow (lo := 0) bX) (.inr (.inr (Nat.zero_le _))))
  have HXb := hid (HB1.out.trans (bX.mono hz1'))
  clear bX
  go_wp2
  go_loopw [6, 7] (fun v i wr => ∃ k : Nat, k ≤ n ∧ i = .int .i64 (k : Int) ∧ sl.Own wr W1.heap.size wr.heap.size v (dbW sizes word k) ∧ sl.Own wr w.heap.size W1.heap.size (.slice ao1 m cap1) (dbN sizes word k) ∧ Below w.heap.size w wr) (fun _ i _ => n - (intOf i).toNat)
  case atStart => exact ⟨0, Nat.zero_le _, rfl, by rw [dbW_zero]; exact HXe.out, by rw [dbN_zero]; exact HXo.out, HXb.out⟩
  case round =>
    obtain ⟨k, hk, rfl, hov, hob, hbr⟩ := hrel
    have HOv := hid hov
    have HBr := hid hbr
    have hzr := hbr.size
    have hzo := hob.2.2
    have HOb := hid hob
    clear hov hob hbr HXe HXo HXb
    by_cases hlt : k < n
    · rcases HL.out with ⟨hnil, _⟩ | ⟨hp, b, off, cap, hv, hb, hc⟩
      · exfalso
        have := HN.out
        rw [hnil] at this
        simp at this
        omega
      · simp only [Value.slice.injEq] at hv
        obtain ⟨rfl, hnw, rfl⟩ := hv
        have hcx := (HBr.out.cell (p := ⟨b, off + k, none⟩) (by show b < _; omega)).trans (hc k (by rw [← HN.out]; exact hlt))
        have hx := HOk.out k hlt
        obtain ⟨q, hq1, hq2, hq3⟩ := ab_place hx
        have hlen := HLn.out k (by omega)
        have HDb : Hid (dbL sizes word k = swO (sg (word.getD k 0)) (sumL ((dbN sizes word k).take q)) ((dbN sizes word k).getD q 0).toNat ((dbN sizes word k).getD (q + 1) 0).toNat) := hid (by unfold dbL; rw [hq3])
        have HDn : Hid (dbN sizes word (k + 1) = swapAt (dbN sizes word k) q) := hid (by rw [HNs.out k hlt, hq3])
        have HDl := hid (HLl.out k (by omega))
        have HDw := hid (HWl.out k (by omega))
        have HDa := hid (HNa.out k (by omega))
        generalize word.getD k 0 = x at *
        obtain ⟨now, hnow⟩ : ∃ l, l = dbN sizes word k := ⟨_, rfl⟩
        rw [← hnow] at HOb hlen HDb HDn HDa
        obtain ⟨g, cap', hv, hg1, hg2⟩ := own_slice HOb.out (by omega)
        simp only [Value.slice.injEq] at hv
        obtain ⟨rfl, hmn, rfl⟩ := hv
        have HAbs := hid (fun W => abs_at x q (by omega) hq1 W)
        have HSum := hid (fun j (hj : j < now.length) => sum_take now j hj)
        have HSb := hid (fun j => sm_sum now HDa.out j (by omega))
        have h1 := HDa.out q
        have h2 := HDa.out (q + 1)
        have HAt := hid (fun (W : World) (o : sl.Own W w.heap.size W1.heap.size (.slice (some ⟨g, 0, none⟩) m cap1) now) j (hj : j < now.length) => o.at' j hj)
        obtain ⟨ca, hca⟩ : ∃ a : Nat, now.getD q 0 = (a : Int) := Int.eq_ofNat_of_zero_le h1.1
        obtain ⟨cb, hcb⟩ : ∃ a : Nat, now.getD (q + 1) 0 = (a : Int) := Int.eq_ofNat_of_zero_le h2.1
        have HCa := hid hca
        have HCb := hid hcb
        rw [hca] at h1 HDb
        rw [hcb] at h2 HDb
        rw [Int.toNat_natCast, Int.toNat_natCast] at HDb
        have HSw := hid (fun W => specSwap (sg x) (sumL (now.take q)) ca cb W (sg_one x) (by have := HSb.out q; omega) (by omega) (by omega))
        rw [← HDb.out] at HSw
        have hx' : x ≠ 0 ∧ -12 ≤ x ∧ x ≤ 12 := ⟨hx.1, by omega, by omega⟩
        have HSs := hid (show x < 0 → sg x = -1 from fun h => by rw [sg, if_pos h])
        have HSp := hid (show ¬ x < 0 → sg x = 1 from fun h => by rw [sg, if_neg h])
        have HLen := hid hlen
        have HMn := hid hmn
        clear hc hp hb hx hq3 hlen hnw hnow hca hcb hmn HDb
        generalize sg x = sx at *
        go_wp2_with (go_at_call 77; refine (HAbs.out _).mono ?_; rintro e w9 ⟨rfl, rfl⟩)
        obtain ⟨W5, rfl⟩ : ∃ W, W = wr := ⟨_, rfl⟩
        have hnl : now.length = m := HLen.out
        go_loopw [9, 10] (fun p i wv => ∃ j : Nat, j ≤ q ∧ p = .int .i64 (sumL (now.take j)) ∧ i = .int .i64 (j : Int) ∧ wv = W5) (fun _ i _ => q - (intOf i).toNat)
        case atStart => exact ⟨0, Nat.zero_le _, rfl, rfl, rfl⟩
        case round =>
          obtain ⟨j, hj, rfl, rfl, hwv⟩ := hrel
          subst hwv
          by_cases hjq : j < q
          · have hcj := (HAt.out _ HOb.out j (by omega)).1
            have e := HSum.out j (by omega)
            have hb1 := HSb.out j
            have hb2 := HDa.out j
            have HE := hid e
            clear e
            generalize now.getD j 0 = y at *
            generalize sumL (now.take j) = sj at *
            go_wp2
            go_roundw
            case rel => exact ⟨j + 1, by omega, by rw [HE.out], by go_num, trivial⟩
            case measure => simp [intOf]; omega
          · obtain rfl : j = q := by omega
            have n0 := (HAt.out _ HOb.out j (by omega)).1
            have n1 := (HAt.out _ HOb.out (j + 1) (by omega)).1
            rw [HCa.out] at n0
            rw [HCb.out] at n1
            have hw1 : IntKind.i64.wrap ((j : Int) + 1 - 1) = (j : Int) := by rw [IntKind.wrap_i64]; omega
            have hjm : (j : Int) < (m : Int) := by omega
            have hjm1 : (j : Int) + 1 < (m : Int) := by omega
            have hjp : (0 : Int) ≤ (j : Int) := by omega
            have hjp1 : (0 : Int) ≤ (j : Int) + 1 := by omega
            have hjt : ((j : Int) + 1).toNat = j + 1 := by omega
            have hw2 : IntKind.i64.wrap (j : Int) = (j : Int) := IntWalk.i64_in _ (by omega)
            have hw3 : IntKind.i64.wrap ((j : Int) + 1) = (j : Int) + 1 := IntWalk.i64_in _ (by omega)
            generalize sumL (now.take j) = sj at *
            by_cases hx0 : x < 0
            · obtain rfl : sx = -1 := HSs.out hx0
              have hdx : decide (x < 0) = true := decide_eq_true hx0
              go_wp2_with fail
              go_region_law (first
                | (refine step_appendAll rfl _ _ rfl W1.heap.size wr.heap.size _ (dbW sizes word k) HO3.out rfl _ (dbL sizes word k) w3.heap.size HY3.out.ints (nilok_own HY3.out) rfl (by omega) (by have := HDl.out; have := HDw.out; omega) ?_; intro v4 w4 o4 c4; have HO4 := hid o4; have HN4 := hid (HN3.out.chg c4 (.inl (Nat.le_refl _))); have a0 := (HAt.out _ HN4.out j (by omega)).1; have a1 := (HAt.out _ HN4.out (j + 1) (by omega)).1; have a2 := (HAt.out _ HN4.out j (by omega)).2; have a3 := (HAt.out _ HN4.out (j + 1) (by omega)).2; rw [HCa.out] at a0; rw [HCb.out] at a1; have HB4 := hid (HB3.out.trans (c4.below (B := w.heap.size) hz1' (by omega))); have hz4 := c4.size; clear o4 c4)
                | (go_wp2_with (go_at_call 62; refine (HSw.out _).mono ?_; rintro e w3 ⟨v3, rfl, o3, b3⟩; have HY3 : Hid (sl.Own w3 wr.heap.size w3.heap.size v3 (dbL sizes word k)) := hid o3; have hz3 : wr.heap.size ≤ w3.heap.size := b3.size; have hc3 : Chg 0 0 wr w3 := ⟨b3.os, b3.tape, b3.output, b3.size, fun z hz _ => b3.block z hz⟩; have HO3 := hid (HOv.out.chg hc3 (.inr (.inr (Nat.le_refl _)))); have HN3 := hid (HOb.out.chg hc3 (.inr (.inr (Nat.le_refl _)))); have HB3 : Hid (Below w.heap.size w w3) := hid (HBr.out.drew.trans (b3.mono (by show w.heap.size ≤ wr.heap.size; omega))); clear o3 b3 hc3)))
              all_goals (try go_wp2)
              all_goals go_roundw
              all_goals first
                | (simp [intOf]; omega; done)
                | (have hsw := (swapWorld HN4.out j).1
                   rw [HCb.out, HCa.out] at hsw
                   refine ⟨k + 1, ?_, ?_, ?_, ?_, ?_⟩
                   · omega
                   · go_num
                   · have ho := own_other (own_other HO4.out g j (.int .i64 (cb : Int)) (.inl hg2)) g (j + 1) (.int .i64 (ca : Int)) (.inl hg2)
                     rw [HWs.out k]
                     simpa using ho
                   · rw [HDn.out]; exact hsw
                   · exact (HB4.out.setCell (p := ⟨g, j, none⟩) hg1 _).setCell (p := ⟨g, j + 1, none⟩) hg1 _)
            · obtain rfl : sx = 1 := HSp.out (by omega)
              have hdx : decide (x < 0) = false := decide_eq_false hx0
              go_wp2_with fail
              go_region_law (first
                | (refine step_appendAll rfl _ _ rfl W1.heap.size wr.heap.size _ (dbW sizes word k) HO3.out rfl _ (dbL sizes word k) w3.heap.size HY3.out.ints (nilok_own HY3.out) rfl (by omega) (by have := HDl.out; have := HDw.out; omega) ?_; intro v4 w4 o4 c4; have HO4 := hid o4; have HN4 := hid (HN3.out.chg c4 (.inl (Nat.le_refl _))); have a0 := (HAt.out _ HN4.out j (by omega)).1; have a1 := (HAt.out _ HN4.out (j + 1) (by omega)).1; have a2 := (HAt.out _ HN4.out j (by omega)).2; have a3 := (HAt.out _ HN4.out (j + 1) (by omega)).2; rw [HCa.out] at a0; rw [HCb.out] at a1; have HB4 := hid (HB3.out.trans (c4.below (B := w.heap.size) hz1' (by omega))); have hz4 := c4.size; clear o4 c4)
                | (go_wp2_with (go_at_call 62; refine (HSw.out _).mono ?_; rintro e w3 ⟨v3, rfl, o3, b3⟩; have HY3 : Hid (sl.Own w3 wr.heap.size w3.heap.size v3 (dbL sizes word k)) := hid o3; have hz3 : wr.heap.size ≤ w3.heap.size := b3.size; have hc3 : Chg 0 0 wr w3 := ⟨b3.os, b3.tape, b3.output, b3.size, fun z hz _ => b3.block z hz⟩; have HO3 := hid (HOv.out.chg hc3 (.inr (.inr (Nat.le_refl _)))); have HN3 := hid (HOb.out.chg hc3 (.inr (.inr (Nat.le_refl _)))); have HB3 : Hid (Below w.heap.size w w3) := hid (HBr.out.drew.trans (b3.mono (by show w.heap.size ≤ wr.heap.size; omega))); clear o3 b3 hc3)))
              all_goals (try go_wp2)
              all_goals go_roundw
              all_goals first
                | (simp [intOf]; omega; done)
                | (have hsw := (swapWorld HN4.out j).1
                   rw [HCb.out, HCa.out] at hsw
                   refine ⟨k + 1, ?_, ?_, ?_, ?_, ?_⟩
                   · omega
                   · go_num
                   · have ho := own_other (own_other HO4.out g j (.int .i64 (cb : Int)) (.inl hg2)) g (j + 1) (.int .i64 (ca : Int)) (.inl hg2)
                     rw [HWs.out k]
                     simpa using ho
                   · rw [HDn.out]; exact hsw
                   · exact (HB4.out.setCell (p := ⟨g, j, none⟩) hg1 _).setCell (p := ⟨g, j + 1, none⟩) hg1 _)
    · obtain rfl : k = n := by omega
      go_wp2
      go_ret
      exact ⟨_, rfl, HOv.out.lo (by omega), HBr.out⟩
end Go.Proofs.Ytedajefapddekaa.db
