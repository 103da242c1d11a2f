/-
  IsAction of the model.
-/
import Derived.Test.YtkpilmcaeemfmaaIm
namespace Go.Proofs.Ytkpilmcaeemfmaa.ia
open Go.RowKit Go.Proofs.Ytkpilmcaeemfmaa.sl Go.Proofs.Ytkpilmcaeemfmaa.pm Go.Proofs.Ytkpilmcaeemfmaa.bw Go.Proofs.Ytkpilmcaeemfmaa.br Go.Proofs.Ytkpilmcaeemfmaa.fv Go.Proofs.Ytkpilmcaeemfmaa.fn Go.Proofs.Ytkpilmcaeemfmaa.fr Go.Proofs.Ytkpilmcaeemfmaa.ss Go.Proofs.Ytkpilmcaeemfmaa.ai Go.Proofs.Ytkpilmcaeemfmaa.ao Go.Proofs.Ytkpilmcaeemfmaa.pv
set_option linter.unusedVariables false

set_option maxRecDepth 100000 in
set_option maxHeartbeats 1600000 in
theorem specIA (rows : List (List Int)) (v : Value) (B : Nat) (w : World) (ha : RowsC w B v rows) (hB : B ≤ w.heap.size) (hq : SmallR rows) :
    Calls Try.prog 28 #[v] w fun e w' => e = .returned (.bool (isB rows)) ∧ Below w.heap.size w w' := by
  have HV := hid (specImages rows v B w ha.rows hq.len hq.short)
  obtain ⟨ao, cap, hv⟩ := rows_val ha.rows
  cases him : imB rows
  · rw [him] at HV
    have HF := hid (is_ap (ap_im him))
    subst hv
    clear ha hq him
    generalize rows.length = n at *
    go_enter Try.func28, Try.ntmps28
    go_wp2_with fail
    refine HV.out.mono ?_
    rintro e w1 ⟨rfl, rfl⟩
    go_wp2
    go_ret
    exact ⟨by rw [HF.out]; rfl, Below.refl _ _⟩
  · rw [him] at HV
    have h12 := im_small him
    have HIm := hid (fun k hk => im_rows him k hk)
    have HFb := hid (flat_bound him)
    have HTl := hid (take_flat_len rows)
    have HSn := hid (fun k hk => red_snoc_rows rows k hk)
    have HRow := hid (fun k hk h => @is_row rows k hk h)
    have HRows := hid (@is_rows rows)
    have HAp := hid (@is_ap rows)
    have HLast := hid (fun h1 h2 => @is_last rows h1 h2)
    have HPlc := hid (fun (W : World) (hW : Below w.heap.size w W) => specPlaces rows v B W (ha.rows.chg (Chg.ofBelow (lo := 0) hW) (.inr (Nat.zero_le _))) (Nat.le_trans hB hW.size) hq him)
    have HRw := hid ha.rows
    obtain ⟨n, hnn⟩ : ∃ n, n = rows.length := ⟨_, rfl⟩
    rw [← hnn] at hv h12 HIm HSn HRow HRows HLast
    have HN := hid hnn
    subst hv
    clear ha hq him hnn
    go_enter Try.func28, Try.ntmps28
    go_wp2_with fail
    refine HV.out.mono ?_
    rintro e w1 ⟨rfl, rfl⟩
    clear HV
    go_wp2
    go_loopw [3, 4] (fun u i wr => ∃ k : Nat, k ≤ n ∧ i = .int .i64 k ∧ sl.Own wr w.heap.size wr.heap.size u (redL ((rows.take k).flatten)) ∧ Below w.heap.size w wr ∧ ∀ j, j < k → sameB (redL (rows.getD j [])) (rows.getD j []) = true)
      (fun _ i _ => n - (intOf i).toNat)
    case atStart => exact ⟨0, Nat.zero_le _, rfl, by rw [List.take_zero]; exact sl.Own.built w _ rfl, (Below.refl _ _).alloc (Nat.le_refl _) _, fun j hj => by omega⟩
    case round =>
      obtain ⟨k, hk, rfl, hown, hbel, hone⟩ := hrel
      have HO := hid hown
      have HB := hid hbel
      have HOn := hid hone
      have hsz := hbel.size
      obtain ⟨ao2, cp2, hv2⟩ := br.own_val hown
      have hl2 := HTl.out k
      have hfb := HFb.out
      clear hown hbel hone
      by_cases hlt : k < n
      · have hx : ∃ b off x, ao = some ⟨b, off, none⟩ ∧ wr.cell? ⟨b, off + k, none⟩ = some x ∧ b < B ∧ Ints wr B x (rows.getD k []) := by
          rcases HRw.out with ⟨h, _⟩ | ⟨_, b, off, c, V, he, hb, hc⟩
          · have := HN.out; rw [h] at this; simp at this; omega
          · simp only [Value.slice.injEq] at he
            have h1 := hc k (by rw [← HN.out]; exact hlt)
            exact ⟨b, off, V k, he.1, (HB.out.cell (p := ⟨b, off + k, none⟩) (by show b < _; omega)).trans h1.1, hb, h1.2.chg (Chg.ofBelow (lo := 0) HB.out) (.inr (Nat.zero_le _))⟩
        obtain ⟨b, off, x, rfl, hx1, hbB, hx2⟩ := hx
        have HX2 := hid hx2
        have him := HIm.out k hlt
        have HR := hid (fun (W : World) (hW : Below wr.heap.size wr W) => specRedL (rows.getD k []) x B W (hx2.chg (Chg.ofBelow (lo := 0) hW) (.inr (Nat.zero_le _))) (Nat.le_trans (by omega) hW.size) (by omega) him.2)
        have HSn1 := hid (HSn.out k hlt)
        have HRow1 := hid (HRow.out k hlt)
        have hrl := redL_len (rows.getD k [])
        obtain ⟨q, hq⟩ : ∃ q, q = sameB (redL (rows.getD k [])) (rows.getD k []) := ⟨_, rfl⟩
        have HQ := hid hq
        have HSm := hid (fun (u : Value) (C : Nat) (W : World) (i1 : Ints W C u (redL (rows.getD k []))) (i2 : Ints W B x (rows.getD k [])) => nb.sameQ (redL (rows.getD k [])) (rows.getD k []) u x C B W i1 i2 (by omega) (by omega))
        rw [← hq] at HSm
        have HPs := hid (fun (W : World) (hW : Below wr.heap.size wr W) => specPush (redL ((rows.take k).flatten)) (rows.getD k []) (.slice ao2 (redL ((rows.take k).flatten)).length cp2) x w.heap.size B W (by rw [← hv2]; exact (HO.out.chg (Chg.ofBelow (lo := 0) hW) (.inr (.inr (Nat.zero_le _)))).hi hW.size (Nat.le_refl _)) (Nat.le_trans hsz hW.size) (hx2.chg (Chg.ofBelow (lo := 0) hW) (.inr (Nat.zero_le _))) (by omega) (by omega) (by omega) him.2)
        clear hx2 him hq
        have hcW : ∀ W : World, Below wr.heap.size wr W → W.cell? ⟨b, off + k, none⟩ = some x := fun W hW => (hW.cell (p := ⟨b, off + k, none⟩) (by show b < _; omega)).trans hx1
        have HCW := hid hcW
        clear hcW
        generalize hll : (redL ((rows.take k).flatten)).length = l2 at *
        clear hll
        subst hv2
        cases q
        · have HF := hid (HRow1.out HQ.out.symm)
          go_wp2_with fail
          go_region_with (first
            | (go_at_call 80
               refine (HR.out _ (bdrewN (Below.refl _ _) _)).mono ?_
               rintro e w3 ⟨v3, rfl, o3, b3⟩
               have HO3 := hid o3
               have HB3 : Hid (Below wr.heap.size wr w3) := hid ((bdrewN (Below.refl _ _) _).trans b3)
               have hx3 := HCW.out w3 HB3.out
               have HX3 := hid (HX2.out.chg (Chg.ofBelow (lo := 0) HB3.out) (.inr (Nat.zero_le _)))
               clear o3 b3)
            | (go_at_call 79
               refine (HSm.out v3 _ w3 HO3.out.ints HX3.out).mono ?_
               rintro e w4 ⟨rfl, m4, rfl⟩))
          all_goals
            go_wp2
            go_ret
            exact ⟨by rw [HF.out]; rfl, bdrewN (HB.out.trans (HB3.out.mono hsz)) m4⟩
        · go_wp2_with fail
          go_region_with (first
            | (go_at_call 80
               refine (HR.out _ (bdrewN (Below.refl _ _) _)).mono ?_
               rintro e w3 ⟨v3, rfl, o3, b3⟩
               have HO3 := hid o3
               have HB3 : Hid (Below wr.heap.size wr w3) := hid ((bdrewN (Below.refl _ _) _).trans b3)
               have hx3 := HCW.out w3 HB3.out
               have HX3 := hid (HX2.out.chg (Chg.ofBelow (lo := 0) HB3.out) (.inr (Nat.zero_le _)))
               clear o3 b3)
            | (go_at_call 79
               refine (HSm.out v3 _ w3 HO3.out.ints HX3.out).mono ?_
               rintro e w4 ⟨rfl, m4, rfl⟩))
          all_goals
            have HB4 : Hid (Below wr.heap.size wr (w3.drewN m4)) := hid (bdrewN HB3.out m4)
            have hx4 := HCW.out _ HB4.out
            have HP4 := hid (HPs.out _ HB4.out)
            generalize w3.drewN m4 = w4 at *
            clear HO3 HX3 hx3
            go_wp2_with (go_at_call 81; refine HP4.out.mono ?_; rintro e w5 ⟨v5, rfl, o5, b5⟩; have HO5 := hid o5; have HB5 := hid ((HB.out.trans (HB4.out.mono hsz)).trans b5); clear o5 b5)
            go_roundw
            case rel => exact ⟨k + 1, by omega, by go_num, by rw [HSn1.out]; exact HO5.out, HB5.out, fun j hj => by
              rcases Nat.lt_or_ge j k with h | h
              · exact HOn.out j h
              · obtain rfl : j = k := by omega
                exact HQ.out.symm⟩
            case measure => simp [intOf]; omega
      · obtain rfl : k = n := by omega
        have hall : (rows.take k).flatten = rows.flatten := by rw [HN.out, List.take_length]
        rw [hall] at HO hv2 hl2
        have HSh := hid (HRows.out HOn.out)
        have HPl := hid (HPlc.out wr HB.out)
        clear hall HTl HSn HRow HRows HIm HOn HPlc HRw
        cases hap : apB rows
        · rw [hap] at HPl
          have HF := hid (HAp.out hap)
          clear hap hl2
          generalize (redL rows.flatten).length = l2 at *
          subst hv2
          generalize apL rows = l at *
          go_wp2_with fail
          refine HPl.out.mono ?_
          rintro e w5 ⟨v5, rfl, o5, b5⟩
          have HB5 := hid (HB.out.trans (b5.mono hsz))
          clear o5 b5
          go_wp2
          go_ret
          exact ⟨by rw [HF.out]; rfl, HB5.out⟩
        · rw [hap] at HPl
          have HF := hid (HLast.out hap HSh.out)
          clear hap HLast HAp
          generalize apL rows = l at *
          generalize hz : redL rows.flatten = zs at *
          clear hz
          have HNo := hid (fun h => @last_no zs k h)
          have HBad := hid (fun j h h2 => @last_bad zs k j h h2)
          have HYes := hid (fun h h2 => @last_yes zs k h h2)
          obtain ⟨m, hm⟩ : ∃ m, m = zs.length := ⟨_, rfl⟩
          rw [← hm] at hv2 hl2
          have HM := hid hm
          clear hm
          subst hv2
          by_cases hmk : m = k
          · subst hmk
            go_wp2_with fail
            refine HPl.out.mono ?_
            rintro e w5 ⟨v5, rfl, o5, b5⟩
            have HB5 := hid (HB.out.trans (b5.mono hsz))
            have HO5 := hid (HO.out.chg (Chg.ofBelow (lo := 0) b5) (.inr (.inr (Nat.zero_le _))))
            have hz5 := b5.size
            clear o5 b5 HPl HO
            go_wp2
            go_loop [7] (fun i => ∃ j : Nat, j ≤ m ∧ i = .int .i64 j ∧ ∀ t, t < j → zs.getD t 0 = (t : Int) + 1) (fun i => m - (intOf i).toNat)
            case atStart => exact ⟨0, Nat.zero_le _, rfl, fun t ht => by omega⟩
            case round =>
              obtain ⟨j, hj, rfl, hg⟩ := hrel
              have HG := hid hg
              clear hg
              by_cases hjl : j < m
              · have hxx : ∃ g, ao2 = some ⟨g, 0, none⟩ ∧ w5.cell? ⟨g, j, none⟩ = some (.int .i64 (zs.getD j 0)) := by
                  rcases HO5.out.1.2 with ⟨h, h2⟩ | ⟨g, c, cur, h, _⟩
                  · have := HM.out; omega
                  · simp only [Value.slice.injEq] at h
                    have hh := HO5.out
                    rw [h.1] at hh
                    exact ⟨g, h.1, (hh.at' j (by rw [← HM.out]; exact hjl)).1⟩
                obtain ⟨g, rfl, hc5⟩ := hxx
                have hw1 : IntKind.i64.wrap ((j : Int) + 1) = (j : Int) + 1 := IntWalk.i64_in _ (by omega)
                have HBj := hid (HBad.out j hjl)
                generalize hy : zs.getD j 0 = y at *
                have HY := hid hy
                clear hy
                by_cases hyj : y = (j : Int) + 1
                · subst hyj
                  go_wp2
                  go_round
                  case rel => exact ⟨j + 1, by omega, by go_num, fun t ht => by
                    rcases Nat.lt_or_ge t j with h | h
                    · exact HG.out t h
                    · obtain rfl : t = j := by omega
                      exact HY.out⟩
                  case measure => simp [intOf]; omega
                · have HFF := hid (HBj.out hyj)
                  have hb1 : (y == (j : Int) + 1) = false := by simpa using hyj
                  have hb2 : (y != (j : Int) + 1) = true := by simpa using hyj
                  clear hyj
                  go_wp2
                  go_ret
                  exact ⟨by rw [HF.out, HFF.out]; rfl, HB5.out⟩
              · obtain rfl : j = m := by omega
                have HFF := hid (HYes.out HM.out.symm HG.out)
                go_wp2
                go_ret
                exact ⟨by rw [HF.out, HFF.out]; rfl, HB5.out⟩
          · have HFF := hid (HNo.out (by rw [← HM.out]; exact hmk))
            have hb1 : ((m : Int) == (k : Int)) = false := by simp; omega
            have hb2 : ((m : Int) != (k : Int)) = true := by simp; omega
            clear hmk
            go_wp2_with fail
            refine HPl.out.mono ?_
            rintro e w5 ⟨v5, rfl, o5, b5⟩
            have HB5 := hid (HB.out.trans (b5.mono hsz))
            clear o5 b5
            go_wp2
            go_ret
            exact ⟨by rw [HF.out, HFF.out]; rfl, HB5.out⟩
end Go.Proofs.Ytkpilmcaeemfmaa.ia
