/-
  ColumnAt of both sides.
-/
import Derived.Test.YtiacfejileeieaaHs2
namespace Go.Proofs.Ytiacfejileeieaa.hk
open Go.RowKit Go.Proofs.Ytiacfejileeieaa.sl Go.Proofs.Ytiacfejileeieaa.pm Go.Proofs.Ytiacfejileeieaa.br Go.Proofs.Ytiacfejileeieaa.bw Go.Proofs.Ytiacfejileeieaa.st
set_option linter.unusedVariables false
set_option maxRecDepth 100000
set_option maxHeartbeats 2000000

theorem i64_le {n : Int} (h : (Lit.int .i64 n).wf = true) : n ≤ 9223372036854775807 := by
  have h2 : IntKind.i64.max = 9223372036854775807 := by decide
  simp [Lit.wf, h2] at h; omega
theorem sum_pos {xs : List Int} (h2 : ∀ j, j < xs.length → 1 ≤ xs.getD j 0 ∧ xs.getD j 0 ≤ 4) (k : Nat) (hk : k ≤ xs.length) : 0 ≤ sumTo xs k := by
  have := sum_up h2 k 0 (by omega)
  rw [sumTo_zero, Nat.zero_add] at this
  exact this
theorem specCA (xs : List Int) (t : Int) (v : Value) (B : Nat) (w : World) (ha : Ints w B v xs) (hB : B ≤ w.heap.size) (hn : xs.length ≤ 1099511627776) (htm : t ≤ 9223372036854775807) :
    Calls Try.prog 28 #[v, .int .i64 t] w fun e w' => e = .returned (.tuple #[.int .i64 (colI xs t), .bool (colB xs t)]) ∧ Below w.heap.size w w' := by
  have HC := hid (specOk17 xs v B w ha hB hn)
  cases hs : szOk xs
  · obtain ⟨f1, f2⟩ := col_no (t := t) hs
    have HF := hid f1
    have HG := hid f2
    obtain ⟨ao, cap, hv⟩ := ints_val ha
    rw [hs] at HC
    clear hs ha f1 f2
    generalize xs.length = n at *
    subst hv
    go_enter Try.func28, Try.ntmps28
    go_wp2_with fail
    refine HC.out.mono ?_
    rintro e w1 ⟨rfl, rfl⟩
    go_wp2
    go_ret2
    exact ⟨by rw [HF.out, HG.out]; first | done | rfl, Below.refl _ _⟩
  · by_cases ht : t < 0
    · obtain ⟨f1, f2⟩ := col_neg (xs := xs) ht
      have HF := hid f1
      have HG := hid f2
      have hd : decide (t < 0) = true := decide_eq_true ht
      obtain ⟨ao, cap, hv⟩ := ints_val ha
      rw [hs] at HC
      clear hs ha f1 f2
      generalize xs.length = n at *
      subst hv
      go_enter Try.func28, Try.ntmps28
      go_wp2_with fail
      refine HC.out.mono ?_
      rintro e w1 ⟨rfl, rfl⟩
      go_wp2
      go_ret2
      exact ⟨by rw [HF.out, HG.out]; first | done | rfl, Below.refl _ _⟩
    · have hd : decide (t < 0) = false := decide_eq_false ht
      have HY := hid (fun k h1 h2 h3 => col_yes (t := t) hs (by omega) k h1 h2 h3)
      have HBg := hid (fun h => col_big (xs := xs) (t := t) h)
      have hp := szOk_parts hs
      have hbd := stks_all hp.2.1
      have HSm := hid (fun k h => sum_small hbd.1 hbd.2 k h)
      have HSp := hid (fun k h => sum_pos hbd.2 k h)
      have HEl := hid hbd.2
      have hp0 := hp.1
      have hl8 := hbd.1
      rw [hs] at HC
      clear hs hp hbd
      rcases ha with ⟨rfl, ao, cap, rfl⟩ | ⟨hpp, b, off, cap, rfl, hbb, hc⟩
      · simp at hp0
      · obtain ⟨n, hnn⟩ : ∃ n, n = xs.length := ⟨_, rfl⟩
        rw [← hnn] at hpp hc hn hp0 hl8 HSm HSp HEl HY
        have HN := hid hnn
        have HCc := hid hc
        clear hnn hc
        go_enter Try.func28, Try.ntmps28
        rw [← HN.out]
        go_wp2_with fail
        rw [HN.out]
        refine HC.out.mono ?_
        rintro e w1 ⟨rfl, rfl⟩
        rw [← HN.out]
        go_wp2
        go_loop [1, 6] (fun u i => ∃ k : Nat, k ≤ n ∧ i = .int .i64 k ∧ u = .int .i64 (t - sumTo xs k) ∧ Hid (∀ j, j < k → sumTo xs (j + 1) ≤ t)) (fun _ i => n - (intOf i).toNat)
        case atStart => exact ⟨0, Nat.zero_le _, rfl, by rw [sumTo_zero, Int.sub_zero], hid fun j hj => by omega⟩
        case round =>
          obtain ⟨k, hk, rfl, rfl, HL⟩ := hrel
          have hsm := HSm.out k hk
          have hsp := HSp.out k hk
          by_cases hlt : k < n
          · have h1 := HCc.out k hlt
            have hx := HEl.out k hlt
            have hsm2 := HSm.out (k + 1) hlt
            have hss := sumTo_succ xs k (by rw [← HN.out]; exact hlt)
            by_cases hq : t < sumTo xs (k + 1)
            · obtain ⟨f1, f2⟩ := HY.out k hlt hq HL.out
              have HF := hid f1
              have HG := hid f2
              have hq2 : decide (t - sumTo xs k < xs.getD k 0) = true := decide_eq_true (by omega)
              have hqn := hid hq
              clear f1 f2 hq
              generalize xs.getD k 0 = x at *
              generalize sumTo xs k = s at *
              generalize sumTo xs (k + 1) = s1 at *
              have HSS := hid hss
              clear hss hsm2
              go_wp2
              go_ret2
              exact ⟨by rw [HF.out, HG.out]; first | done | rfl, Below.refl _ _⟩
            · have HL2 : Hid (∀ j, j < k + 1 → sumTo xs (j + 1) ≤ t) := hid (fun j hj => by
                rcases Nat.lt_or_ge j k with h | h
                · exact HL.out j h
                · obtain rfl : j = k := by omega
                  omega)
              have hq2 : decide (t - sumTo xs k < xs.getD k 0) = false := decide_eq_false (by omega)
              have HSS := hid hss
              have HE : Hid (t - sumTo xs k - xs.getD k 0 = t - sumTo xs (k + 1)) := hid (by omega)
              clear hss hq hsm2
              generalize xs.getD k 0 = x at *
              obtain ⟨s, hs⟩ : ∃ s, s = sumTo xs k := ⟨_, rfl⟩
              rw [← hs] at hsm hsp hq2 HE ⊢
              clear hs
              go_wp2
              go_round
              case rel => exact ⟨k + 1, by omega, by go_num, by first | rw [← HE.out] | (rw [← HE.out]; go_num), HL2⟩
              case measure => simp [intOf]; omega
          · obtain rfl : k = n := by omega
            have hge : sumL xs ≤ t := by
              have := HL.out (k - 1) (by omega)
              rw [show k - 1 + 1 = k from by omega] at this
              rw [← sumTo_all, ← HN.out]
              exact this
            obtain ⟨f1, f2⟩ := HBg.out hge
            have HF := hid f1
            have HG := hid f2
            clear hge f1 f2
            generalize sumTo xs k = s at *
            go_wp2
            go_ret2
            exact ⟨by rw [HF.out, HG.out]; first | done | rfl, Below.refl _ _⟩

theorem implCA (xs : List Int) (t : Int) (v : Value) (B : Nat) (w : World) (ha : Ints w B v xs) (hB : B ≤ w.heap.size) (hn : xs.length ≤ 1099511627776) (htm : t ≤ 9223372036854775807) :
    Calls Try.prog 29 #[v, .int .i64 t] w fun e w' => e = .returned (.tuple #[.int .i64 (colI xs t), .bool (colB xs t)]) ∧ Below w.heap.size w w' := by
  have HC := hid (implVS xs v B w ha hB hn)
  have HA := hid ha
  cases hs : szOk xs
  · obtain ⟨f1, f2⟩ := col_no (t := t) hs
    have HF := hid f1
    have HG := hid f2
    obtain ⟨ao, cap, hv⟩ := ints_val ha
    rw [hs] at HC
    clear hs ha f1 f2 HA
    generalize xs.length = n at *
    subst hv
    go_enter Try.func29, Try.ntmps29
    go_wp2_with fail
    refine HC.out.mono ?_
    rintro e w1 ⟨rfl, b1⟩
    have B1 := hid b1
    clear b1
    go_wp2
    go_ret2
    exact ⟨by rw [HF.out, HG.out]; first | done | rfl, B1.out⟩
  · have hp := szOk_parts hs
    have hbd := stks_all hp.2.1
    have HS := hid (fun W (h : Ints W B v xs) => implSum4 xs v B W hp.2.1 h)
    have hb2 := sum_small hbd.1 hbd.2 xs.length (Nat.le_refl _)
    rw [sumTo_all] at hb2
    by_cases hr : 0 ≤ t ∧ t ≤ sumL xs - 1
    · have HW := hid (fun W => withinQ t 0 (sumL xs - 1) true (by simpa using hr) W)
      have HY := hid (fun k h1 h2 h3 => col_yes (t := t) hs hr.1 k h1 h2 h3)
      have HSm := hid (fun k h => sum_small hbd.1 hbd.2 k h)
      have HEl := hid hbd.2
      have hlst : t < sumTo xs xs.length := by rw [sumTo_all]; omega
      have hp0 := hp.1
      have hl8 := hbd.1
      rw [hs] at HC
      clear hs hp hbd hr
      rcases ha with ⟨rfl, ao, cap, rfl⟩ | ⟨hpp, b, off, cap, rfl, hbb, hc⟩
      · simp at hp0
      · obtain ⟨n, hnn⟩ : ∃ n, n = xs.length := ⟨_, rfl⟩
        rw [← hnn] at hpp hc hn hp0 hl8 HSm HEl HY hlst HC HS HA ⊢
        have HN := hid hnn
        have HCc := hid hc
        have HLt := hid hlst
        clear hnn hc hlst
        have HT := hid (rfl : sumL xs = sumL xs)
        generalize sumL xs = tot at HS HW hb2
        have h0 := HCc.out 0 (by omega)
        rw [Nat.add_zero] at h0
        go_enter Try.func29, Try.ntmps29
        go_wp2_with fail
        refine HC.out.mono ?_
        rintro e w1 ⟨rfl, b1⟩
        have B1 := hid b1
        have HA1 := hid (HA.out.chg (Chg.ofBelow (lo := 0) b1) (.inr (Nat.zero_le _)))
        have HC1 : Hid (∀ j, j < n → w1.cell? ⟨b, off + j, none⟩ = some (.int .i64 (xs.getD j 0))) := hid (fun j hj => (b1.cell (p := ⟨b, off + j, none⟩) (by show b < _; omega)).trans (HCc.out j hj))
        have k0 : w1.cell? ⟨b, off, none⟩ = some (.int .i64 (xs.getD 0 0)) := (b1.cell (p := ⟨b, off, none⟩) (by show b < _; omega)).trans h0
        clear b1 HCc h0
        go_wp2_with fail
        refine (HS.out _ HA1.out).mono ?_
        rintro e w2 ⟨rfl, rfl⟩
        go_wp2_with fail
        refine (HW.out _).mono ?_
        rintro e w2 ⟨rfl, rfl⟩
        have hx0 : sumTo xs 1 = xs.getD 0 0 := by rw [sumTo_succ xs 0 (by rw [← HN.out]; omega), sumTo_zero, Int.zero_add]
        have HX0 := hid hx0
        clear hx0
        obtain ⟨x0, hx0⟩ : ∃ x, x = xs.getD 0 0 := ⟨_, rfl⟩
        rw [← hx0] at k0 HX0
        clear hx0
        go_wp2
        go_loop [6, 7] (fun c u => ∃ k : Nat, k < n ∧ c = .int .i64 k ∧ u = .int .i64 (sumTo xs (k + 1)) ∧ Hid (∀ j, j < k → sumTo xs (j + 1) ≤ t)) (fun c _ => n - (intOf c).toNat)
        case atStart => exact ⟨0, by omega, rfl, by rw [HX0.out], hid fun j hj => by omega⟩
        case round =>
          obtain ⟨k, hlt, rfl, rfl, HL⟩ := hrel
          have hsm := HSm.out (k + 1) (by omega)
          by_cases hq : t < sumTo xs (k + 1)
          · obtain ⟨f1, f2⟩ := HY.out k hlt hq HL.out
            have HF := hid f1
            have HG := hid f2
            have hq2 : decide (sumTo xs (k + 1) ≤ t) = false := decide_eq_false (by omega)
            clear f1 f2 hq
            generalize sumTo xs (k + 1) = s at *
            go_wp2
            go_ret2
            exact ⟨by rw [HF.out, HG.out]; first | done | rfl, B1.out⟩
          · have hk1 : k + 1 < n := by
              rcases Nat.lt_or_ge (k + 1) n with h | h
              · exact h
              · exfalso
                have := HLt.out
                rw [show n = k + 1 from by omega] at this
                exact hq this
            have h1 := HC1.out (k + 1) hk1
            have hx := HEl.out (k + 1) hk1
            have hsm2 := HSm.out (k + 1 + 1) (by omega)
            have hss := sumTo_succ xs (k + 1) (by rw [← HN.out]; exact hk1)
            have HL2 : Hid (∀ j, j < k + 1 → sumTo xs (j + 1) ≤ t) := hid (fun j hj => by
              rcases Nat.lt_or_ge j k with h | h
              · exact HL.out j h
              · obtain rfl : j = k := by omega
                omega)
            have hq2 : decide (sumTo xs (k + 1) ≤ t) = true := decide_eq_true (by omega)
            have HSS := hid hss
            clear hss hq hsm2
            generalize xs.getD (k + 1) 0 = x at *
            obtain ⟨s, hs⟩ : ∃ s, s = sumTo xs (k + 1) := ⟨_, rfl⟩
            rw [← hs] at HSS hq2 hsm ⊢
            clear hs
            go_wp2
            go_round
            case rel => exact ⟨k + 1, hk1, by go_num, by rw [HSS.out], HL2⟩
            case measure => simp [intOf]; omega
    · have HW := hid (fun W => withinQ t 0 (sumL xs - 1) false (by simpa only [decide_eq_false_iff_not] using hr) W)
      have hno : colB xs t = false ∧ colI xs t = 0 := by
        by_cases h0 : t < 0
        · exact col_neg h0
        · exact col_big (by omega)
      obtain ⟨f1, f2⟩ := hno
      have HF := hid f1
      have HG := hid f2
      obtain ⟨ao, cap, hv⟩ := ints_val ha
      rw [hs] at HC
      have hl8 := hbd.1
      clear hs ha f1 f2 hp hbd hr
      generalize sumL xs = tot at *
      generalize xs.length = n at *
      subst hv
      go_enter Try.func29, Try.ntmps29
      go_wp2_with fail
      refine HC.out.mono ?_
      rintro e w1 ⟨rfl, b1⟩
      have HA1 := hid (HA.out.chg (Chg.ofBelow (lo := 0) b1) (.inr (Nat.zero_le _)))
      have B1 := hid b1
      clear b1
      go_wp2_with fail
      refine (HS.out _ HA1.out).mono ?_
      rintro e w2 ⟨rfl, rfl⟩
      go_wp2_with fail
      refine (HW.out _).mono ?_
      rintro e w2 ⟨rfl, rfl⟩
      go_wp2
      go_ret2
      exact ⟨by rw [HF.out, HG.out]; first | done | rfl, B1.out⟩
end Go.Proofs.Ytiacfejileeieaa.hk
