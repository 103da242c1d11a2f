/-
  Colour charts in memory: contracts of the laws' helpers szColourChart, toColourChart, eqColourChart, markColourChart, heldColourChart.
-/
import Derived.Test.YtnmnikpgjglonaaNb
namespace Go.Proofs.Ytnmnikpgjglonaa.cu
open Go.RowKit Go.Proofs.Ytnmnikpgjglonaa.sl Go.Proofs.Ytnmnikpgjglonaa.br Go.Proofs.Ytnmnikpgjglonaa.ss Go.Proofs.Ytnmnikpgjglonaa.nb
set_option linter.unusedVariables false
set_option linter.unusedSimpArgs false

theorem szK (s : Int) (xs : List (List Int)) (f : Value) (B : Nat) (left : Int) (w : World) (ha : ss.Rows w B f xs) (hn : xs.length ≤ 9223372036854775807) (hs : Short xs 9223372036854775807) (h0 : 0 ≤ left) (h1 : left ≤ 1048576) :
    Calls Try.prog 10 #[.agg #[.int .i64 s, f], .int .i64 left] w fun e w' => e = .returned (.int .i64 (szR left xs)) ∧ Below w.heap.size w w' := by
  have HS := hid (fun w ha => szSS xs f B left w ha hn hs h0 h1)
  have HA := hid ha
  obtain ⟨ao, cap, hv⟩ := rows_val ha
  have hb := szR_pos (rows := xs) h0
  clear ha hs hn
  generalize szR left xs = q at *
  generalize xs.length = n at *
  subst hv
  have hal := hid ((Below.refl w.heap.size w).alloc (Nat.le_refl _) (.cells #[.int .i64 s, .slice ao n cap] 24))
  rcases hb with rfl | hb
  all_goals
    go_enter Try.func10, Try.ntmps10
    go_wp2_with fail
    refine (HS.out _ (HA.out.al _)).mono ?_
    rintro e w1 ⟨rfl, rfl⟩
    go_wp2
    go_ret
    exact ⟨rfl, hal.out⟩

theorem toK (s : Int) (xs : List (List Int)) (f : Value) (B : Nat) (w : World) (ha : ss.Rows w B f xs) (hB : B ≤ w.heap.size) (hq : nb.Small xs) :
    Calls Try.prog 12 #[.agg #[.int .i64 s, f]] w fun e w' => ∃ f', e = .returned (.agg #[.int .i64 s, f']) ∧ ROwn w' w.heap.size w'.heap.size f' xs ∧ Below w.heap.size w w' := by
  obtain ⟨ao, cap, hv⟩ := rows_val ha
  obtain ⟨n, hnn⟩ : ∃ n, n = xs.length := ⟨_, rfl⟩
  rw [← hnn] at hv
  subst hv
  have HN := hid hnn
  clear hnn
  have HA := hid ha
  clear ha
  go_enter Try.func12, Try.ntmps12
  go_wp2_with fail
  refine (toSS xs _ B _ (((HA.out.al _).al _).al _) (by simp; omega) hq.len hq.short).mono ?_
  rintro e w1 ⟨v', rfl, o1, b1⟩
  obtain ⟨hc, hf⟩ := bcell b1
  have hz := b1.size
  simp at hz
  obtain ⟨ao1, cap1, hv1⟩ := rown_val o1
  rw [← HN.out] at hv1
  subst hv1
  have O1 := hid o1
  have B1 := hid b1
  clear o1 b1
  go_wp2
  refine bodyPost_ret (v := .agg #[.int .i64 s, .slice ao1 n cap1]) (by simp [results, Try.results12, go_sem, hc]) rfl ⟨.slice ao1 n cap1, rfl, ?_, ?_⟩
  · have h1 := O1.out.lo (lo' := w.heap.size + 3) (by simp)
    have h2 := rown_other (rown_other (rown_other h1 (w.heap.size + 1 + 1) 1 (.slice ao1 n cap1) (by omega)) (w.heap.size + 1) 0 (.int .i64 s) (by omega)) (w.heap.size + 1) 1 (.slice ao1 n cap1) (by omega)
    have h3 := h2.lo (lo' := w.heap.size) (by omega)
    simpa using h3
  · have h1 := (((((Below.refl w.heap.size w).alloc (Nat.le_refl _) (.cells #[.int .i64 s, .slice ao n cap] 24)).alloc (by simp) (.cells #[.int .i64 0, .slice none 0 0] 27)).alloc (by simp; omega) (.cells #[.int .i64 s, .slice none 0 0] 27))).trans (B1.out.mono (by simp; omega))
    exact ((h1.setCell (by simp; omega) _).setCell (by simp) _).setCell (by simp) _

theorem eqKS (s : Int) (xs : List (List Int)) (f g : Value) (B C : Nat) (w : World) (ha : ss.Rows w B f xs) (hb : ss.Rows w C g xs) (hq : nb.Small xs) :
    Calls Try.prog 14 #[.agg #[.int .i64 s, f], .agg #[.int .i64 s, g]] w fun e w' => e = .returned (.bool true) ∧ Below w.heap.size w w' := by
  have HB : Hid (Below w.heap.size w ((w.alloc (.cells #[.int .i64 s, f] 27)).alloc (.cells #[.int .i64 s, g] 27))) := hid (((Below.refl w.heap.size w).alloc (Nat.le_refl _) _).alloc (by simp) _)
  have HE := hid (eqSSS xs f g B C _ ((ha.al (.cells #[.int .i64 s, f] 27)).al (.cells #[.int .i64 s, g] 27)) ((hb.al (.cells #[.int .i64 s, f] 27)).al (.cells #[.int .i64 s, g] 27)) hq.len hq.short)
  obtain ⟨ao, cap, hv⟩ := rows_val ha
  obtain ⟨ao', cap', hu⟩ := rows_val hb
  clear ha hb hq
  generalize xs.length = n at *
  subst hv hu
  go_enter Try.func14, Try.ntmps14
  go_wp2_with fail
  refine HE.out.mono ?_
  rintro e w1 ⟨rfl, b1⟩
  have HB1 := hid (HB.out.trans (b1.mono HB.out.size))
  clear b1
  go_wp2
  go_ret
  exact ⟨rfl, HB1.out⟩

theorem markKF (s : Int) (xs : List (List Int)) (f : Value) (lo hi : Nat) (k0 : Int) (w : World) (ho : ROwn w lo hi f xs) (hq : nb.Small xs) (ht : tot xs ≤ 1048576) (hk0 : 0 ≤ k0) (hk1 : k0 ≤ 1048576) :
    Calls Try.prog 22 #[.agg #[.int .i64 s, f], .int .i64 k0] w fun e w' => e = .returned (.int .i64 (k0 + (tot xs : Int))) ∧ ROwn w' lo hi f (marksR k0 xs) ∧ Chg lo hi w w' := by
  have hB := (Below.refl w.heap.size w).alloc (Nat.le_refl _) (.cells #[.int .i64 s, f] 27)
  have hC0 : Chg lo hi w (w.alloc (.cells #[.int .i64 s, f] 27)) := ⟨hB.os, hB.tape, hB.output, hB.size, fun k hk _ => hB.block k hk⟩
  have HM := hid (markSS xs f lo hi k0 _ (ho.chg (Chg.ofBelow (lo := 0) hB) (.inr (.inr (Nat.zero_le _)))) hq.len (by omega) hq.short hk0 (by omega))
  have HC0 := hid hC0
  obtain ⟨ao, cap, hv⟩ := rows_val ho.rows
  clear hB hC0 ho hq ht
  generalize tot xs = t at *
  generalize xs.length = n at *
  subst hv
  go_enter Try.func22, Try.ntmps22
  go_wp2_with fail
  refine HM.out.mono ?_
  rintro e w1 ⟨rfl, o1, c1⟩
  have HC := hid (HC0.out.trans c1)
  have HO := hid o1
  clear c1 o1
  go_wp2
  go_ret
  exact ⟨rfl, HO.out, HC.out⟩
theorem markK (s : Int) (xs : List (List Int)) (f : Value) (lo hi : Nat) (k0 : Int) (w : World) (ho : ROwn w lo hi f xs) (hq : nb.Small xs) (ht : tot xs ≤ 1048576) (hk0 : 0 ≤ k0) (hk1 : k0 ≤ 1048576) :
    Calls Try.prog 22 #[.agg #[.int .i64 s, f], .int .i64 k0] w fun e w' => ∃ k1 : Int, e = .returned (.int .i64 k1) ∧ 0 ≤ k1 ∧ Chg lo hi w w' :=
  (markKF s xs f lo hi k0 w ho hq ht hk0 hk1).mono fun _ _ h => ⟨_, h.1, by omega, h.2.2⟩

theorem heldK (s : Int) (xs : List (List Int)) (f : Value) (B : Nat) (k0 : Int) (w : World) (ha : ss.Rows w B f (marksR k0 xs)) (hq : nb.Small xs) (ht : tot xs ≤ 1048576) (hk0 : 0 ≤ k0) (hk1 : k0 ≤ 1048576) :
    Calls Try.prog 34 #[.agg #[.int .i64 s, f], .int .i64 k0] w fun e w' => e = .returned (.int .i64 (k0 + (tot xs : Int))) ∧ Below w.heap.size w w' := by
  have hB := (Below.refl w.heap.size w).alloc (Nat.le_refl _) (.cells #[.int .i64 s, f] 27)
  have HM := hid (heldSS xs f B k0 _ (ha.below hB) hq.len hq.short hk0 (by omega))
  have HB := hid hB
  obtain ⟨ao, cap, hv⟩ := rows_val ha
  rw [marksR_len] at hv
  have hkp : decide (k0 + (tot xs : Int) < 0) = false := by simp; omega
  clear hB ha hq ht
  generalize tot xs = t at *
  generalize xs.length = n at *
  subst hv
  go_enter Try.func34, Try.ntmps34
  go_wp2_with fail
  refine HM.out.mono ?_
  rintro e w1 ⟨rfl, rfl⟩
  go_wp2
  go_ret
  exact ⟨rfl, HB.out⟩
theorem kval {w : World} {lo hi : Nat} {v : Value} {xs : List (List Int)} (h : ROwn w lo hi v xs) : ∃ ao ln cp, v = .slice ao ln cp := by
  obtain ⟨ao, cp, hv⟩ := rown_val h
  exact ⟨ao, _, cp, hv⟩
end Go.Proofs.Ytnmnikpgjglonaa.cu
