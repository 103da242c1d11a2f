/-
  impl.IsHandle.
-/
import Derived.Test.YtedajefapddekaaIh
import Derived.BigQuiet
namespace Go.Proofs.Ytedajefapddekaa.ih
open Go.RowKit Go.Proofs.Ytedajefapddekaa.sl Go.Proofs.Ytedajefapddekaa.pm Go.Proofs.Ytedajefapddekaa.bw Go.Proofs.Ytedajefapddekaa.br
set_option linter.unusedVariables false
attribute [local go_sem] undef

set_option maxRecDepth 100000 in
set_option maxHeartbeats 1600000 in
theorem implIsHandle (s : Int) (xs : List Int) (a c : Int) (v : Value) (B : Nat) (w : World) (ha : Ints w B v xs) (hB : B ≤ w.heap.size) (hn : xs.length ≤ 1099511627776) (hcp : ∀ ao n cap, v = .slice ao n cap → n ≤ cap ∧ cap ≤ 9223372036854775807) :
    Calls Try.prog 85 #[.agg #[.int .i64 s, v], .agg #[.int .i64 a, .int .i64 c]] w fun e w' => e = .returned (.bool (ihB s xs a c)) ∧ Below w.heap.size w w' := by
  have HB1 := hid ((Below.refl (w.heap.size + 1) (w.alloc (.cells #[.int .i64 s, v] 39))).alloc (by simp) (.cells #[.int .i64 a, .int .i64 c] 50))
  have HB0 := hid (((Below.refl w.heap.size w).alloc (Nat.le_refl _) (.cells #[.int .i64 s, v] 39)).trans (HB1.out.mono (by omega)))
  have HI := hid (ints_al (ints_al ha (.cells #[.int .i64 s, v] 39)) (.cells #[.int .i64 a, .int .i64 c] 50))
  have HI2 := hid HI.out
  have HV := hid (implValidB s xs v B _ HI.out (by simp; omega) hn)
  have HK : Hid (∀ W, Below (w.heap.size + 2) ((w.alloc (.cells #[.int .i64 s, v] 39)).alloc (.cells #[.int .i64 a, .int .i64 c] 50)) W →
      W.cell? ⟨w.heap.size, 0, none⟩ = some (.int .i64 s) ∧ W.cell? ⟨w.heap.size, 1, none⟩ = some v ∧ W.cell? ⟨w.heap.size + 1, 0, none⟩ = some (.int .i64 a) ∧ W.cell? ⟨w.heap.size + 1, 1, none⟩ = some (.int .i64 c)) := hid (fun W h =>
    ⟨(h.cell (p := ⟨w.heap.size, 0, none⟩) (by show w.heap.size < w.heap.size + 2; omega)).trans ((HB1.out.cell (p := ⟨w.heap.size, 0, none⟩) (by show w.heap.size < w.heap.size + 1; omega)).trans (World.cell?_alloc_at _ _ _ _ rfl)),
     (h.cell (p := ⟨w.heap.size, 1, none⟩) (by show w.heap.size < w.heap.size + 2; omega)).trans ((HB1.out.cell (p := ⟨w.heap.size, 1, none⟩) (by show w.heap.size < w.heap.size + 1; omega)).trans (World.cell?_alloc_at _ _ _ _ rfl)),
     (h.cell (p := ⟨w.heap.size + 1, 0, none⟩) (by show w.heap.size + 1 < w.heap.size + 2; omega)).trans (World.cell?_alloc_at _ _ _ _ (by simp)),
     (h.cell (p := ⟨w.heap.size + 1, 1, none⟩) (by show w.heap.size + 1 < w.heap.size + 2; omega)).trans (World.cell?_alloc_at _ _ _ _ (by simp))⟩)
  obtain ⟨ao, cap, hv⟩ := ints_val ha
  have HNo := hid (@ih_no s xs a c)
  have HYe := hid (@ih_yes s xs a c)
  have HH1 := hid (@hdB_1 xs a c)
  have HH2 := hid (@hdB_2 xs a c)
  have HH3 := hid (fun f t => @hdB_3 xs f t)
  have HSm := hid (@ok_small s xs)
  have hcap := hcp _ _ _ hv
  clear ha hcp
  obtain ⟨n, hnn⟩ : ∃ n, n = xs.length := ⟨_, rfl⟩
  rw [← hnn] at hv hn HH1 HH2 HH3 hcap
  have HN := hid hnn
  clear hnn
  subst hv
  cases hq : okB s xs
  · rw [hq] at HV
    rw [HNo.out hq]
    go_enter Try.func85, Try.ntmps85
    go_wp2_with (go_at_call 68; refine HV.out.mono ?_; rintro e w2 ⟨rfl, b2⟩; have HB2 := hid b2; clear b2)
    go_ret
    exact ⟨rfl, HB0.out.trans (HB2.out.mono (by simp; omega))⟩
  · rw [hq] at HV
    rw [HYe.out hq]
    by_cases c1 : a < 0
    · rw [HH1.out (by omega)]
      go_enter Try.func85, Try.ntmps85
      go_wp2_with (go_at_call 68; refine HV.out.mono ?_; rintro e w2 ⟨rfl, b2⟩; have HB2 := hid b2; obtain ⟨k0, k1, k2, k3⟩ := HK.out w2 (by simpa using b2); clear b2)
      go_ret
      exact ⟨rfl, HB0.out.trans (HB2.out.mono (by simp; omega))⟩
    · have c1' : decide (a < 0) = false := decide_eq_false c1
      by_cases c2 : c ≤ a
      · rw [HH2.out (by omega)]
        have c2' : a ≥ c := c2
        go_enter Try.func85, Try.ntmps85
        go_wp2_with (go_at_call 68; refine HV.out.mono ?_; rintro e w2 ⟨rfl, b2⟩; have HB2 := hid b2; obtain ⟨k0, k1, k2, k3⟩ := HK.out w2 (by simpa using b2); clear b2)
        go_ret
        exact ⟨rfl, HB0.out.trans (HB2.out.mono (by simp; omega))⟩
      · have c2' : decide (c ≤ a) = false := decide_eq_false c2
        by_cases c3 : (n : Int) ≤ c
        · rw [HH2.out (by omega)]
          go_enter Try.func85, Try.ntmps85
          go_wp2_with (go_at_call 68; refine HV.out.mono ?_; rintro e w2 ⟨rfl, b2⟩; have HB2 := hid b2; obtain ⟨k0, k1, k2, k3⟩ := HK.out w2 (by simpa using b2); clear b2)
          go_ret
          exact ⟨rfl, HB0.out.trans (HB2.out.mono (by simp; omega))⟩
        · have c3' : decide ((n : Int) ≤ c) = false := decide_eq_false c3
          obtain ⟨f, rfl⟩ := Int.eq_ofNat_of_zero_le (show 0 ≤ a by omega)
          obtain ⟨t, rfl⟩ := Int.eq_ofNat_of_zero_le (show 0 ≤ c by omega)
          have hft : f < t := by omega
          have htn : t < n := by omega
          rw [HH3.out f t hft (by omega)]
          have hsm := HSm.out hq
          rcases HI2.out with ⟨h0, _⟩ | ⟨hp, b, off, cap', hv', hb, hc⟩
          · rw [h0] at HN; have := HN.out; simp at this; omega
          rw [← HN.out] at hv' hc hp
          simp only [Value.slice.injEq] at hv'
          obtain ⟨rfl, _, rfl⟩ := hv'
          have hxf := hc f (by omega)
          have hxt := hc t htn
          have hrf := hsm f (by rw [← HN.out]; omega)
          have hrt := hsm t (by rw [← HN.out]; omega)
          have HG := hid (implGen _ hrf)
          have HOY : Hid (xs.getD f 0 = -(xs.getD t 0) → hdN xs f t = !((mid xs f t).any (isEnd (ab (xs.getD f 0))))) := hid (fun h => by
            rw [hd_yes h, show ab (xs.getD t 0) = ab (xs.getD f 0) from by unfold ab; split <;> split <;> omega])
          have HON := hid (fun h => @hd_opp xs f t h)
          have hwf : IntKind.i64.wrap ((f : Int) + 1) = (f : Int) + 1 := IntWalk.i64_in _ (by omega)
          have HCc := hid hc
          have HJ : Hid (0 ≤ ab (xs.getD f 0) ∧ ab (xs.getD f 0) ≤ 100) := hid (by unfold ab; split <;> omega)
          generalize hxy : xs.getD f 0 = x at *
          generalize hj : ab x = j at *
          clear HNo HYe HH1 HH2 HH3 HSm hc hj
          go_enter Try.func85, Try.ntmps85
          go_wp2_with (first | (go_at_call 68; refine HV.out.mono ?_; rintro e w2 ⟨rfl, b2⟩; have HB2 := hid b2; obtain ⟨k0, k1, k2, k3⟩ := HK.out w2 (by simpa using b2); have k4 := (b2.cell (p := ⟨b, off + f, none⟩) (by show b < _; simp; omega)).trans hxf; have k5 := (b2.cell (p := ⟨b, off + t, none⟩) (by show b < _; simp; omega)).trans hxt; clear b2) | (go_at_call 108; refine (HG.out _).mono ?_; rintro e w' ⟨rfl, rfl⟩))
          have hb2 : b < w2.heap.size := by have := HB2.out.size; simp at this; omega
          have HW5 := hid ((Below.refl w2.heap.size w2).alloc (Nat.le_refl _) (.cells #[.int .i64 j] 2))
          have m0 := (HW5.out.cell (p := ⟨w.heap.size, 1, none⟩) (by have := HB2.out.size; simp at this; show w.heap.size < _; omega)).trans k1
          have m2 := (HW5.out.cell (p := ⟨w.heap.size + 1, 0, none⟩) (by have := HB2.out.size; simp at this; show w.heap.size + 1 < _; omega)).trans k2
          have m3 := (HW5.out.cell (p := ⟨w.heap.size + 1, 1, none⟩) (by have := HB2.out.size; simp at this; show w.heap.size + 1 < _; omega)).trans k3
          have m4 := (HW5.out.cell (p := ⟨b, off + f, none⟩) hb2).trans k4
          have m5 := (HW5.out.cell (p := ⟨b, off + t, none⟩) hb2).trans k5
          have hJc : (w2.alloc (.cells #[.int .i64 j] 2)).cell? ⟨w2.heap.size, 0, none⟩ = some (.int .i64 j) := World.cell?_alloc_at _ _ _ _ rfl
          have hcs : ∀ i, i < n → (w2.alloc (.cells #[.int .i64 j] 2)).cell? ⟨b, off + i, none⟩ = some (.int .i64 (xs.getD i 0)) := fun i hi => (HW5.out.cell (p := ⟨b, off + i, none⟩) hb2).trans ((HB2.out.cell (p := ⟨b, off + i, none⟩) (by show b < _; simp; omega)).trans (HCc.out i hi))
          have HBW : Hid (Below w.heap.size w (w2.alloc (.cells #[.int .i64 j] 2))) := hid ((HB0.out.trans (HB2.out.mono (by simp; omega))).trans (HW5.out.mono (by have := HB2.out.size; simp at this; omega)))
          generalize w2.alloc (.cells #[.int .i64 j] 2) = W5 at *
          have hml : (mid xs f t).length = t - (f + 1) := by rw [mid, List.length_take, List.length_drop, ← HN.out]; omega
          have hmg : ∀ k, k < t - (f + 1) → (mid xs f t).getD k 0 = xs.getD (f + 1 + k) 0 := fun k hk => by simp only [List.getD]; rw [mid_at xs f t k (by omega)]
          have hmi : Ints W5 (b + 1) (.slice (some ⟨b, off + (f + 1), none⟩) (t - (f + 1)) (cap - (f + 1))) (mid xs f t) := by
            by_cases he : t = f + 1
            · refine .inl ⟨List.length_eq_zero_iff.1 (by rw [hml]; omega), _, _, by rw [show t - (f + 1) = 0 by omega]⟩
            · refine .inr ⟨by rw [hml]; omega, b, off + (f + 1), _, by rw [hml], by omega, fun i hi => ?_⟩
              rw [hml] at hi
              rw [hmg i hi, Nat.add_assoc]
              exact hcs _ (by omega)
          have HC : Hid (∀ q, Calls Try.prog 102 #[.slice (some ⟨b, off + (f + 1), none⟩) (t - (f + 1)) (cap - (f + 1)), .func (.func 117) #[] #[.pointer (some ⟨w2.heap.size, 0, none⟩)]] (W5.drewN q) fun e w' => e = .returned (.bool ((mid xs f t).any (isEnd j))) ∧ ∃ m, w' = W5.drewN m) := hid (fun q =>
            (contFuncD (isEnd j) 117 (.pointer (some ⟨w2.heap.size, 0, none⟩)) (mid xs f t) _ (b + 1) (W5.drewN q) hmi (by rw [hml]; omega) (enters_of Try.func117 (by kernel_rfl) rfl) (fun k hk q' => by
              rw [hml] at hk
              rw [hmg k hk]
              exact endsD w2.heap.size j _ HJ.out (hsm _ (by rw [← HN.out]; omega)) (W5.drewN q) q' hJc)).mono (fun _ _ h => ⟨h.1, by obtain ⟨m, hm⟩ := h.2; exact ⟨q + m, by rw [hm, drewN_add]⟩⟩))
          have hcne : ¬ cap = f + 1 := by omega
          clear hmi hml hmg hcs hJc HCc HK HI HI2 HV HG k0 k1 k2 k3 k4 k5 HW5 HB1 HB0 hxf hxt hsm hb2
          generalize xs.getD t 0 = y at *
          by_cases he : x = -y
          · have HO := hid (fun W => opp x y hrt true (by simpa using he) W)
            have HY := hid (HOY.out he)
            clear he HOY HON
            generalize (mid xs f t).any (isEnd j) = r at *
            cases r
            all_goals
              refine wp_region_quiet_lit (by kernel_rfl) (by kernel_rfl) ?_
              repeat (any_goals (first | go_big_quiet_step (first | (go_at_call 115; exact Calls.quiet_of_same (HO.out _)) | (go_at_call 102; exact HC.out _)) | quiet_step (first | (go_at_call 115; exact Calls.quiet_of_same (HO.out _)) | (go_at_call 102; exact HC.out _))))
              all_goals (refine wpQuiet_nil ?_; intro _ hw'; obtain ⟨nq, hw''⟩ := hw'; subst hw'')
              go_wp2
              go_ret
              exact ⟨by rw [HY.out]; rfl, bdrewN HBW.out _⟩
          · have HO := hid (fun W => opp x y hrt false (by simpa using he) W)
            have HY := hid (HON.out he)
            clear he HOY HON
            go_quiet ((go_at_call 115; exact Calls.quiet_of_same (HO.out _)))
            go_wp2
            go_ret
            exact ⟨by rw [HY.out]; rfl, bdrewN HBW.out _⟩
end Go.Proofs.Ytedajefapddekaa.ih
