/-
  Contracts of MirrorBraid, of the program and of its model.
-/
import Derived.Test.YtedajefapddekaaRd
import Derived.Deep.QuietTactic
import Derived.BigQuiet
import Derived.IntWalk
namespace Go.Proofs.Ytedajefapddekaa.br
open Go.RowKit Go.Proofs.Ytedajefapddekaa.sl Go.Proofs.Ytedajefapddekaa.pm Go.Proofs.Ytedajefapddekaa.bw Go.Proofs.Ytedajefapddekaa.fn

theorem mapped1 (f : Int → Int) (g : Nat) (bd : Value) (s : Int) (xs : List Int) (v : Value) (B : Nat) (w : World) (ha : Ints w B v xs) (hB : B ≤ w.heap.size) (hn : xs.length ≤ 1099511627776)
    (eg : ∀ args w, (callFunc g args).run Try.prog w = .ok (.enter g args) w) (hf : ∀ j, j < xs.length → ∀ W : World, Calls Try.prog g #[bd, .int .i64 (xs.getD j 0)] W fun e w' => e = .returned (.int .i64 (f (xs.getD j 0))) ∧ Below W.heap.size W w') :
    Calls Try.prog 133 #[.agg #[.int .i64 s, v], .func (.func g) #[bd] #[]] w fun e w' => ∃ ao cap, e = .returned (.agg #[.int .i64 s, .slice ao xs.length cap]) ∧ Own w' w.heap.size w'.heap.size (.slice ao xs.length cap) (xs.map f) ∧ Below w.heap.size w w' := by
  obtain ⟨i0, hi, hz0, hz1, hz2⟩ := info_parts info64
  obtain ⟨ao, cap, hv⟩ := ints_val ha
  obtain ⟨n, hnn⟩ : ∃ n, n = xs.length := ⟨_, rfl⟩
  rw [← hnn] at hv hn
  subst hv
  have HN := hid hnn
  have HA := hid ha
  have HF := hid hf
  clear ha hnn hf
  rw [← HN.out]
  obtain ⟨ys, hys⟩ : ∃ ys, ys = xs.map f := ⟨_, rfl⟩
  rw [← hys]
  have HY := hid hys
  clear hys
  go_enter Try.func133, Try.ntmps133
  go_wp2_with (at_make; refine wpList_make_full _ rfl (.tmp 10) (.tmp 10) 30 rfl (w.heap.size + 2) 2 i0 (.int .i64 0) 1 Try.underlying30 hi hz0 hz1 .i64 .i64 _ _ n rfl rfl (by omega) (by omega) (by rw [hz2]; omega) (by unfold maxLen; omega) (by simp) ?_; intro w1 hown1 hgrow1; have HO1 : Hid (Own w1 (w.heap.size + 2) w1.heap.size (.slice (some ⟨w.heap.size + 1 + 1, 0, none⟩) n n) (List.replicate n 0)) := hid (made_own' (by simpa using hown1)); have hb2 := box2 (below_grown hgrow1); have d0 := hb2.1 0; have d1 := hb2.1 1; have e0 := (hb2.2.1 0).1; have e1 := (hb2.2.1 1).1; have g0 := (hb2.2.1 0).2; have g1 := (hb2.2.1 1).2; have hz3 := hb2.2.2.2; have HB1 := hid hb2.2.2.1; have HZ := hid (below_grown hgrow1); clear hown1 hgrow1 hb2; simp at d0 d1 e0 e1)
  go_loopw [15] (fun i wr => ∃ k : Nat, k ≤ n ∧ i = .int .i64 k ∧ Own wr (w.heap.size + 2) wr.heap.size (.slice (some ⟨w.heap.size + 1 + 1, 0, none⟩) n n) (mapP f xs k) ∧ Below (w.heap.size + 2) w1 wr)
    (fun i _ => n - (intOf i).toNat)
  case atStart => exact ⟨0, Nat.zero_le _, rfl, by rw [mapP_zero, ← HN.out]; exact HO1.out, Below.refl _ _⟩
  case round =>
    obtain ⟨k, hk, rfl, hown, hbel⟩ := hrel
    have HO := hid hown
    have HB := hid hbel
    clear hown hbel HO1 HZ
    have x0 := (HB.out.cell (p := ⟨w.heap.size, 0, none⟩) (by show w.heap.size < _; omega)).trans d0
    have x1 := (HB.out.cell (p := ⟨w.heap.size, 1, none⟩) (by show w.heap.size < _; omega)).trans d1
    have y0 := (HB.out.cell (p := ⟨w.heap.size + 1, 0, none⟩) (by show w.heap.size + 1 < _; omega)).trans e0
    have y1 := (HB.out.cell (p := ⟨w.heap.size + 1, 1, none⟩) (by show w.heap.size + 1 < _; omega)).trans e1
    have q0 := (HB.out.frozen (p := ⟨w.heap.size + 1, 0, none⟩) (by show w.heap.size + 1 < _; omega)).trans g0
    have q1 := (HB.out.frozen (p := ⟨w.heap.size + 1, 1, none⟩) (by show w.heap.size + 1 < _; omega)).trans g1
    have hzr := HB.out.size
    clear d0 d1 e0 e1 g0 g1
    by_cases hlt : k < n
    · rcases HA.out with ⟨hx, _⟩ | ⟨hp, b, off, cap', hv, hb, hc⟩
      · rw [HN.out, hx] at hlt; simp at hlt
      · simp only [Value.slice.injEq] at hv
        obtain ⟨rfl, hlen, rfl⟩ := hv
        clear hlen
        have hb1 := HB1.out
        have hx : wr.cell? ⟨b, off + k, none⟩ = some (.int .i64 (xs.getD k 0)) := (HB.out.cell (p := ⟨b, off + k, none⟩) (by show b < _; omega)).trans ((hb1.cell (p := ⟨b, off + k, none⟩) (by show b < _; omega)).trans (hc k (by rw [← HN.out]; exact hlt)))
        have hcall := hid (HF.out k (by rw [← HN.out]; exact hlt) wr)
        have HS := hid (mapP_set f xs k (by rw [← HN.out]; exact hlt))
        obtain ⟨x, hxx⟩ : ∃ x, x = xs.getD k 0 := ⟨_, rfl⟩
        rw [← hxx] at hx hcall HS
        clear hxx hp hc hb1
        go_wp2_with fail
        refine hcall.out.mono ?_
        rintro e w2 ⟨rfl, b2⟩
        have HB2 := hid (HB.out.trans (b2.mono (by omega)))
        have HO2 := hid (HO.out.chg (Chg.ofBelow (lo := 0) b2) (.inr (.inr (Nat.zero_le _))))
        have hz4 := b2.size
        clear b2 HO
        have hl : k < (mapP f xs k).length := by rw [mapP_len f xs k (by rw [← HN.out]; omega), ← HN.out]; exact hlt
        have hcell := (HO2.out.at' k hl).1
        have hfr := (HO2.out.at' k hl).2
        have HS2 := hid (HO2.out.set k (f x)).1
        have HSz := hid (HO2.out.set k (f x)).2
        clear hl
        go_wp2
        go_roundw
        case rel => exact ⟨k + 1, by omega, by go_num, by
          have h := HS2.out
          rw [HS.out] at h
          exact h.hi (by simpa using hz4) (Nat.le_refl _), HB2.out.setCell (by simp) _⟩
        case measure => simp [intOf]; omega
    · obtain rfl : k = n := by omega
      have HO3 : Hid (Own wr (w.heap.size + 2) wr.heap.size (.slice (some ⟨w.heap.size + 1 + 1, 0, none⟩) k k) ys) := hid (by have h := HO.out; rw [HN.out, mapP_all, ← HN.out] at h; rw [HY.out]; exact h)
      clear HO
      go_wp2
      show bodyPost Try.prog Try.f133 _ Exit.ret _ _
      refine bodyPost_ret (v := .agg #[.int .i64 s, .slice (some ⟨w.heap.size + 1 + 1, 0, none⟩) k k]) (by simp [results, Try.results133, go_sem, y0, y1]) rfl ?_
      refine ⟨_, _, rfl, ?_, ?_⟩
      · have h := own_other (own_other HO3.out (w.heap.size + 1) 0 (.int .i64 s) (by omega)) (w.heap.size + 1) 1 (.slice (some ⟨w.heap.size + 1 + 1, 0, none⟩) k k) (by omega)
        have h2 := h.lo (lo' := w.heap.size) (by omega)
        simpa using h2
      · exact ((HB1.out.trans (HB.out.mono (by omega))).setCell (by simp) _).setCell (by simp) _

theorem implGen (x : Int) (hx : -100 ≤ x ∧ x ≤ 100) (w : World) : Calls Try.prog 108 #[.int .i64 x] w fun e w' => e = .returned (.int .i64 (ab x)) ∧ w = w' := by
  obtain ⟨h0, h1⟩ := hx
  by_cases h : x < 0
  · have HF : Hid (ab x = -x) := hid (by rw [ab, if_pos h])
    have hm : max x (-x) = -x := by omega
    go_enter Try.func108, Try.ntmps108
    go_wp2
    go_ret
    exact ⟨by rw [HF.out]; rfl, rfl⟩
  · have HF : Hid (ab x = x) := hid (by rw [ab, if_neg h])
    have hm : max x (-x) = x := by omega
    go_enter Try.func108, Try.ntmps108
    go_wp2
    go_ret
    exact ⟨by rw [HF.out]; rfl, rfl⟩

theorem specAbs (x : Int) (hx : -100 ≤ x ∧ x ≤ 100) (w : World) : Calls Try.prog 77 #[.int .i64 x] w fun e w' => e = .returned (.int .i64 (ab x)) ∧ w = w' := by
  obtain ⟨h0, h1⟩ := hx
  by_cases h : x < 0
  · have HF : Hid (ab x = -x) := hid (by rw [ab, if_pos h])
    go_enter Try.func77, Try.ntmps77
    go_wp2
    go_ret
    exact ⟨by rw [HF.out]; rfl, rfl⟩
  · have HF : Hid (ab x = x) := hid (by rw [ab, if_neg h])
    go_enter Try.func77, Try.ntmps77
    go_wp2
    go_ret
    exact ⟨by rw [HF.out]; rfl, rfl⟩

theorem quiet_sign (x : Int) (q : Int) (hq : sg x = q) (w : World) : Calls Try.prog 110 #[.int .i64 x] w fun e w' => e = .returned (.int .i64 q) ∧ w' = w :=
  (implSign x w).mono fun _ _ h => ⟨by rw [h.1, hq], h.2.symm⟩
theorem quiet_gen (x : Int) (hx : -100 ≤ x ∧ x ≤ 100) (q : Int) (hq : ab x = q) (w : World) : Calls Try.prog 108 #[.int .i64 x] w fun e w' => e = .returned (.int .i64 q) ∧ w' = w :=
  (implGen x hx w).mono fun _ _ h => ⟨by rw [h.1, hq], h.2.symm⟩
theorem quiet_abs (x : Int) (hx : -100 ≤ x ∧ x ≤ 100) (q : Int) (hq : ab x = q) (w : World) : Calls Try.prog 77 #[.int .i64 x] w fun e w' => e = .returned (.int .i64 q) ∧ w' = w :=
  (specAbs x hx w).mono fun _ _ h => ⟨by rw [h.1, hq], h.2.symm⟩

def mirW (s : Int) (xs : List Int) : List Int := wordOk s xs (xs.map (mirF s))
theorem mirW_len (s : Int) (xs : List Int) : (mirW s xs).length ≤ 1000 := by
  cases h : okB s xs
  · rw [mirW, wordOk_no h]; simp
  · rw [mirW, wordOk_yes h]; have := (ok_parts h).2.2.1; simp; omega

end Go.Proofs.Ytedajefapddekaa.br
