/-
  Contracts of MirrorBraid, of the program and of its model.
-/
import Derived.Test.YtbeaopblopmpeaaRd
import Derived.Deep.QuietTactic
import Derived.BigQuiet
import Derived.IntWalk
namespace Go.Proofs.Ytbeaopblopmpeaa.br
open Go.RowKit Go.Proofs.Ytbeaopblopmpeaa.sl Go.Proofs.Ytbeaopblopmpeaa.pm Go.Proofs.Ytbeaopblopmpeaa.bw Go.Proofs.Ytbeaopblopmpeaa.fn

theorem mapped1 (f : Int → Int) (g : Nat) (bd : Value) (s : Int) (xs : List Int) (v : Value) (B : Nat) (w : World) (ha : Ints w B v xs) (hB : B ≤ w.heap.size) (hn : xs.length ≤ 1099511627776)
    (eg : ∀ args w, (callFunc g args).run Try.prog w = .ok (.enter g args) w) (hf : ∀ j, j < xs.length → ∀ W : World, Calls Try.prog g #[bd, .int .i64 (xs.getD j 0)] W fun e w' => e = .returned (.int .i64 (f (xs.getD j 0))) ∧ Below W.heap.size W w') :
    Calls Try.prog 69 #[.agg #[.int .i64 s, v], .func (.func g) #[bd] #[]] w fun e w' => ∃ ao cap, e = .returned (.agg #[.int .i64 s, .slice ao xs.length cap]) ∧ Own w' w.heap.size w'.heap.size (.slice ao xs.length cap) (xs.map f) ∧ Below w.heap.size w w' := by
  obtain ⟨i0, hi, hz0, hz1, hz2⟩ := info_parts info64
  obtain ⟨ao, cap, hv⟩ := ints_val ha
  obtain ⟨n, hnn⟩ : ∃ n, n = xs.length := ⟨_, rfl⟩
  rw [← hnn] at hv hn
  subst hv
  have HN := hid hnn
  have HA := hid ha
  have HF := hid hf
  clear ha hnn hf
  rw [← HN.out]
  obtain ⟨ys, hys⟩ : ∃ ys, ys = xs.map f := ⟨_, rfl⟩
  rw [← hys]
  have HY := hid hys
  clear hys
  go_enter Try.func69, Try.ntmps69
  go_wp2_with (at_make; refine wpList_make_full _ rfl (.tmp 10) (.tmp 10) 22 rfl (w.heap.size + 2) 2 i0 (.int .i64 0) 1 Try.underlying22 hi hz0 hz1 .i64 .i64 _ _ n rfl rfl (by omega) (by omega) (by rw [hz2]; omega) (by unfold maxLen; omega) (by simp) ?_; intro w1 hown1 hgrow1; have HO1 : Hid (Own w1 (w.heap.size + 2) w1.heap.size (.slice (some ⟨w.heap.size + 1 + 1, 0, none⟩) n n) (List.replicate n 0)) := hid (made_own' (by simpa using hown1)); have hb2 := box2 (below_grown hgrow1); have d0 := hb2.1 0; have d1 := hb2.1 1; have e0 := (hb2.2.1 0).1; have e1 := (hb2.2.1 1).1; have g0 := (hb2.2.1 0).2; have g1 := (hb2.2.1 1).2; have hz3 := hb2.2.2.2; have HB1 := hid hb2.2.2.1; have HZ := hid (below_grown hgrow1); clear hown1 hgrow1 hb2; simp at d0 d1 e0 e1)
  go_loopw [15] (fun i wr => ∃ k : Nat, k ≤ n ∧ i = .int .i64 k ∧ Own wr (w.heap.size + 2) wr.heap.size (.slice (some ⟨w.heap.size + 1 + 1, 0, none⟩) n n) (mapP f xs k) ∧ Below (w.heap.size + 2) w1 wr)
    (fun i _ => n - (intOf i).toNat)
  case atStart => exact ⟨0, Nat.zero_le _, rfl, by rw [mapP_zero, ← HN.out]; exact HO1.out, Below.refl _ _⟩
  case round =>
    obtain ⟨k, hk, rfl, hown, hbel⟩ := hrel
    have HO := hid hown
    have HB := hid hbel
    clear hown hbel HO1 HZ
    have x0 := (HB.out.cell (p := ⟨w.heap.size, 0, none⟩) (by show w.heap.size < _; omega)).trans d0
    have x1 := (HB.out.cell (p := ⟨w.heap.size, 1, none⟩) (by show w.heap.size < _; omega)).trans d1
    have y0 := (HB.out.cell (p := ⟨w.heap.size + 1, 0, none⟩) (by show w.heap.size + 1 < _; omega)).trans e0
    have y1 := (HB.out.cell (p := ⟨w.heap.size + 1, 1, none⟩) (by show w.heap.size + 1 < _; omega)).trans e1
    have q0 := (HB.out.frozen (p := ⟨w.heap.size + 1, 0, none⟩) (by show w.heap.size + 1 < _; omega)).trans g0
    have q1 := (HB.out.frozen (p := ⟨w.heap.size + 1, 1, none⟩) (by show w.heap.size + 1 < _; omega)).trans g1
    have hzr := HB.out.size
    clear d0 d1 e0 e1 g0 g1
    by_cases hlt : k < n
    · rcases HA.out with ⟨hx, _⟩ | ⟨hp, b, off, cap', hv, hb, hc⟩
      · rw [HN.out, hx] at hlt; simp at hlt
      · simp only [Value.slice.injEq] at hv
        obtain ⟨rfl, hlen, rfl⟩ := hv
        clear hlen
        have hb1 := HB1.out
        have hx : wr.cell? ⟨b, off + k, none⟩ = some (.int .i64 (xs.getD k 0)) := (HB.out.cell (p := ⟨b, off + k, none⟩) (by show b < _; omega)).trans ((hb1.cell (p := ⟨b, off + k, none⟩) (by show b < _; omega)).trans (hc k (by rw [← HN.out]; exact hlt)))
        have hcall := hid (HF.out k (by rw [← HN.out]; exact hlt) wr)
        have HS := hid (mapP_set f xs k (by rw [← HN.out]; exact hlt))
        obtain ⟨x, hxx⟩ : ∃ x, x = xs.getD k 0 := ⟨_, rfl⟩
        rw [← hxx] at hx hcall HS
        clear hxx hp hc hb1
        go_wp2_with fail
        refine hcall.out.mono ?_
        rintro e w2 ⟨rfl, b2⟩
        have HB2 := hid (HB.out.trans (b2.mono (by omega)))
        have HO2 := hid (HO.out.chg (Chg.ofBelow (lo := 0) b2) (.inr (.inr (Nat.zero_le _))))
        have hz4 := b2.size
        clear b2 HO
        have hl : k < (mapP f xs k).length := by rw [mapP_len f xs k (by rw [← HN.out]; omega), ← HN.out]; exact hlt
        have hcell := (HO2.out.at' k hl).1
        have hfr := (HO2.out.at' k hl).2
        have HS2 := hid (HO2.out.set k (f x)).1
        have HSz := hid (HO2.out.set k (f x)).2
        clear hl
        go_wp2
        go_roundw
        case rel => exact ⟨k + 1, by omega, by go_num, by
          have h := HS2.out
          rw [HS.out] at h
          exact h.hi (by simpa using hz4) (Nat.le_refl _), HB2.out.setCell (by simp) _⟩
        case measure => simp [intOf]; omega
    · obtain rfl : k = n := by omega
      have HO3 : Hid (Own wr (w.heap.size + 2) wr.heap.size (.slice (some ⟨w.heap.size + 1 + 1, 0, none⟩) k k) ys) := hid (by have h := HO.out; rw [HN.out, mapP_all, ← HN.out] at h; rw [HY.out]; exact h)
      clear HO
      go_wp2
      show bodyPost Try.prog Try.f69 _ Exit.ret _ _
      refine bodyPost_ret (v := .agg #[.int .i64 s, .slice (some ⟨w.heap.size + 1 + 1, 0, none⟩) k k]) (by simp [results, Try.results69, go_sem, y0, y1]) rfl ?_
      refine ⟨_, _, rfl, ?_, ?_⟩
      · have h := own_other (own_other HO3.out (w.heap.size + 1) 0 (.int .i64 s) (by omega)) (w.heap.size + 1) 1 (.slice (some ⟨w.heap.size + 1 + 1, 0, none⟩) k k) (by omega)
        have h2 := h.lo (lo' := w.heap.size) (by omega)
        simpa using h2
      · exact ((HB1.out.trans (HB.out.mono (by omega))).setCell (by simp) _).setCell (by simp) _

theorem implGen (x : Int) (hx : -100 ≤ x ∧ x ≤ 100) (w : World) : Calls Try.prog 74 #[.int .i64 x] w fun e w' => e = .returned (.int .i64 (ab x)) ∧ w = w' := by
  obtain ⟨h0, h1⟩ := hx
  by_cases h : x < 0
  · have HF : Hid (ab x = -x) := hid (by rw [ab, if_pos h])
    have hm : max x (-x) = -x := by omega
    go_enter Try.func74, Try.ntmps74
    go_wp2
    go_ret
    exact ⟨by rw [HF.out]; rfl, rfl⟩
  · have HF : Hid (ab x = x) := hid (by rw [ab, if_neg h])
    have hm : max x (-x) = x := by omega
    go_enter Try.func74, Try.ntmps74
    go_wp2
    go_ret
    exact ⟨by rw [HF.out]; rfl, rfl⟩

theorem specAbs (x : Int) (hx : -100 ≤ x ∧ x ≤ 100) (w : World) : Calls Try.prog 76 #[.int .i64 x] w fun e w' => e = .returned (.int .i64 (ab x)) ∧ w = w' := by
  obtain ⟨h0, h1⟩ := hx
  by_cases h : x < 0
  · have HF : Hid (ab x = -x) := hid (by rw [ab, if_pos h])
    go_enter Try.func76, Try.ntmps76
    go_wp2
    go_ret
    exact ⟨by rw [HF.out]; rfl, rfl⟩
  · have HF : Hid (ab x = x) := hid (by rw [ab, if_neg h])
    go_enter Try.func76, Try.ntmps76
    go_wp2
    go_ret
    exact ⟨by rw [HF.out]; rfl, rfl⟩

theorem quiet_sign (x : Int) (q : Int) (hq : sg x = q) (w : World) : Calls Try.prog 70 #[.int .i64 x] w fun e w' => e = .returned (.int .i64 q) ∧ w' = w :=
  (implSign x w).mono fun _ _ h => ⟨by rw [h.1, hq], h.2.symm⟩
theorem quiet_gen (x : Int) (hx : -100 ≤ x ∧ x ≤ 100) (q : Int) (hq : ab x = q) (w : World) : Calls Try.prog 74 #[.int .i64 x] w fun e w' => e = .returned (.int .i64 q) ∧ w' = w :=
  (implGen x hx w).mono fun _ _ h => ⟨by rw [h.1, hq], h.2.symm⟩
theorem quiet_abs (x : Int) (hx : -100 ≤ x ∧ x ≤ 100) (q : Int) (hq : ab x = q) (w : World) : Calls Try.prog 76 #[.int .i64 x] w fun e w' => e = .returned (.int .i64 q) ∧ w' = w :=
  (specAbs x hx w).mono fun _ _ h => ⟨by rw [h.1, hq], h.2.symm⟩

set_option maxHeartbeats 400000 in
theorem implMirrored (s x : Int) (v : Value) (w : World) (hv : ∃ ao n cap, v = .slice ao n cap) (hs : 0 ≤ s ∧ s ≤ 12) (hx : -100 ≤ x ∧ x ≤ 100) :
    Calls Try.prog 77 #[.agg #[.int .i64 s, v], .int .i64 x] w fun e w' => e = .returned (.int .i64 (mirF s x)) ∧ Below w.heap.size w w' := by
  obtain ⟨ao, n, cap, rfl⟩ := hv
  obtain ⟨hs0, hs1⟩ := hs
  by_cases h : x < 0
  · have HS := hid (quiet_sign x (-1) (by rw [sg, if_pos h]))
    have HG := hid (quiet_gen x hx (-x) (by rw [ab, if_pos h]))
    have HF : Hid (mirF s x = -(s + x)) := hid (by rw [mirF, sg, ab, if_pos h, if_pos h]; omega)
    obtain ⟨hx0, hx1⟩ := hx
    have e1 : IntKind.i64.wrap (s - -x) = s - -x := IntWalk.i64_in _ (by omega)
    have e2 : IntKind.i64.wrap (-1 * (s - -x)) = -(s - -x) := by rw [IntWalk.i64_in _ (by omega)]; omega
    go_enter Try.func77, Try.ntmps77
    go_wp2
    go_quiet ((first | (go_at_call 70; exact Calls.quiet_of_same (HS.out _)) | (go_at_call 74; exact Calls.quiet_of_same (HG.out _))))
    go_wp2
    go_ret
    refine ⟨?_, bdrewN ((Below.refl w.heap.size w).alloc (Nat.le_refl _) _) _⟩
    rw [HF.out]
    rfl
  · have HS := hid (quiet_sign x 1 (by rw [sg, if_neg h]))
    have HG := hid (quiet_gen x hx x (by rw [ab, if_neg h]))
    have HF : Hid (mirF s x = s - x) := hid (by rw [mirF, sg, ab, if_neg h, if_neg h]; omega)
    obtain ⟨hx0, hx1⟩ := hx
    have e1 : IntKind.i64.wrap (s - x) = s - x := IntWalk.i64_in _ (by omega)
    have e2 : IntKind.i64.wrap (1 * (s - x)) = s - x := by rw [IntWalk.i64_in _ (by omega)]; omega
    go_enter Try.func77, Try.ntmps77
    go_wp2
    go_quiet ((first | (go_at_call 70; exact Calls.quiet_of_same (HS.out _)) | (go_at_call 74; exact Calls.quiet_of_same (HG.out _))))
    go_wp2
    go_ret
    refine ⟨?_, bdrewN ((Below.refl w.heap.size w).alloc (Nat.le_refl _) _) _⟩
    rw [HF.out]
    rfl

def mirW (s : Int) (xs : List Int) : List Int := wordOk s xs (xs.map (mirF s))
theorem mirW_len (s : Int) (xs : List Int) : (mirW s xs).length ≤ 1000 := by
  cases h : okB s xs
  · rw [mirW, wordOk_no h]; simp
  · rw [mirW, wordOk_yes h]; have := (ok_parts h).2.2.1; simp; omega

set_option maxHeartbeats 800000 in
theorem implMirror (s : Int) (xs : List Int) (v : Value) (B : Nat) (w : World) (ha : Ints w B v xs) (hB : B ≤ w.heap.size) (hn : xs.length ≤ 1099511627776) :
    Calls Try.prog 34 #[.agg #[.int .i64 s, v]] w fun e w' => ∃ ao cap, e = .returned (.agg #[.int .i64 (strOk s xs), .slice ao (mirW s xs).length cap]) ∧ Own w' w.heap.size w'.heap.size (.slice ao (mirW s xs).length cap) (mirW s xs) ∧ Below w.heap.size w w' := by
  obtain ⟨ao, cap, hv⟩ := ints_val ha
  obtain ⟨n, hnn⟩ : ∃ n, n = xs.length := ⟨_, rfl⟩
  rw [← hnn] at hv
  subst hv
  have HA := hid ha
  have HN := hid hnn
  clear ha hnn
  have HV := hid (implValidB s xs (.slice ao n cap) B ((w.alloc (.cells #[.int .i64 s, .slice ao n cap] 27)).alloc (.cells #[.int .i64 0, .slice none 0 0] 27)) (ints_al (ints_al HA.out _) _) (by simp; omega) hn)
  cases h : okB s xs
  · have HW : Hid (mirW s xs = [] ∧ strOk s xs = 0) := hid ⟨by rw [mirW, wordOk_no h], strOk_no h⟩
    rw [h] at HV
    rw [HW.out.1, HW.out.2, List.length_nil]
    clear h
    go_enter Try.func34, Try.ntmps34
    go_wp2_with fail
    refine HV.out.mono ?_
    rintro e w1 ⟨rfl, b1⟩
    have HB1 := hid (box2 b1)
    have r0 := (HB1.out.2.1 0).1
    have r1 := (HB1.out.2.1 1).1
    have f0 := (HB1.out.2.1 0).2
    have f1 := (HB1.out.2.1 1).2
    have hz := HB1.out.2.2.2
    simp at r0 r1
    clear b1 HV
    go_wp2
    refine bodyPost_ret (v := .agg #[.int .i64 0, .slice none 0 0]) (by simp [results, Try.results34, go_sem, r0, r1]) rfl ⟨none, 0, rfl, Own.nil _ _, ?_⟩
    exact (HB1.out.2.2.1.setCell (by simp) _).setCell (by simp) _
  · have HW : Hid (mirW s xs = xs.map (mirF s) ∧ strOk s xs = s) := hid ⟨by rw [mirW, wordOk_yes h], strOk_yes h⟩
    have HK := hid (ok_small h)
    have HL : Hid ((xs.map (mirF s)).length = n) := hid (by rw [HN.out]; simp)
    have HS12 := hid (show 0 ≤ s ∧ s ≤ 12 from ⟨(ok_parts h).1, (ok_parts h).2.1⟩)
    rw [h] at HV
    rw [HW.out.1, HW.out.2, HL.out]
    clear h
    go_enter Try.func34, Try.ntmps34
    go_wp2_with fail
    refine HV.out.mono ?_
    rintro e w1 ⟨rfl, b1⟩
    have HB1 := hid (box2 b1)
    have d0 := HB1.out.1 0
    have d1 := HB1.out.1 1
    have hz := HB1.out.2.2.2
    simp at d0 d1
    have HA1 := hid (HA.out.chg (Chg.ofBelow (lo := 0) HB1.out.2.2.1) (.inr (Nat.zero_le _)))
    clear b1 HV HA
    have HE := hid (box1 (w := w1) (w1 := w1.alloc (.cells #[.int .i64 s, .slice ao n cap] 69)) (Below.refl _ _))
    have b12 : Below w1.heap.size w1 (w1.alloc (.cells #[.int .i64 s, .slice ao n cap] 69)) := (Below.refl _ _).alloc (Nat.le_refl _) _
    go_wp2_with fail
    refine (mapped1 (mirF s) 77 _ s xs _ B _ (ints_al HA1.out _) (by simp; omega) hn (enters_of Try.func77 (by kernel_rfl) rfl) (fun j hj W => implMirrored s _ _ W ⟨_, _, _, rfl⟩ HS12.out (HK.out j hj))).mono ?_
    rintro e w2 ⟨ao2, cap2, rfl, o2, b2⟩
    have HB2' := hid (box1 b2)
    have hz2 := HB2'.out.2.2
    have hb2 := HB2'.out.2.1
    have r0 := (hb2.cell (p := ⟨w.heap.size + 1, 0, none⟩) (by show w.heap.size + 1 < w1.heap.size; omega)).trans ((HB1.out.2.1 0).1)
    have r1 := (hb2.cell (p := ⟨w.heap.size + 1, 1, none⟩) (by show w.heap.size + 1 < w1.heap.size; omega)).trans ((HB1.out.2.1 1).1)
    have f0 := (hb2.frozen (p := ⟨w.heap.size + 1, 0, none⟩) (by show w.heap.size + 1 < w1.heap.size; omega)).trans ((HB1.out.2.1 0).2)
    have f1 := (hb2.frozen (p := ⟨w.heap.size + 1, 1, none⟩) (by show w.heap.size + 1 < w1.heap.size; omega)).trans ((HB1.out.2.1 1).2)
    simp at r0 r1
    have HO2 := hid (o2.lo (lo' := w.heap.size + 2) (by simp; omega))
    have HB2 := hid (HB1.out.2.2.1.trans (hb2.mono (by omega)))
    clear b2 o2 d0 d1 HA1 hb2 b12 HE HB2'
    rw [← HN.out] at HO2 ⊢
    go_wp2
    refine bodyPost_ret (v := .agg #[.int .i64 s, .slice ao2 n cap2]) (by simp [results, Try.results34, go_sem, r0, r1]) rfl ⟨ao2, cap2, rfl, ?_, ?_⟩
    · have h := own_other (own_other HO2.out (w.heap.size + 1) 0 (.int .i64 s) (by omega)) (w.heap.size + 1) 1 (.slice ao2 n cap2) (by omega)
      have h2 := h.lo (lo' := w.heap.size) (by omega)
      simpa using h2
    · exact (HB2.out.setCell (by simp) _).setCell (by simp) _

set_option maxHeartbeats 800000 in
theorem specMirror (s : Int) (xs : List Int) (v : Value) (B : Nat) (w : World) (ha : Ints w B v xs) (hB : B ≤ w.heap.size) (hn : xs.length ≤ 1099511627776) :
    Calls Try.prog 33 #[.agg #[.int .i64 s, v]] w fun e w' => ∃ ao cap, e = .returned (.agg #[.int .i64 (strOk s xs), .slice ao (mirW s xs).length cap]) ∧ Own w' w.heap.size w'.heap.size (.slice ao (mirW s xs).length cap) (mirW s xs) ∧ Below w.heap.size w w' := by
  obtain ⟨ao, cap, hv⟩ := ints_val ha
  obtain ⟨n, hnn⟩ : ∃ n, n = xs.length := ⟨_, rfl⟩
  rw [← hnn] at hv
  subst hv
  have HA := hid ha
  have HN := hid hnn
  clear ha hnn
  have HV := hid (specOkA2 s xs (.slice ao n cap) B w (.cells #[.int .i64 0, .slice none 0 0] 27) HA.out hn)
  cases h : okB s xs
  · have HW : Hid (mirW s xs = [] ∧ strOk s xs = 0) := hid ⟨by rw [mirW, wordOk_no h], strOk_no h⟩
    rw [h] at HV
    rw [HW.out.1, HW.out.2, List.length_nil]
    clear h
    go_enter Try.func33, Try.ntmps33
    go_wp2_with fail
    refine HV.out.mono ?_
    rintro e w1 ⟨rfl, q, rfl⟩
    have HB1 := hid (box2 (bdrewN (Below.refl _ ((w.alloc (.cells #[.int .i64 s, .slice ao n cap] 27)).alloc (.cells #[.int .i64 0, .slice none 0 0] 27))) q))
    generalize ((w.alloc (.cells #[.int .i64 s, .slice ao n cap] 27)).alloc (.cells #[.int .i64 0, .slice none 0 0] 27)).drewN q = w1 at *
    have r0 := (HB1.out.2.1 0).1
    have r1 := (HB1.out.2.1 1).1
    have f0 := (HB1.out.2.1 0).2
    have f1 := (HB1.out.2.1 1).2
    have hz := HB1.out.2.2.2
    simp at r0 r1
    go_wp2
    refine bodyPost_ret (v := .agg #[.int .i64 0, .slice none 0 0]) (by simp [results, Try.results33, go_sem, r0, r1]) rfl ⟨none, 0, rfl, Own.nil _ _, ?_⟩
    exact (HB1.out.2.2.1.setCell (by simp) _).setCell (by simp) _
  · have HW : Hid (mirW s xs = xs.map (mirF s) ∧ strOk s xs = s) := hid ⟨by rw [mirW, wordOk_yes h], strOk_yes h⟩
    have HK := hid (ok_small h)
    have HS12 := hid (show 0 ≤ s ∧ s ≤ 12 from ⟨(ok_parts h).1, (ok_parts h).2.1⟩)
    have hl : n ≤ 40 := by rw [HN.out]; exact (ok_parts h).2.2.1
    have HL : Hid ((xs.map (mirF s)).length = n) := hid (by rw [HN.out]; simp)
    rw [h] at HV
    rw [HW.out.1, HW.out.2, HL.out]
    clear h
    go_enter Try.func33, Try.ntmps33
    go_wp2_with fail
    refine HV.out.mono ?_
    rintro e w1 ⟨rfl, q, rfl⟩
    have HB1 := hid (box2 (bdrewN (Below.refl _ ((w.alloc (.cells #[.int .i64 s, .slice ao n cap] 27)).alloc (.cells #[.int .i64 0, .slice none 0 0] 27))) q))
    generalize ((w.alloc (.cells #[.int .i64 s, .slice ao n cap] 27)).alloc (.cells #[.int .i64 0, .slice none 0 0] 27)).drewN q = w1 at *
    have d0 := HB1.out.1 0
    have d1 := HB1.out.1 1
    have r0 := (HB1.out.2.1 0).1
    have r1 := (HB1.out.2.1 1).1
    have f0 := (HB1.out.2.1 0).2
    have f1 := (HB1.out.2.1 1).2
    have hz := HB1.out.2.2.2
    simp at d0 d1 r0 r1
    have HA1 := hid (HA.out.chg (Chg.ofBelow (lo := 0) HB1.out.2.2.1) (.inr (Nat.zero_le _)))
    clear HA HV
    go_wp2
    go_loopw [4] (fun iv wr => ∃ (k : Nat) (ao2 : Option Addr) (cap2 : Nat), k ≤ n ∧ iv = .int .i64 k ∧ wr.cell? ⟨w1.heap.size, 0, none⟩ = some (.int .i64 s) ∧ wr.cell? ⟨w1.heap.size, 1, none⟩ = some (.slice ao2 k cap2) ∧ wr.frozen? ⟨w1.heap.size, 1, none⟩ = false ∧ Own wr (w1.heap.size + 1) wr.heap.size (.slice ao2 k cap2) (mapTo (mirF s) xs k) ∧ Below w1.heap.size w1 wr ∧ w1.heap.size + 1 ≤ wr.heap.size)
      (fun iv _ => n - (intOf iv).toNat)
    case atStart => exact ⟨0, none, 0, Nat.zero_le _, rfl, World.cell?_alloc_at _ _ _ _ rfl, World.cell?_alloc_at _ _ _ _ rfl, World.frozen?_alloc_at _ _ _ _ rfl, Own.nil _ _, (Below.refl _ _).alloc (Nat.le_refl _) _, by simp⟩
    case round =>
      obtain ⟨k, ao2, cap2, hk, rfl, c0, c1, cf, hown, hbel, hzr⟩ := hrel
      have HO := hid hown
      have HB := hid hbel
      have x0 := (HB.out.cell (p := ⟨w.heap.size, 0, none⟩) (by show w.heap.size < w1.heap.size; omega)).trans d0
      have x1 := (HB.out.cell (p := ⟨w.heap.size, 1, none⟩) (by show w.heap.size < w1.heap.size; omega)).trans d1
      have y0 := (HB.out.cell (p := ⟨w.heap.size + 1, 0, none⟩) (by show w.heap.size + 1 < w1.heap.size; omega)).trans r0
      have y1 := (HB.out.cell (p := ⟨w.heap.size + 1, 1, none⟩) (by show w.heap.size + 1 < w1.heap.size; omega)).trans r1
      have q0 := (HB.out.frozen (p := ⟨w.heap.size + 1, 0, none⟩) (by show w.heap.size + 1 < w1.heap.size; omega)).trans f0
      have q1 := (HB.out.frozen (p := ⟨w.heap.size + 1, 1, none⟩) (by show w.heap.size + 1 < w1.heap.size; omega)).trans f1
      clear d0 d1 r0 r1 f0 f1 hown hbel
      by_cases hlt : k < n
      · rcases HA1.out with ⟨hx, _⟩ | ⟨hp, b, off, cap', hv, hb, hc⟩
        · rw [HN.out, hx] at hlt; simp at hlt
        · simp only [Value.slice.injEq] at hv
          obtain ⟨rfl, hlen, rfl⟩ := hv
          clear hlen
          have h1 : wr.cell? ⟨b, off + k, none⟩ = some (.int .i64 (xs.getD k 0)) := (HB.out.cell (p := ⟨b, off + k, none⟩) (by show b < w1.heap.size; omega)).trans (hc k (by rw [← HN.out]; exact hlt))
          have hx := HK.out k (by rw [← HN.out]; exact hlt)
          have HS := hid (mapTo_succ (mirF s) xs k (by rw [← HN.out]; exact hlt))
          have hs12 := HS12.out
          clear hc hp
          generalize xs.getD k 0 = x at *
          obtain ⟨hx0, hx1⟩ := hx
          obtain ⟨hs0, hs1⟩ := hs12
          by_cases h : x < 0
          · have HG := hid (quiet_abs x ⟨hx0, hx1⟩ (-x) (by rw [ab, if_pos h]))
            have HF : Hid (mirF s x = -(s + x)) := hid (by rw [mirF, sg, ab, if_pos h, if_pos h]; omega)
            have e1 : IntKind.i64.wrap (s - -x) = s - -x := IntWalk.i64_in _ (by omega)
            go_wp2
            go_quiet ((go_at_call 76; exact Calls.quiet_of_same (HG.out _)))
            have HO' := hid (HO.out.drewN nq)
            have HB' : Hid (Below w1.heap.size w1 (wr.drewN nq)) := hid (bdrewN HB.out nq)
            have HO'' : Hid (Own (wr.drewN nq) (w1.heap.size + 1) (wr.drewN nq).heap.size (.slice ao2 k cap2) (mapTo (mirF s) xs k)) := HO'
            have c0' : (wr.drewN nq).cell? ⟨w1.heap.size, 0, none⟩ = some (.int .i64 s) := c0
            have c1' : (wr.drewN nq).cell? ⟨w1.heap.size, 1, none⟩ = some (.slice ao2 k cap2) := c1
            have cf' : (wr.drewN nq).frozen? ⟨w1.heap.size, 1, none⟩ = false := cf
            have h1' : (wr.drewN nq).cell? ⟨b, off + k, none⟩ = some (.int .i64 x) := h1
            have x1' : (wr.drewN nq).cell? ⟨w.heap.size, 1, none⟩ = some (.slice (some ⟨b, off, none⟩) n cap) := x1
            have hzr' : w1.heap.size + 1 ≤ (wr.drewN nq).heap.size := hzr
            generalize wr.drewN nq = wq at *
            clear h1 x0 x1 y0 y1 q0 q1 c0 c1 cf hzr HO HB HO'
            go_wp2_with (at_builtin; refine wp_append rfl _ _ rfl (w1.heap.size + 1) wq.heap.size _ (mapTo (mirF s) xs k) _ HO''.out rfl rfl hzr' (by rw [mapTo_len _ xs k (by rw [← HN.out]; omega)]; omega) ?_; intro v' w3 hown3 hchg3 hsz3; obtain ⟨ao3, cap3, hv3⟩ := own_val hown3; rw [List.length_append, mapTo_len _ xs k (by rw [← HN.out]; omega), List.length_singleton] at hv3; subst hv3; have s0 := (World.cell?_of_block (w := wq) (w' := w3) (a := ⟨w1.heap.size, 0, none⟩) (hchg3.block w1.heap.size (by omega) (by omega))).trans c0'; have s1 := (World.cell?_of_block (w := wq) (w' := w3) (a := ⟨w1.heap.size, 1, none⟩) (hchg3.block w1.heap.size (by omega) (by omega))).trans c1'; have sf := (World.frozen?_of_block (w := wq) (w' := w3) (a := ⟨w1.heap.size, 1, none⟩) (hchg3.block w1.heap.size (by omega) (by omega))).trans cf'; have HO3 := hid hown3; have HB3 := hid (HB'.out.trans (hchg3.below (B := w1.heap.size) (by omega) (by omega))); clear hown3 hchg3 c0' c1' cf')
            go_roundw
            case rel => exact ⟨k + 1, ao3, cap3, by omega, by go_num, (World.cell?_setCell_other _ _ _ _ (by simp)).trans s0, World.cell?_setCell_same _ _ _ s1, (World.frozen?_setCell _ _ _ _).trans sf, by
              rw [HS.out, HF.out]
              have h := own_other HO3.out w1.heap.size 1 (.slice ao3 (k + 1) cap3) (by omega)
              simpa using h, HB3.out.setCell (by simp) _, by simp; omega⟩
            case measure => simp [intOf]; omega
          · have HG := hid (quiet_abs x ⟨hx0, hx1⟩ x (by rw [ab, if_neg h]))
            have HF : Hid (mirF s x = s - x) := hid (by rw [mirF, sg, ab, if_neg h, if_neg h]; omega)
            have e1 : IntKind.i64.wrap (s - x) = s - x := IntWalk.i64_in _ (by omega)
            go_wp2
            go_quiet ((go_at_call 76; exact Calls.quiet_of_same (HG.out _)))
            have HO' := hid (HO.out.drewN nq)
            have HB' : Hid (Below w1.heap.size w1 (wr.drewN nq)) := hid (bdrewN HB.out nq)
            have HO'' : Hid (Own (wr.drewN nq) (w1.heap.size + 1) (wr.drewN nq).heap.size (.slice ao2 k cap2) (mapTo (mirF s) xs k)) := HO'
            have c0' : (wr.drewN nq).cell? ⟨w1.heap.size, 0, none⟩ = some (.int .i64 s) := c0
            have c1' : (wr.drewN nq).cell? ⟨w1.heap.size, 1, none⟩ = some (.slice ao2 k cap2) := c1
            have cf' : (wr.drewN nq).frozen? ⟨w1.heap.size, 1, none⟩ = false := cf
            have h1' : (wr.drewN nq).cell? ⟨b, off + k, none⟩ = some (.int .i64 x) := h1
            have x1' : (wr.drewN nq).cell? ⟨w.heap.size, 1, none⟩ = some (.slice (some ⟨b, off, none⟩) n cap) := x1
            have hzr' : w1.heap.size + 1 ≤ (wr.drewN nq).heap.size := hzr
            generalize wr.drewN nq = wq at *
            clear h1 x0 x1 y0 y1 q0 q1 c0 c1 cf hzr HO HB HO'
            go_wp2_with (at_builtin; refine wp_append rfl _ _ rfl (w1.heap.size + 1) wq.heap.size _ (mapTo (mirF s) xs k) _ HO''.out rfl rfl hzr' (by rw [mapTo_len _ xs k (by rw [← HN.out]; omega)]; omega) ?_; intro v' w3 hown3 hchg3 hsz3; obtain ⟨ao3, cap3, hv3⟩ := own_val hown3; rw [List.length_append, mapTo_len _ xs k (by rw [← HN.out]; omega), List.length_singleton] at hv3; subst hv3; have s0 := (World.cell?_of_block (w := wq) (w' := w3) (a := ⟨w1.heap.size, 0, none⟩) (hchg3.block w1.heap.size (by omega) (by omega))).trans c0'; have s1 := (World.cell?_of_block (w := wq) (w' := w3) (a := ⟨w1.heap.size, 1, none⟩) (hchg3.block w1.heap.size (by omega) (by omega))).trans c1'; have sf := (World.frozen?_of_block (w := wq) (w' := w3) (a := ⟨w1.heap.size, 1, none⟩) (hchg3.block w1.heap.size (by omega) (by omega))).trans cf'; have HO3 := hid hown3; have HB3 := hid (HB'.out.trans (hchg3.below (B := w1.heap.size) (by omega) (by omega))); clear hown3 hchg3 c0' c1' cf')
            go_roundw
            case rel => exact ⟨k + 1, ao3, cap3, by omega, by go_num, (World.cell?_setCell_other _ _ _ _ (by simp)).trans s0, World.cell?_setCell_same _ _ _ s1, (World.frozen?_setCell _ _ _ _).trans sf, by
              rw [HS.out, HF.out]
              have h := own_other HO3.out w1.heap.size 1 (.slice ao3 (k + 1) cap3) (by omega)
              simpa using h, HB3.out.setCell (by simp) _, by simp; omega⟩
            case measure => simp [intOf]; omega
      · obtain rfl : k = n := by omega
        have HS : Hid (mapTo (mirF s) xs k = xs.map (mirF s)) := hid (by rw [HN.out]; exact mapTo_all _ xs)
        go_wp2
        show bodyPost Try.prog Try.f33 _ Exit.ret _ _
        refine bodyPost_ret (v := .agg #[.int .i64 s, .slice ao2 k cap2]) (by simp [results, Try.results33, go_sem, y0, y1]) rfl ?_
        refine ⟨_, _, rfl, ?_, ?_⟩
        · have h := own_other (own_other HO.out (w.heap.size + 1) 0 (.int .i64 s) (by omega)) (w.heap.size + 1) 1 (.slice ao2 k cap2) (by omega)
          have h2 := h.lo (lo' := w.heap.size) (by omega)
          rw [HS.out] at h2
          simpa using h2
        · exact ((HB1.out.2.2.1.trans (HB.out.mono (by omega))).setCell (by simp) _).setCell (by simp) _
end Go.Proofs.Ytbeaopblopmpeaa.br
