/-
  l07Live of the model; LiveLoops of both sides.
-/
import Derived.Test.YtfechjhngcmdpaaLx
import Derived.Test.YtfechjhngcmdpaaVmk
namespace Go.Proofs.Ytfechjhngcmdpaa.mc
open Go.RowKit Go.Sort Go.Proofs.Ytfechjhngcmdpaa.sl Go.Proofs.Ytfechjhngcmdpaa.br Go.Proofs.Ytfechjhngcmdpaa.fn Go.Proofs.Ytfechjhngcmdpaa.ss
set_option linter.unusedVariables false
set_option linter.unusedSimpArgs false

/-- A bed's rows, by their number. -/
theorem bed_vals {w : World} {lo hi : Nat} {v : Value} {rows : List (List Int)} (h : ss.ROwn w lo hi v rows) (hp : 0 < rows.length) :
    ∃ (g off cap : Nat) (V : Nat → Value), v = .slice (some ⟨g, off, none⟩) rows.length cap ∧ g < hi ∧ ∀ j, j < rows.length → w.cell? ⟨g, off + j, none⟩ = some (V j) ∧ Ints w hi (V j) (rows.getD j []) ∧ NilOk (V j) := by
  rcases h.2 with ⟨h0, _⟩ | ⟨_, g, off, cap, V, L, H, hv, h1, h2, h3⟩
  · subst h0; simp at hp
  · exact ⟨g, off, cap, V, hv, h2, fun j hj => ⟨(h3 j hj).1, (h3 j hj).2.1.ints.mono (h3 j hj).2.2.2.1, nilok_own (h3 j hj).2.1⟩⟩

set_option maxRecDepth 100000 in
set_option maxHeartbeats 8000000 in
theorem specLive (pb : Nat) (a p : Int) (m : Mch) (f0 f1 f2 f3 f4 : Value) (B : Nat) (w : World) (ha : MInC w B f0 f1 f2 f3 f4 m) (hB : B ≤ w.heap.size) (hq : Small m) (hok : OkM a p m)
    (c0 : w.cell? ⟨pb, 0, none⟩ = some (.int .i64 a)) (c1 : w.cell? ⟨pb, 1, none⟩ = some (.int .i64 p)) (c2 : w.cell? ⟨pb, 2, none⟩ = some f0) (c3 : w.cell? ⟨pb, 3, none⟩ = some f1) :
    Calls Try.prog 61 #[.pointer (some ⟨pb, 0, none⟩)] w fun e w' => ∃ v, e = .returned v ∧ sl.Own w' w.heap.size w'.heap.size v (liveL a p m) ∧ Below w.heap.size w w' := by
  obtain ⟨N, hN⟩ : ∃ N : Nat, N = (a + 6).toNat := ⟨_, rfl⟩
  have HEl : Hid (liveL a p m = liveQ m (seqP a p N)) := hid (by rw [liveL, ← hN])
  obtain ⟨hw0, hw1⟩ := hok.w
  obtain ⟨hr0, hr1⟩ := hok.r
  have hNi : (N : Int) = a + 6 := by omega
  have hpb : pb < w.heap.size := World.block_lt_of_cell? w _ c0
  obtain ⟨lo, hi, hBB, hh, p1, p2, p3, p4, e0, e1, e2, e3, e4, o0, o1, o2, o3, o4⟩ := ha
  have hl0 := (stk_parts hok.fr).1
  have hl1 := (stk_parts hok.bk).1
  obtain ⟨g0, off0, cap0, V0, rfl, hg0, F0⟩ := bed_vals o0 (by omega)
  obtain ⟨g1, off1, cap1, V1, rfl, hg1, F1⟩ := bed_vals o1 (by omega)
  obtain ⟨n0, hn0⟩ : ∃ n, n = m.fr.length := ⟨_, rfl⟩
  obtain ⟨n1, hn1⟩ : ∃ n, n = m.bk.length := ⟨_, rfl⟩
  rw [← hn0] at F0 hl0 c2
  rw [← hn1] at F1 hl1 c3
  have HF0 : Hid (∀ j, j < n0 → w.cell? ⟨g0, off0 + j, none⟩ = some (V0 j) ∧ Ints w B (V0 j) (m.fr.getD j []) ∧ NilOk (V0 j)) := hid fun j hj => ⟨(F0 j hj).1, (F0 j hj).2.1.mono (by omega), (F0 j hj).2.2⟩
  have HF1 : Hid (∀ j, j < n1 → w.cell? ⟨g1, off1 + j, none⟩ = some (V1 j) ∧ Ints w B (V1 j) (m.bk.getD j []) ∧ NilOk (V1 j)) := hid fun j hj => ⟨(F1 j hj).1, (F1 j hj).2.1.mono (by omega), (F1 j hj).2.2⟩
  have hgb0 : g0 < w.heap.size := by omega
  have hgb1 : g1 < w.heap.size := by omega
  have HC0 := hid c0
  have HC1 := hid c1
  have HC2 := hid c2
  have HC3 := hid c3
  have HOk := hid hok
  have hwa : IntKind.i64.wrap (a + 3) = a + 3 := IntWalk.i64_in _ (by omega)
  have hwb : IntKind.i64.wrap (a - 1) = a - 1 := IntWalk.i64_in _ (by omega)
  have hO0 := (Own.built w #[] rfl)
  have hB0 : Below w.heap.size w (w.alloc (.cells #[] 2)) := (Below.refl _ w).alloc (Nat.le_refl _) _
  have HO0 := hid hO0
  have HB0 := hid hB0
  clear o0 o1 o2 o3 o4 F0 F1 hn0 hn1 c0 c1 c2 c3 hok hO0 hB0 hh e0 e1 e2 e3 e4 hg0 hg1 hq hBB
  go_enter Try.func61, Try.ntmps61
  go_wp2
  go_loopw [3, 4] (fun v i wr => ∃ (k : Nat) (x : Int) (u : Value), k ≤ N ∧ x = (k : Int) - 3 ∧ v = u ∧ i = .int .i64 x ∧ sl.Own wr w.heap.size wr.heap.size u (liveQ m (seqP a p k)) ∧ Below w.heap.size w wr)
    (fun _ i _ => (a + 3 - intOf i).toNat)
  case atStart => exact ⟨0, -3, _, Nat.zero_le _, by omega, rfl, rfl, by simpa [liveQ, seqP_zero] using HO0.out, HB0.out⟩
  case round =>
    obtain ⟨k, x, u, hk, hx, rfl, rfl, hor, hbr⟩ := hrel
    have HOr := hid hor
    have HBr := hid hbr
    have y0 := (hbr.cell (p := ⟨pb, 0, none⟩) hpb).trans HC0.out
    have y1 := (hbr.cell (p := ⟨pb, 1, none⟩) hpb).trans HC1.out
    have y2 := (hbr.cell (p := ⟨pb, 2, none⟩) hpb).trans HC2.out
    have y3 := (hbr.cell (p := ⟨pb, 3, none⟩) hpb).trans HC3.out
    have HX := hid hx
    clear hor hbr HO0 HB0
    by_cases hlt : k < N
    · have hxa : x < a + 3 := by omega
      have hxb : -3 ≤ x ∧ x ≤ 30 := by omega
      have HLQ : Hid ((liveQ m (seqP a p k)).length ≤ 400) := hid (by
        have h1 := liveQ_len HOk.out (seqP a p k)
        have h2 := seqP_len a p k
        omega)
      clear hx
      cases hok1 : atOk a p 1 x with
      | false =>
        cases hok2 : atOk a p 2 x with
        | false =>
          have HE := hid (show liveQ m (seqP a p (k + 1)) = liveQ m (seqP a p k) from by rw [seqP_succ, plc, stepB, stepB, ← HX.out, hok1, hok2]; simp [liveQ, onQ])
          have HI1 := hid (fun W => vr.inQ x 0 (a - 1) false (by simpa [atOk, atT, inB] using hok1) W)
          have HI2 := hid (fun W => vr.inQ (x - p) 0 (a - 1) false (by simpa [atOk, atT, inB] using hok2) W)
          have hwx : IntKind.i64.wrap (x - p) = x - p := IntWalk.i64_in _ (by omega)
          clear hok1 hok2
          have HIx := hid HI1.out
          go_wp2_with fail
          refine (HI1.out _).mono ?_
          rintro e w9 ⟨rfl, hw9⟩
          subst w9
          go_wp2_with fail
          refine (HI2.out _).mono ?_
          rintro e w9 ⟨rfl, hw9⟩
          subst w9
          go_wp2
          go_roundw
          case rel => exact ⟨k + 1, x + 1, _, by omega, by have := HX.out; omega, rfl, by go_num, by rw [HE.out]; exact HOr.out, HBr.out⟩
          case measure => simp [intOf]; omega
        | true =>
          obtain ⟨hs0, hs1, _, _⟩ := atOk_parts hok2
          have hs0' : 0 ≤ x - p := by simpa [atT] using hs0
          have hs1' : x - p < a := by simpa [atT] using hs1
          obtain ⟨j2, hj2⟩ := Int.eq_ofNat_of_zero_le hs0'
          have HE := hid (show liveQ m (seqP a p (k + 1)) = liveQ m (seqP a p k) ++ onW m 2 (j2 : Int) from by rw [seqP_succ, plc, stepB, stepB, ← HX.out, hok1, hok2, show (atT p 2 x).toNat = j2 from by simp [atT, hj2]]; simp [liveQ, onQ])
          have HI1 := hid (fun W => vr.inQ x 0 (a - 1) false (by simpa [atOk, atT, inB] using hok1) W)
          have HI2 := hid (fun W => vr.inQ (x - p) 0 (a - 1) true (by simpa [atOk, atT, inB] using hok2) W)
          have hjn2 : j2 < n1 := by omega
          have hjI2 : (j2 : Int) < (n1 : Int) := by omega
          obtain ⟨k1, k2, k3⟩ := HF1.out j2 hjn2
          have HZ1 := hid k1
          have z1 := (HBr.out.cell (p := ⟨g1, off1 + j2, none⟩) (by show g1 < _; omega)).trans k1
          have HV2 := hid (k2)
          have HN2 := hid k3
          have HL2 := hid (onW_len HOk.out 2 (j2 : Int))
          rw [show m.bk.getD j2 [] = onW m 2 (j2 : Int) from by simp [onW]] at HV2
          rw [hj2] at HI2
          have hwx : IntKind.i64.wrap (x - p) = (j2 : Int) := by rw [IntWalk.i64_in _ (by omega)]; exact hj2
          clear hs0 hs1 hs0' hs1' k1 k2 k3 hj2
          generalize V1 j2 = u2 at *
          clear hok1 hok2
          have HIx := hid HI1.out
          go_wp2_with fail
          refine (HI1.out _).mono ?_
          rintro e w9 ⟨rfl, hw9⟩
          subst w9
          go_wp2_with fail
          refine (HI2.out _).mono ?_
          rintro e w9 ⟨rfl, hw9⟩
          subst w9
          have HV2' := hid (HV2.out.chg (Chg.ofBelow (lo := 0) HBr.out) (.inr (Nat.zero_le _)))
          go_wp2_with (at_builtin; refine wp_appendAll rfl _ _ rfl w.heap.size wr.heap.size _ _ HOr.out rfl u2 _ B HV2'.out HN2.out rfl HBr.out.size (by have := HLQ.out; have := HL2.out; omega) ?_; intro v5 w5 o5 c5; have HB5 := hid (HBr.out.trans (c5.below (Nat.le_refl _) HBr.out.size)); have HO5 := hid o5; clear o5 c5)
          go_roundw
          case rel => exact ⟨k + 1, x + 1, _, by omega, by have := HX.out; omega, rfl, by go_num, by rw [HE.out]; exact HO5.out, HB5.out⟩
          case measure => simp [intOf]; omega
      | true =>
        cases hok2 : atOk a p 2 x with
        | false =>
          obtain ⟨ht0, ht1, _, _⟩ := atOk_parts hok1
          have ht0' : 0 ≤ x := by simpa [atT] using ht0
          have ht1' : x < a := by simpa [atT] using ht1
          obtain ⟨j1, hj1⟩ := Int.eq_ofNat_of_zero_le ht0'
          have HE := hid (show liveQ m (seqP a p (k + 1)) = liveQ m (seqP a p k) ++ onW m 1 (j1 : Int) from by rw [seqP_succ, plc, stepB, stepB, ← HX.out, hok1, hok2, show (atT p 1 x).toNat = j1 from by simp [atT, hj1]]; simp [liveQ, onQ])
          have HI1 := hid (fun W => vr.inQ x 0 (a - 1) true (by simpa [atOk, atT, inB] using hok1) W)
          have HI2 := hid (fun W => vr.inQ (x - p) 0 (a - 1) false (by simpa [atOk, atT, inB] using hok2) W)
          have hjn1 : j1 < n0 := by omega
          have hjI1 : (j1 : Int) < (n0 : Int) := by omega
          obtain ⟨k1, k2, k3⟩ := HF0.out j1 hjn1
          have z0 := (HBr.out.cell (p := ⟨g0, off0 + j1, none⟩) (by show g0 < _; omega)).trans k1
          have HV1 := hid (k2.chg (Chg.ofBelow (lo := 0) HBr.out) (.inr (Nat.zero_le _)))
          have HN1 := hid k3
          have HL1 := hid (onW_len HOk.out 1 (j1 : Int))
          rw [show m.fr.getD j1 [] = onW m 1 (j1 : Int) from by simp [onW]] at HV1
          clear ht0 ht1 ht0' ht1' k1 k2 k3
          generalize V0 j1 = u1 at *
          have hwx : IntKind.i64.wrap (x - p) = x - p := IntWalk.i64_in _ (by omega)
          subst hj1
          clear hok1 hok2
          have HIx := hid HI1.out
          go_wp2_with fail
          refine (HI1.out _).mono ?_
          rintro e w9 ⟨rfl, hw9⟩
          subst w9
          go_wp2_with (at_builtin; refine wp_appendAll rfl _ _ rfl w.heap.size wr.heap.size _ _ HOr.out rfl u1 _ B HV1.out HN1.out rfl HBr.out.size (by have := HLQ.out; have := HL1.out; omega) ?_; intro v4 w4 o4 c4; have HB4 := hid (HBr.out.trans (c4.below (Nat.le_refl _) HBr.out.size)); have HO4 := hid o4; clear o4 c4; have y0 := (HB4.out.cell (p := ⟨pb, 0, none⟩) hpb).trans HC0.out; have y1 := (HB4.out.cell (p := ⟨pb, 1, none⟩) hpb).trans HC1.out; have y3 := (HB4.out.cell (p := ⟨pb, 3, none⟩) hpb).trans HC3.out; refine Classical.byContradiction fun hcontra => ?_; apply hcontra; clear hcontra)
          refine (HI2.out _).mono ?_
          rintro e w9 ⟨rfl, hw9⟩
          subst w9
          go_wp2
          go_roundw
          case rel => exact ⟨k + 1, (j1 : Int) + 1, _, by omega, by have := HX.out; omega, rfl, by go_num, by rw [HE.out]; exact HO4.out, HB4.out⟩
          case measure => simp [intOf]; omega
        | true =>
          obtain ⟨ht0, ht1, _, _⟩ := atOk_parts hok1
          have ht0' : 0 ≤ x := by simpa [atT] using ht0
          have ht1' : x < a := by simpa [atT] using ht1
          obtain ⟨j1, hj1⟩ := Int.eq_ofNat_of_zero_le ht0'
          obtain ⟨hs0, hs1, _, _⟩ := atOk_parts hok2
          have hs0' : 0 ≤ x - p := by simpa [atT] using hs0
          have hs1' : x - p < a := by simpa [atT] using hs1
          obtain ⟨j2, hj2⟩ := Int.eq_ofNat_of_zero_le hs0'
          have HE := hid (show liveQ m (seqP a p (k + 1)) = liveQ m (seqP a p k) ++ onW m 1 (j1 : Int) ++ onW m 2 (j2 : Int) from by rw [seqP_succ, plc, stepB, stepB, ← HX.out, hok1, hok2, show (atT p 1 x).toNat = j1 from by simp [atT, hj1], show (atT p 2 x).toNat = j2 from by simp [atT, hj2]]; simp [liveQ, onQ])
          have HI1 := hid (fun W => vr.inQ x 0 (a - 1) true (by simpa [atOk, atT, inB] using hok1) W)
          have HI2 := hid (fun W => vr.inQ (x - p) 0 (a - 1) true (by simpa [atOk, atT, inB] using hok2) W)
          have hjn1 : j1 < n0 := by omega
          have hjI1 : (j1 : Int) < (n0 : Int) := by omega
          obtain ⟨k1, k2, k3⟩ := HF0.out j1 hjn1
          have z0 := (HBr.out.cell (p := ⟨g0, off0 + j1, none⟩) (by show g0 < _; omega)).trans k1
          have HV1 := hid (k2.chg (Chg.ofBelow (lo := 0) HBr.out) (.inr (Nat.zero_le _)))
          have HN1 := hid k3
          have HL1 := hid (onW_len HOk.out 1 (j1 : Int))
          rw [show m.fr.getD j1 [] = onW m 1 (j1 : Int) from by simp [onW]] at HV1
          clear ht0 ht1 ht0' ht1' k1 k2 k3
          generalize V0 j1 = u1 at *
          have hjn2 : j2 < n1 := by omega
          have hjI2 : (j2 : Int) < (n1 : Int) := by omega
          obtain ⟨k1, k2, k3⟩ := HF1.out j2 hjn2
          have HZ1 := hid k1
          have z1 := (HBr.out.cell (p := ⟨g1, off1 + j2, none⟩) (by show g1 < _; omega)).trans k1
          have HV2 := hid (k2)
          have HN2 := hid k3
          have HL2 := hid (onW_len HOk.out 2 (j2 : Int))
          rw [show m.bk.getD j2 [] = onW m 2 (j2 : Int) from by simp [onW]] at HV2
          rw [hj2] at HI2
          have hwx : IntKind.i64.wrap (x - p) = (j2 : Int) := by rw [IntWalk.i64_in _ (by omega)]; exact hj2
          clear hs0 hs1 hs0' hs1' k1 k2 k3 hj2
          generalize V1 j2 = u2 at *
          subst hj1
          clear hok1 hok2
          have HIx := hid HI1.out
          go_wp2_with fail
          refine (HI1.out _).mono ?_
          rintro e w9 ⟨rfl, hw9⟩
          subst w9
          go_wp2_with (at_builtin; refine wp_appendAll rfl _ _ rfl w.heap.size wr.heap.size _ _ HOr.out rfl u1 _ B HV1.out HN1.out rfl HBr.out.size (by have := HLQ.out; have := HL1.out; omega) ?_; intro v4 w4 o4 c4; have HB4 := hid (HBr.out.trans (c4.below (Nat.le_refl _) HBr.out.size)); have HO4 := hid o4; clear o4 c4; have y0 := (HB4.out.cell (p := ⟨pb, 0, none⟩) hpb).trans HC0.out; have y1 := (HB4.out.cell (p := ⟨pb, 1, none⟩) hpb).trans HC1.out; have y3 := (HB4.out.cell (p := ⟨pb, 3, none⟩) hpb).trans HC3.out; have z1 := (HB4.out.cell (p := ⟨g1, off1 + j2, none⟩) (by show g1 < _; omega)).trans HZ1.out; refine Classical.byContradiction fun hcontra => ?_; apply hcontra; clear hcontra)
          refine (HI2.out _).mono ?_
          rintro e w9 ⟨rfl, hw9⟩
          subst w9
          have HV2' := hid (HV2.out.chg (Chg.ofBelow (lo := 0) HB4.out) (.inr (Nat.zero_le _)))
          go_wp2_with (at_builtin; refine wp_appendAll rfl _ _ rfl w.heap.size w4.heap.size _ _ HO4.out rfl u2 _ B HV2'.out HN2.out rfl HB4.out.size (by have := HLQ.out; have := HL2.out; have := HL1.out; rw [List.length_append]; omega) ?_; intro v5 w5 o5 c5; have HB5 := hid (HB4.out.trans (c5.below (Nat.le_refl _) HB4.out.size)); have HO5 := hid o5; clear o5 c5)
          go_roundw
          case rel => exact ⟨k + 1, (j1 : Int) + 1, _, by omega, by have := HX.out; omega, rfl, by go_num, by rw [HE.out]; exact HO5.out, HB5.out⟩
          case measure => simp [intOf]; omega
    · have hxa : ¬ x < a + 3 := by omega
      obtain rfl : k = N := by omega
      go_wp2
      go_ret
      exact ⟨_, rfl, by rw [HEl.out]; exact HOr.out, HBr.out⟩
end Go.Proofs.Ytfechjhngcmdpaa.mc
