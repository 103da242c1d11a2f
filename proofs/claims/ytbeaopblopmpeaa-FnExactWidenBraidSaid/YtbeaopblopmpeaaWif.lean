/-
  WidenBraid, one case.
-/
import Derived.Test.YtbeaopblopmpeaaWi
namespace Go.Proofs.Ytbeaopblopmpeaa.br
open Go.RowKit Go.Proofs.Ytbeaopblopmpeaa.sl Go.Proofs.Ytbeaopblopmpeaa.pm Go.Proofs.Ytbeaopblopmpeaa.bw Go.Proofs.Ytbeaopblopmpeaa.fn

set_option maxHeartbeats 2000000 in
theorem implWidenF (s : Int) (xs : List Int) (l r : Int) (v : Value) (B : Nat) (w : World) (ha : Ints w B v xs) (hB : B ≤ w.heap.size) (hn : xs.length ≤ 1099511627776) (h : okB s xs = true) (hr : rngB l r = true) :
    Calls Try.prog 36 #[.agg #[.int .i64 s, v], .int .i64 l, .int .i64 r] w fun e w' => ∃ ao cap, e = .returned (.tuple #[.agg #[.int .i64 (widS s xs l r), .slice ao (widW s xs l r).length cap], .int .i64 (widC s xs l r)]) ∧ Own w' w.heap.size w'.heap.size (.slice ao (widW s xs l r).length cap) (widW s xs l r) ∧ Below w.heap.size w w' := by
  obtain ⟨ao, cap, hv⟩ := ints_val ha
  obtain ⟨n, hnn⟩ : ∃ n, n = xs.length := ⟨_, rfl⟩
  rw [← hnn] at hv
  subst hv
  have HA := hid ha
  have HN := hid hnn
  clear ha hnn
  have HV := hid (implValidB s xs (.slice ao n cap) B (((w.alloc (.cells #[.int .i64 s, .slice ao n cap] 27)).alloc (.cells #[.int .i64 l] 2)).alloc (.cells #[.int .i64 0, .slice none 0 0] 27)) (ints_al (ints_al (ints_al HA.out _) _) _) (by simp; omega) hn)
  have HJ := hid (wid_join h hr)
  have hrr : decide (0 ≤ l ∧ l ≤ 12) = true ∧ decide (0 ≤ r ∧ r ≤ 12) = true := by simpa [rngB] using hr
  obtain ⟨hl, hr2⟩ := hrr
  have HLr : Hid (0 ≤ l ∧ l ≤ 12) := hid (of_decide_eq_true hl)
  have hl12 := HLr.out
  have hr12 : 0 ≤ r ∧ r ≤ 12 := of_decide_eq_true hr2
  have hs12 : 0 ≤ s ∧ s ≤ 12 := ⟨(ok_parts h).1, (ok_parts h).2.1⟩
  have HK := hid (ok_small h)
  have h40 : n ≤ 40 := by rw [HN.out]; exact (ok_parts h).2.2.1
  obtain ⟨hl0, hl1⟩ := hl12
  obtain ⟨hr0, hr1⟩ := hr12
  obtain ⟨hs0, hs1⟩ := hs12
  rw [h] at HV
  obtain ⟨m, hm⟩ : ∃ m, m = (widW s xs l r).length := ⟨_, rfl⟩
  obtain ⟨zS, hzS⟩ : ∃ z, z = widS s xs l r := ⟨_, rfl⟩
  obtain ⟨zC, hzC⟩ : ∃ z, z = widC s xs l r := ⟨_, rfl⟩
  rw [← hm, ← hzS, ← hzC]
  have HM := hid hm.symm
  have HZ : Hid (widS s xs l r = zS ∧ widC s xs l r = zC) := hid ⟨hzS.symm, hzC.symm⟩
  clear h hr hm hzS hzC
  go_enter Try.func36, Try.ntmps36
  go_wp2_with fail
  refine HV.out.mono ?_
  rintro e w1 ⟨rfl, b1⟩
  have HB1 := hid (box3 b1)
  have d0 := HB1.out.1 0
  have d1 := HB1.out.1 1
  have d2 := HB1.out.2.1 0
  have hz := HB1.out.2.2.2.2
  simp at d0 d1 d2
  have HA1 := hid (HA.out.chg (Chg.ofBelow (lo := 0) HB1.out.2.2.2.1) (.inr (Nat.zero_le _)))
  clear b1 HV HA
  have HMp := hid (mapped2 (widF l) 79 (.pointer (some ⟨w.heap.size + 1, 0, none⟩)) s xs (.slice ao n cap) B w1 HA1.out (by omega) hn (enters_of Try.func79 (by kernel_rfl) rfl) (fun j hj W hW => implWide (w.heap.size + 1) l _ W ((hW.cell (p := ⟨w.heap.size + 1, 0, none⟩) (by show w.heap.size + 1 < w1.heap.size; omega)).trans d2) HLr.out (HK.out j hj)))
  rw [← HN.out] at HMp
  go_wp2_with (first | (go_at_call 61; refine (within64 _ _ _ _).mono ?_; rintro e w' ⟨rfl, rfl⟩) | fail)
  refine HMp.out.mono ?_
  rintro e w2 ⟨ao2, cap2, rfl, o2, b2⟩
  have hz2 := b2.size
  have e0 := (b2.cell (p := ⟨w.heap.size, 0, none⟩) (by show w.heap.size < w1.heap.size; omega)).trans d0
  have e2 := (b2.cell (p := ⟨w.heap.size + 1, 0, none⟩) (by show w.heap.size + 1 < w1.heap.size; omega)).trans d2
  have r0 := (b2.cell (p := ⟨w.heap.size + 1 + 1, 0, none⟩) (by show w.heap.size + 1 + 1 < w1.heap.size; omega)).trans ((HB1.out.2.2.1 0).1)
  have r1 := (b2.cell (p := ⟨w.heap.size + 1 + 1, 1, none⟩) (by show w.heap.size + 1 + 1 < w1.heap.size; omega)).trans ((HB1.out.2.2.1 1).1)
  have f0 := (b2.frozen (p := ⟨w.heap.size + 1 + 1, 0, none⟩) (by show w.heap.size + 1 + 1 < w1.heap.size; omega)).trans ((HB1.out.2.2.1 0).2)
  have f1 := (b2.frozen (p := ⟨w.heap.size + 1 + 1, 1, none⟩) (by show w.heap.size + 1 + 1 < w1.heap.size; omega)).trans ((HB1.out.2.2.1 1).2)
  simp at r0 r1
  have HO2 := hid o2
  have HB2 := hid (HB1.out.2.2.2.1.trans (b2.mono (by omega)))
  clear b2 o2 d0 d1 d2 HA1 HMp
  have bE : Below w2.heap.size w2 (w2.alloc (.cells #[.int .i64 s, .slice ao2 n cap2] 27)) := (Below.refl _ _).alloc (Nat.le_refl _) _
  have x0 := (bE.cell (p := ⟨w.heap.size, 0, none⟩) (by show w.heap.size < w2.heap.size; omega)).trans e0
  have x2 := (bE.cell (p := ⟨w.heap.size + 1, 0, none⟩) (by show w.heap.size + 1 < w2.heap.size; omega)).trans e2
  have HWd := hid (wds_one (w2.alloc (.cells #[.int .i64 s, .slice ao2 n cap2] 27)) w1.heap.size w2.heap.size ao2 n cap2 (xs.map (widF l)) (own_al HO2.out _) (by rw [HN.out]; simp) 22)
  have HJo := hid (implJoined (l + s + r) [xs.map (widF l)] _ 1 w2.heap.size ((w2.alloc (.cells #[.int .i64 s, .slice ao2 n cap2] 27)).alloc (.cells #[.slice ao2 n cap2] 22)) HWd.out (by simp; omega) (by simp) (by simp) (by simp; rw [← HN.out]; omega))
  rw [HJ.out.1, HJ.out.2.1, HJ.out.2.2, HM.out, HZ.out.1, HZ.out.2] at HJo
  have hsz1 : (w2.alloc (.cells #[.int .i64 s, .slice ao2 n cap2] 27)).heap.size = w2.heap.size + 1 := by simp
  rw [hsz1] at HJo
  clear hsz1
  simp only [List.length_cons, List.length_nil, Nat.zero_add] at HJo
  clear bE
  go_wp2_with fail
  refine HJo.out.mono ?_
  rintro e w3 ⟨ao3, cap3, rfl, o3, b3⟩
  have hb3 := box2 b3
  have k3 := hb3.2.2.1
  have s0 := (k3.cell (p := ⟨w.heap.size + 1 + 1, 0, none⟩) (by show w.heap.size + 1 + 1 < w2.heap.size; omega)).trans r0
  have s1 := (k3.cell (p := ⟨w.heap.size + 1 + 1, 1, none⟩) (by show w.heap.size + 1 + 1 < w2.heap.size; omega)).trans r1
  have p0 := (k3.frozen (p := ⟨w.heap.size + 1 + 1, 0, none⟩) (by show w.heap.size + 1 + 1 < w2.heap.size; omega)).trans f0
  have p1 := (k3.frozen (p := ⟨w.heap.size + 1 + 1, 1, none⟩) (by show w.heap.size + 1 + 1 < w2.heap.size; omega)).trans f1
  have HO3 := hid (o3.lo (lo' := w2.heap.size) (by simp; omega))
  have HB3 := hid (HB2.out.trans (k3.mono (by omega)))
  clear o3 b3 hb3 k3 r0 r1 f0 f1 e0 e2 x0 x2
  go_wp2
  refine bodyPost_ret (v := .tuple #[.agg #[.int .i64 zS, .slice ao3 m cap3], .int .i64 zC]) (by simp [results, Try.results36, go_sem, s0, s1]) rfl ⟨ao3, cap3, rfl, ?_, ?_⟩
  · have h := own_other (own_other HO3.out (w.heap.size + 1 + 1) 0 (.int .i64 zS) (by omega)) (w.heap.size + 1 + 1) 1 (.slice ao3 m cap3) (by omega)
    have h2 := h.lo (lo' := w.heap.size) (by omega)
    simpa using h2
  · exact (HB3.out.setCell (by show w.heap.size ≤ w.heap.size + 1 + 1; omega) _).setCell (by show w.heap.size ≤ w.heap.size + 1 + 1; omega) _

end Go.Proofs.Ytbeaopblopmpeaa.br
