/-
  Permutation braids: contracts of PermutationBraid, of the program and of its model.
-/
import Derived.Test.YtnnbhgiaaelkiaaH6
import Derived.Test.YtnnbhgiaaelkiaaCc
namespace Go.Proofs.Ytnnbhgiaaelkiaa.fn
open Go.RowKit Go.Proofs.Ytnnbhgiaaelkiaa.sl Go.Proofs.Ytnnbhgiaaelkiaa.pm
/-- A nil slice is empty, and the room is no less than the length. -/
def Fit (v : Value) : Prop := NilOk v ∧ CapOk v
theorem fit_own {w : World} {lo hi : Nat} {v : Value} {xs : List Int} (o : Own w lo hi v xs) : Fit v := ⟨nilok_own o, capok_own o⟩
end Go.Proofs.Ytnnbhgiaaelkiaa.fn
namespace Go.Proofs.Ytnnbhgiaaelkiaa.br
open Go.RowKit Go.Proofs.Ytnnbhgiaaelkiaa.sl Go.Proofs.Ytnnbhgiaaelkiaa.pm Go.Proofs.Ytnnbhgiaaelkiaa.bw Go.Proofs.Ytnnbhgiaaelkiaa.fn
set_option linter.unusedVariables false

def pbOk (p : List Int) : Bool := permB p && decide ((redW p).length ≤ 40)
def pbS (p : List Int) : Int := if pbOk p = true then (p.length : Int) else 0
def pbW (p : List Int) : List Int := if pbOk p = true then upW (redW p) else []
def pbC (p : List Int) : Int := if permB p = false then 1 else if (redW p).length ≤ 40 then 0 else 5
theorem pbW_len (p : List Int) : (pbW p).length ≤ 1000 := by
  unfold pbW
  split
  · rename_i h
    simp only [pbOk, Bool.and_eq_true, decide_eq_true_eq] at h
    rw [upW_len]; omega
  · simp
theorem pb_no {p : List Int} (h : permB p = false) : pbS p = 0 ∧ pbW p = [] ∧ pbC p = 1 := by simp [pbS, pbW, pbC, pbOk, h]
theorem pb_full {p : List Int} (h : permB p = true) (h2 : ¬ (redW p).length ≤ 40) : pbS p = 0 ∧ pbW p = [] ∧ pbC p = 5 := by simp [pbS, pbW, pbC, pbOk, h, h2]
theorem pb_yes {p : List Int} (h : permB p = true) (h2 : (redW p).length ≤ 40) : pbS p = (p.length : Int) ∧ pbW p = upW (redW p) ∧ pbC p = 0 := by simp [pbS, pbW, pbC, pbOk, h, h2]
theorem pb_join {p : List Int} (h : permB p = true) : joinS p.length [upW (redW p)] = pbS p ∧ joinW p.length [upW (redW p)] = pbW p ∧ joinC p.length [upW (redW p)] = pbC p := by
  have h12 := perm_len h
  by_cases h2 : (redW p).length ≤ 40
  · have hj : joinOk p.length [upW (redW p)] = true := by simp [joinOk, upW_len, h2]; omega
    obtain ⟨e1, e2, e3⟩ := pb_yes h h2
    rw [e1, e2, e3, joinS, joinW, joinC, if_pos hj, if_pos hj, if_pos hj]; simp
  · have hj : joinOk p.length [upW (redW p)] = false := by simp [joinOk, upW_len]; omega
    obtain ⟨e1, e2, e3⟩ := pb_full h h2
    rw [e1, e2, e3, joinS, joinW, joinC, hj]; simp
theorem redW_len {p : List Int} (h : permB p = true) : (redW p).length ≤ 144 := by
  have := redP_len p
  rw [redP, if_pos h] at this
  exact this
theorem wds_one (w : World) (B g : Nat) (a1 : Option Addr) (c1 : Nat) (xs : List Int) (h1 : w.cell? ⟨g, 0, none⟩ = some (.slice a1 xs.length c1)) (i1 : Ints w B (.slice a1 xs.length c1) xs) (n1 : NilOk (.slice a1 xs.length c1)) : Wds w B g [xs] := by
  intro j hj
  obtain rfl : j = 0 := by simpa using hj
  exact ⟨a1, c1, h1, i1, n1⟩

/-- The box of the answer behind a call that left it alone. -/
theorem box_kept {w w1 : World} (b : Below (w.alloc (.cells #[.int .i64 0, .slice none 0 0] 32)).heap.size (w.alloc (.cells #[.int .i64 0, .slice none 0 0] 32)) w1) :
    w1.cell? ⟨w.heap.size, 0, none⟩ = some (.int .i64 0) ∧ w1.cell? ⟨w.heap.size, 1, none⟩ = some (.slice none 0 0) ∧ w1.frozen? ⟨w.heap.size, 0, none⟩ = false ∧ w1.frozen? ⟨w.heap.size, 1, none⟩ = false ∧ Below w.heap.size w w1 ∧ w.heap.size + 1 ≤ w1.heap.size := by
  have hb := box1 b
  have h0 := hb.1 0
  have h1 := hb.1 1
  simp at h0 h1
  exact ⟨h0, h1, (b.frozen (p := ⟨w.heap.size, 0, none⟩) (by simp)).trans (World.frozen?_alloc_at _ _ _ _ rfl), (b.frozen (p := ⟨w.heap.size, 1, none⟩) (by simp)).trans (World.frozen?_alloc_at _ _ _ _ rfl), hb.2.1, hb.2.2⟩

set_option maxHeartbeats 1000000 in
theorem implPB (p : List Int) (v : Value) (B : Nat) (w : World) (ha : Ints w B v p) (hB : B ≤ w.heap.size) (hn : p.length ≤ 1099511627776) (hf : Fit v) :
    Calls Try.prog 36 #[v] w fun e w' => ∃ ao cap, e = .returned (.tuple #[.agg #[.int .i64 (pbS p), .slice ao (pbW p).length cap], .int .i64 (pbC p)]) ∧ Own w' w.heap.size w'.heap.size (.slice ao (pbW p).length cap) (pbW p) ∧ Below w.heap.size w w' := by
  have HA0 := hid (ints_al ha (.cells #[.int .i64 0, .slice none 0 0] 32))
  have HFt := hid hf
  obtain ⟨ao, cap, hv⟩ := ints_val ha
  clear ha hf
  by_cases h : permB p = true
  · have h12 := perm_len h
    have hJ := pb_join h
    have HL := hid (redW_len h)
    have HH := hid h
    obtain ⟨m, hm⟩ : ∃ m, m = (pbW p).length := ⟨_, rfl⟩
    obtain ⟨zS, hzS⟩ : ∃ z, z = pbS p := ⟨_, rfl⟩
    obtain ⟨zC, hzC⟩ : ∃ z, z = pbC p := ⟨_, rfl⟩
    obtain ⟨zW, hzW⟩ : ∃ z, z = pbW p := ⟨_, rfl⟩
    rw [← hzW] at hm ⊢
    rw [← hm, ← hzS, ← hzC]
    rw [← hzW, ← hzS, ← hzC] at hJ
    have HJ := hid hJ
    have HM := hid hm
    clear hJ hm hzS hzC hzW
    have HOk := hid (implOk p v B _ HA0.out (by simp; omega) hn)
    rw [h] at HOk
    obtain ⟨n, hnn⟩ : ∃ n, n = p.length := ⟨_, rfl⟩
    rw [← hnn] at hv h12
    have HN := hid hnn
    clear hnn h
    subst hv
    go_enter Try.func36, Try.ntmps36
    go_wp2_with fail
    refine HOk.out.mono ?_
    rintro e w1 ⟨rfl, b1⟩
    obtain ⟨r0, r1, f0, f1, hb, hz⟩ := box_kept b1
    have HB1 := hid hb
    have HA1 := hid (HA0.out.chg (Chg.ofBelow (lo := 0) b1) (.inr (Nat.zero_le _)))
    clear b1 hb HOk HA0
    go_wp2_with fail
    refine (implPermLetters p _ B w1 HA1.out (by omega) hn HFt.out.1 HH.out).mono ?_
    rintro e w2 ⟨v2, rfl, o2, b2⟩
    obtain ⟨ao2, cap2, hv2⟩ := own_val o2
    obtain ⟨k, hk⟩ : ∃ k, k = (upW (redW p)).length := ⟨_, rfl⟩
    rw [← hk] at hv2
    subst hv2
    have HK := hid hk
    clear hk
    have r0' := (b2.cell (p := ⟨w.heap.size, 0, none⟩) (by show w.heap.size < w1.heap.size; omega)).trans r0
    have r1' := (b2.cell (p := ⟨w.heap.size, 1, none⟩) (by show w.heap.size < w1.heap.size; omega)).trans r1
    have f0' := (b2.frozen (p := ⟨w.heap.size, 0, none⟩) (by show w.heap.size < w1.heap.size; omega)).trans f0
    have f1' := (b2.frozen (p := ⟨w.heap.size, 1, none⟩) (by show w.heap.size < w1.heap.size; omega)).trans f1
    have hz2 := b2.size
    have HB2 := hid (HB1.out.trans (b2.mono (by omega)))
    have HO2 := hid o2
    clear o2 b2 HA1 r0 r1 f0 f1
    have HWd : Hid (Wds (w2.alloc (.cells #[.slice ao2 k cap2] 22)) w2.heap.size w2.heap.size [upW (redW p)]) := hid (wds_one _ _ _ ao2 cap2 _ (by rw [← HK.out]; exact World.cell?_alloc_at _ _ _ _ rfl) (by rw [← HK.out]; exact ints_al HO2.out.ints _) (by rw [← HK.out]; exact nilok_own HO2.out))
    have HJo := hid (implJoined (n : Int) [upW (redW p)] w2.heap.size 1 w2.heap.size (w2.alloc (.cells #[.slice ao2 k cap2] 22)) HWd.out (by simp) (by simp) (by simp) (by simp [upW_len]; have := HL.out; omega))
    rw [HN.out, HJ.out.1, HJ.out.2.1, HJ.out.2.2, ← HN.out, ← HM.out] at HJo
    simp only [List.length_cons, List.length_nil, Nat.zero_add] at HJo
    go_wp2_with fail
    refine HJo.out.mono ?_
    rintro e w3 ⟨ao3, cap3, rfl, o3, b3⟩
    have k3 : Below w2.heap.size w2 w3 := ((Below.refl w2.heap.size w2).alloc (Nat.le_refl _) _).trans (b3.mono (by simp))
    have s0 := (k3.cell (p := ⟨w.heap.size, 0, none⟩) (by show w.heap.size < w2.heap.size; omega)).trans r0'
    have s1 := (k3.cell (p := ⟨w.heap.size, 1, none⟩) (by show w.heap.size < w2.heap.size; omega)).trans r1'
    have p0 := (k3.frozen (p := ⟨w.heap.size, 0, none⟩) (by show w.heap.size < w2.heap.size; omega)).trans f0'
    have p1 := (k3.frozen (p := ⟨w.heap.size, 1, none⟩) (by show w.heap.size < w2.heap.size; omega)).trans f1'
    have HO3 := hid (o3.lo (lo' := w2.heap.size) (by simp))
    have HB3 := hid (HB2.out.trans (k3.mono (by omega)))
    clear o3 b3 k3 r0' r1' f0' f1'
    go_wp2
    refine bodyPost_ret (v := .tuple #[.agg #[.int .i64 zS, .slice ao3 m cap3], .int .i64 zC]) (by simp [results, Try.results36, go_sem, s0, s1]) rfl ⟨ao3, cap3, rfl, ?_, ?_⟩
    · have h := own_other (own_other HO3.out w.heap.size 0 (.int .i64 zS) (by omega)) w.heap.size 1 (.slice ao3 m cap3) (by omega)
      have h2 := h.lo (lo' := w.heap.size) (by omega)
      simpa using h2
    · exact (HB3.out.setCell (by simp) _).setCell (by simp) _
  · have h' : permB p = false := by simpa using h
    have HW := hid (pb_no h')
    rw [HW.out.1, HW.out.2.1, HW.out.2.2, List.length_nil]
    have HOk := hid (implOk p v B _ HA0.out (by simp; omega) hn)
    rw [h'] at HOk
    clear h h' hv
    go_enter Try.func36, Try.ntmps36
    go_wp2_with fail
    refine HOk.out.mono ?_
    rintro e w1 ⟨rfl, b1⟩
    obtain ⟨r0, r1, f0, f1, hb, hz⟩ := box_kept b1
    have HB1 := hid hb
    clear b1 hb HOk HA0
    go_wp2
    refine bodyPost_ret (v := .tuple #[.agg #[.int .i64 0, .slice none 0 0], .int .i64 1]) (by simp [results, Try.results36, go_sem, r0, r1]) rfl ⟨none, 0, rfl, Own.nil _ _, ?_⟩
    exact (HB1.out.setCell (by simp) _).setCell (by simp) _

set_option maxHeartbeats 1000000 in
theorem specPB (p : List Int) (v : Value) (B : Nat) (w : World) (ha : Ints w B v p) (hB : B ≤ w.heap.size) (hn : p.length ≤ 1099511627776) (hf : Fit v) :
    Calls Try.prog 35 #[v] w fun e w' => ∃ ao cap, e = .returned (.tuple #[.agg #[.int .i64 (pbS p), .slice ao (pbW p).length cap], .int .i64 (pbC p)]) ∧ Own w' w.heap.size w'.heap.size (.slice ao (pbW p).length cap) (pbW p) ∧ Below w.heap.size w w' := by
  have HA0 := hid (ints_al ha (.cells #[.int .i64 0, .slice none 0 0] 32))
  have HFt := hid hf
  obtain ⟨ao, cap, hv⟩ := ints_val ha
  clear ha hf
  have HOk := hid (specPerm4 p v B _ HA0.out hn HFt.out.2)
  by_cases h : permB p = true
  · have h12 := perm_len h
    have HL := hid (redW_len h)
    have HH := hid h
    rw [h] at HOk
    obtain ⟨n, hnn⟩ : ∃ n, n = p.length := ⟨_, rfl⟩
    rw [← hnn] at hv h12
    have HN := hid hnn
    clear hnn
    subst hv
    by_cases h2 : (redW p).length ≤ 40
    · have HW := hid (pb_yes h h2)
      rw [HW.out.1, HW.out.2.1, HW.out.2.2, ← HN.out]
      obtain ⟨k, hk⟩ : ∃ k, k = (upW (redW p)).length := ⟨_, rfl⟩
      rw [← hk]
      have hk40 : k ≤ 40 := by rw [hk, upW_len]; exact h2
      have hd : decide ((40 : Int) < (k : Int)) = false := by simp; omega
      have HK := hid hk
      clear hk h h2
      go_enter Try.func35, Try.ntmps35
      go_wp2_with fail
      refine HOk.out.mono ?_
      rintro e w1 ⟨rfl, b1⟩
      obtain ⟨r0, r1, f0, f1, hb, hz⟩ := box_kept b1
      have HB1 := hid hb
      have HA1 := hid (HA0.out.chg (Chg.ofBelow (lo := 0) b1) (.inr (Nat.zero_le _)))
      clear b1 hb HOk HA0
      go_wp2_with fail
      refine (specWord4 p _ B w1 HA1.out HFt.out.1 (by omega) (by rw [← HN.out]; omega)).mono ?_
      rintro e w2 ⟨v2, rfl, o2, b2⟩
      obtain ⟨ao2, cap2, hv2⟩ := own_val o2
      rw [← HK.out] at hv2
      subst hv2
      have r0' := (b2.cell (p := ⟨w.heap.size, 0, none⟩) (by show w.heap.size < w1.heap.size; omega)).trans r0
      have r1' := (b2.cell (p := ⟨w.heap.size, 1, none⟩) (by show w.heap.size < w1.heap.size; omega)).trans r1
      have f0' := (b2.frozen (p := ⟨w.heap.size, 0, none⟩) (by show w.heap.size < w1.heap.size; omega)).trans f0
      have f1' := (b2.frozen (p := ⟨w.heap.size, 1, none⟩) (by show w.heap.size < w1.heap.size; omega)).trans f1
      have hz2 := b2.size
      have HB2 := hid (HB1.out.trans (b2.mono (by omega)))
      have HO2 := hid o2
      clear o2 b2 HA1 r0 r1 f0 f1
      go_wp2
      refine bodyPost_ret (v := .tuple #[.agg #[.int .i64 n, .slice ao2 k cap2], .int .i64 0]) (by simp [results, Try.results35, go_sem, r0', r1']) rfl ⟨ao2, cap2, rfl, ?_, ?_⟩
      · have h := own_other (own_other HO2.out w.heap.size 0 (.int .i64 n) (by omega)) w.heap.size 1 (.slice ao2 k cap2) (by omega)
        have h2 := h.lo (lo' := w.heap.size) (by omega)
        simpa using h2
      · exact (HB2.out.setCell (by simp) _).setCell (by simp) _
    · have HW := hid (pb_full h h2)
      rw [HW.out.1, HW.out.2.1, HW.out.2.2, List.length_nil]
      obtain ⟨k, hk⟩ : ∃ k, k = (upW (redW p)).length := ⟨_, rfl⟩
      have hk40 : 40 < k := by rw [hk, upW_len]; omega
      have hd : decide ((40 : Int) < (k : Int)) = true := by simp; omega
      have HK := hid hk
      clear hk h h2
      go_enter Try.func35, Try.ntmps35
      go_wp2_with fail
      refine HOk.out.mono ?_
      rintro e w1 ⟨rfl, b1⟩
      obtain ⟨r0, r1, f0, f1, hb, hz⟩ := box_kept b1
      have HB1 := hid hb
      have HA1 := hid (HA0.out.chg (Chg.ofBelow (lo := 0) b1) (.inr (Nat.zero_le _)))
      clear b1 hb HOk HA0
      go_wp2_with fail
      refine (specWord4 p _ B w1 HA1.out HFt.out.1 (by omega) (by rw [← HN.out]; omega)).mono ?_
      rintro e w2 ⟨v2, rfl, o2, b2⟩
      obtain ⟨ao2, cap2, hv2⟩ := own_val o2
      rw [← HK.out] at hv2
      subst hv2
      have r0' := (b2.cell (p := ⟨w.heap.size, 0, none⟩) (by show w.heap.size < w1.heap.size; omega)).trans r0
      have r1' := (b2.cell (p := ⟨w.heap.size, 1, none⟩) (by show w.heap.size < w1.heap.size; omega)).trans r1
      have f0' := (b2.frozen (p := ⟨w.heap.size, 0, none⟩) (by show w.heap.size < w1.heap.size; omega)).trans f0
      have f1' := (b2.frozen (p := ⟨w.heap.size, 1, none⟩) (by show w.heap.size < w1.heap.size; omega)).trans f1
      have hz2 := b2.size
      have HB2 := hid (HB1.out.trans (b2.mono (by omega)))
      clear o2 b2 HA1 r0 r1 f0 f1
      go_wp2
      refine bodyPost_ret (v := .tuple #[.agg #[.int .i64 0, .slice none 0 0], .int .i64 5]) (by simp [results, Try.results35, go_sem, r0', r1']) rfl ⟨none, 0, rfl, Own.nil _ _, ?_⟩
      exact (HB2.out.setCell (by simp) _).setCell (by simp) _
  · have h' : permB p = false := by simpa using h
    have HW := hid (pb_no h')
    rw [HW.out.1, HW.out.2.1, HW.out.2.2, List.length_nil]
    rw [h'] at HOk
    clear h h' hv
    go_enter Try.func35, Try.ntmps35
    go_wp2_with fail
    refine HOk.out.mono ?_
    rintro e w1 ⟨rfl, b1⟩
    obtain ⟨r0, r1, f0, f1, hb, hz⟩ := box_kept b1
    have HB1 := hid hb
    clear b1 hb HOk HA0
    go_wp2
    refine bodyPost_ret (v := .tuple #[.agg #[.int .i64 0, .slice none 0 0], .int .i64 1]) (by simp [results, Try.results35, go_sem, r0, r1]) rfl ⟨none, 0, rfl, Own.nil _ _, ?_⟩
    exact (HB1.out.setCell (by simp) _).setCell (by simp) _

end Go.Proofs.Ytnnbhgiaaelkiaa.br
