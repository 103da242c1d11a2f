/-
  knittedOn: what each stitch of a row does.
-/
import Derived.Test.YtglkchcfggclaaaDoorKn1
import Derived.Test.YtglkchcfggclaaaDoorSt5
namespace Go.Proofs.YtglkchcfggclaaaDoor.kn
open Go.RowKit Go.Proofs.YtglkchcfggclaaaDoor.sl Go.Proofs.YtglkchcfggclaaaDoor.st
set_option linter.unusedVariables false

theorem sa1 {ss ks : List Int} (h : stks ss = false) : saC ss ks = 1 := by simp [saC, h]
theorem sa2 {ss ks : List Int} (h : lst ks = false) : saC ss ks = 1 := by simp [saC, h]
theorem sa3 {ss ks : List Int} (h1 : stks ss = true) (h2 : lst ks = true) (h3 : tkS ks ≠ (ss.length : Int)) : saC ss ks = 10 := by simp [saC, h1, h2, h3]
theorem sa4 {ss ks : List Int} (h1 : stks ss = true) (h2 : lst ks = true) (h3 : tkS ks = (ss.length : Int)) (h4 : 8 < mdS ks) : saC ss ks = 5 := by simp [saC, h1, h2, h3, h4]
theorem sa5 {ss ks : List Int} (h1 : stks ss = true) (h2 : lst ks = true) (h3 : tkS ks = (ss.length : Int)) (h4 : ¬ 8 < mdS ks) (h5 : badTo ss ks ks.length = true) : saC ss ks = 5 := by simp [saC, h1, h2, h3, h4, h5]
theorem sa6 {ss ks : List Int} (h1 : stks ss = true) (h2 : lst ks = true) (h3 : tkS ks = (ss.length : Int)) (h4 : ¬ 8 < mdS ks) (h5 : badTo ss ks ks.length = false) : saC ss ks = 0 := by simp [saC, h1, h2, h3, h4, h5]

/-- What knittedOn returns beside its code. -/
def KP (ss ks : List Int) (B lo : Nat) (w' : World) (v : Value) : Prop :=
  (saC ss ks ≠ 0 ∧ v = .slice none 0 0) ∨ (saC ss ks = 0 ∧ ∃ L, KR w' lo B v L ∧ KL ss ks ks.length L ∧ ∀ k ∈ L, ∃ a n c b m d, k.tv = .slice a n c ∧ k.mv = .slice b m d)
theorem kp_err {ss ks : List Int} {B lo : Nat} {w' : World} {c : Int} (h : saC ss ks = c) (hc : c ≠ 0) : KP ss ks B lo w' (.slice none 0 0) := .inl ⟨by rw [h]; exact hc, rfl⟩

/-- The rest of the stacks, and its value. -/
structure Rest (W : World) (B : Nat) (s : Value) (xs : List Int) : Prop where
  ints : Ints W B s xs
  cap : ∃ ao c, s = .slice ao xs.length c ∧ xs.length ≤ c ∧ c ≤ 9223372036854775807

theorem ints_cut {w : World} {B : Nat} {ao : Option Addr} {n c : Nat} {xs : List Int} (h : Ints w B (.slice ao n c) xs) (t : Nat) (ht : t ≤ xs.length) : Ints w B (.slice ao t c) (xs.take t) := by
  by_cases h0 : t = 0
  · subst h0; exact .inl ⟨by simp, ao, c, rfl⟩
  · rcases h with ⟨rfl, _⟩ | ⟨hp, b, off, cap, hv, hb, hc⟩
    · simp at ht; omega
    · simp only [Value.slice.injEq] at hv
      obtain ⟨rfl, hl, rfl⟩ := hv
      have hlt : (xs.take t).length = t := by rw [List.length_take]; omega
      refine .inr ⟨by omega, b, off, c, by rw [hlt], hb, fun j hj => ?_⟩
      rw [hlt] at hj
      rw [hc j (by omega)]
      simp [List.getD, hj]
theorem ints_rest {w : World} {B : Nat} {ao ao' : Option Addr} {n n' c c' : Nat} {xs : List Int} (h : Ints w B (.slice ao n c) xs) (t : Nat) (hn : n' = xs.length - t) (ha : n' ≠ 0 → ∀ b o, ao = some ⟨b, o, none⟩ → ao' = some ⟨b, o + t, none⟩) : Ints w B (.slice ao' n' c') (xs.drop t) := by
  by_cases h0 : n' = 0
  · subst h0; exact .inl ⟨List.drop_eq_nil_of_le (by omega), ao', c', rfl⟩
  · rcases h with ⟨rfl, _⟩ | ⟨hp, b, off, cap, hv, hb, hc⟩
    · simp at hn; omega
    · simp only [Value.slice.injEq] at hv
      obtain ⟨rfl, hl, rfl⟩ := hv
      have hlt : (xs.drop t).length = n' := by rw [List.length_drop, hn]
      refine .inr ⟨by omega, b, off + t, c', by rw [hlt, ha h0 b off rfl], hb, fun j hj => ?_⟩
      rw [hlt] at hj
      rw [Nat.add_assoc, hc (t + j) (by omega)]
      simp [List.getD, List.getElem?_drop]

set_option maxRecDepth 100000 in
set_option maxHeartbeats 4000000 in
theorem implKnit (ss ks : List Int) (v u : Value) (B C : Nat) (w : World) (ha : Ints w B v ss) (hB : B ≤ w.heap.size) (hn : ss.length ≤ 1099511627776) (hcap : Rest w B v ss)
    (hb : Ints w C u ks) (hC : C ≤ w.heap.size) (hm : ks.length ≤ 1099511627776) (hT : stb.Tab w) :
    Calls Tryd.prog 52 #[v, u] w fun e w' => ∃ v', e = .returned (.tuple #[v', .int .i64 (saC ss ks)]) ∧ KP ss ks B w.heap.size w' v' ∧ Below w.heap.size w w' := by
  have HA := hid ha
  have HBi := hid hb
  have HCs := hid (fun W (h : Ints W B v ss) (hb : B ≤ W.heap.size) => implCols ss v B W h hb hn)
  have HSs := hid (fun W (h : Ints W C u ks) (hb : C ≤ W.heap.size) => implSts ks u C W h hb hm)
  have HTk := hid (fun W (h : Ints W C u ks) (hb : C ≤ W.heap.size) (t : stb.Tab W) => implTakenBy ks u C W h hb hm t)
  have HMd := hid (fun W (h : Ints W C u ks) (hb : C ≤ W.heap.size) (t : stb.Tab W) => implMadeBy ks u C W h hb hm t)
  have HRest := hid hcap
  have HTb := hid hT
  obtain ⟨ao, cap, hv⟩ := br.ints_val ha
  obtain ⟨bo, cbp, hu⟩ := br.ints_val hb
  clear ha hcap hT
  cases h1 : stks ss
  · have HE := hid (sa1 (ks := ks) h1)
    rw [h1] at HCs
    clear h1 hb HSs HTk HMd
    generalize ss.length = n at *
    generalize ks.length = m at *
    subst hv hu
    go_enter Tryd.func52, Tryd.ntmps52
    go_wp2_with fail
    refine (HCs.out _ HA.out hB).mono ?_
    rintro e w1 ⟨rfl, b1⟩
    have B1 := hid b1
    clear b1
    go_wp2
    go_ret2
    exact ⟨_, by rw [HE.out]; rfl, kp_err HE.out (by decide), B1.out⟩
  cases h2 : lst ks
  · have HE := hid (sa2 (ss := ss) h2)
    rw [h1] at HCs
    rw [h2] at HSs
    clear h1 h2 hb HTk HMd
    generalize ss.length = n at *
    generalize ks.length = m at *
    subst hv hu
    go_enter Tryd.func52, Tryd.ntmps52
    go_wp2_with fail
    refine (HCs.out _ HA.out hB).mono ?_
    rintro e w1 ⟨rfl, b1⟩
    have B1 := hid b1
    have HBi1 := hid (HBi.out.chg (Chg.ofBelow (lo := 0) b1) (.inr (Nat.zero_le _)))
    have hz1 := b1.size
    clear b1
    go_wp2_with fail
    refine (HSs.out _ HBi1.out (by omega)).mono ?_
    rintro e w2 ⟨rfl, b2⟩
    have B2 := hid (B1.out.trans (b2.mono hz1))
    clear b2
    go_wp2
    go_ret2
    exact ⟨_, by rw [HE.out]; rfl, kp_err HE.out (by decide), B2.out⟩
  by_cases h3 : tkS ks = (ss.length : Int)
  rotate_left
  · have HE := hid (sa3 h1 h2 h3)
    rw [h1] at HCs
    rw [h2] at HSs
    have e3 : (tkS ks == (ss.length : Int)) = false := by simpa using h3
    have e3' : (tkS ks != (ss.length : Int)) = true := by simpa using h3
    clear h1 h2 h3 hb HMd
    generalize tkS ks = z at *
    generalize ss.length = n at *
    generalize ks.length = m at *
    subst hv hu
    go_enter Tryd.func52, Tryd.ntmps52
    go_wp2_with fail
    refine (HCs.out _ HA.out hB).mono ?_
    rintro e w1 ⟨rfl, b1⟩
    have B1 := hid b1
    have HBi1 := hid (HBi.out.chg (Chg.ofBelow (lo := 0) b1) (.inr (Nat.zero_le _)))
    have hz1 := b1.size
    clear b1
    go_wp2_with fail
    refine (HSs.out _ HBi1.out (by omega)).mono ?_
    rintro e w2 ⟨rfl, b2⟩
    have B2 := hid (B1.out.trans (b2.mono hz1))
    have HBi2 := hid (HBi1.out.chg (Chg.ofBelow (lo := 0) b2) (.inr (Nat.zero_le _)))
    have hz2 := b2.size
    clear b2
    go_wp2_with fail
    refine (HTk.out _ HBi2.out (by omega) (stb.carry HTb.out B2.out)).mono ?_
    rintro e w3 ⟨rfl, b3⟩
    have B3 := hid (B2.out.trans (b3.mono (by omega)))
    clear b3
    go_wp2
    go_ret2
    exact ⟨_, by rw [HE.out]; rfl, kp_err HE.out (by decide), B3.out⟩
  have e3 : (tkS ks == (ss.length : Int)) = true := by simpa using h3
  have e3' : (tkS ks != (ss.length : Int)) = false := by simpa using h3
  by_cases h4 : 8 < mdS ks
  · have HE := hid (sa4 h1 h2 h3 h4)
    rw [h1] at HCs
    rw [h2] at HSs
    have e4 : decide ((8 : Int) < mdS ks) = true := by simpa using h4
    clear h1 h2 h3 h4 hb
    generalize tkS ks = z at *
    generalize mdS ks = y at *
    generalize ss.length = n at *
    generalize ks.length = m at *
    subst hv hu
    go_enter Tryd.func52, Tryd.ntmps52
    go_wp2_with fail
    refine (HCs.out _ HA.out hB).mono ?_
    rintro e w1 ⟨rfl, b1⟩
    have B1 := hid b1
    have HBi1 := hid (HBi.out.chg (Chg.ofBelow (lo := 0) b1) (.inr (Nat.zero_le _)))
    have hz1 := b1.size
    clear b1
    go_wp2_with fail
    refine (HSs.out _ HBi1.out (by omega)).mono ?_
    rintro e w2 ⟨rfl, b2⟩
    have B2 := hid (B1.out.trans (b2.mono hz1))
    have HBi2 := hid (HBi1.out.chg (Chg.ofBelow (lo := 0) b2) (.inr (Nat.zero_le _)))
    have hz2 := b2.size
    clear b2
    go_wp2_with fail
    refine (HTk.out _ HBi2.out (by omega) (stb.carry HTb.out B2.out)).mono ?_
    rintro e w3 ⟨rfl, b3⟩
    have B3 := hid (B2.out.trans (b3.mono (by omega)))
    have HBi3 := hid (HBi2.out.chg (Chg.ofBelow (lo := 0) b3) (.inr (Nat.zero_le _)))
    have hz3 := b3.size
    clear b3
    go_wp2_with fail
    refine (HMd.out _ HBi3.out (by omega) (stb.carry HTb.out B3.out)).mono ?_
    rintro e w4 ⟨rfl, b4⟩
    have B4 := hid (B3.out.trans (b4.mono (by omega)))
    clear b4
    go_wp2
    go_ret2
    exact ⟨_, by rw [HE.out]; rfl, kp_err HE.out (by decide), B4.out⟩
  have e4 : decide ((8 : Int) < mdS ks) = false := by simpa using h4
  have hkn := (lst_parts h2).2
  have hk16 := (lst_parts h2).1
  have hst := stks_parts h1
  have htot : bw.sumL (ks.map tk) = (ss.length : Int) := by rw [← h3, tkS, h2]; rfl
  have HKl := hid (fun k (h : k < ks.length) => off_succ hkn k h)
  have HTl := hid (fun k (h : k < ks.length) => tkn_len (ss := ss) hkn htot k h)
  have HTa := hid (fun k (h : k < ks.length) => tkn_at (ss := ss) hkn htot k h)
  have HOl := hid (fun k (h : k ≤ ks.length) => off_le (ss := ss) hkn htot k h)
  have HKn := hid hkn
  have HSt := hid hst
  have HE5 := hid (fun h => sa5 h1 h2 h3 h4 h)
  have HE6 := hid (fun h => sa6 h1 h2 h3 h4 h)
  rw [h1] at HCs
  rw [h2] at HSs
  obtain ⟨i0, hi, hz0, hz1, hz2⟩ := info_parts infoK
  clear h1 h2 h3 h4 hkn hst htot
  rcases hb with ⟨hks, bo2, cb2, hu2⟩ | ⟨hp, b, offb, cb2, hu2, hbb, hc⟩
  · subst hks
    clear hu
    have HF := hid (HE6.out rfl)
    clear HKl HTl HTa HOl HKn HSt HE5 HE6
    generalize tkS [] = z at *
    generalize mdS [] = y at *
    generalize ss.length = n at *
    subst hv hu2
    go_enter Tryd.func52, Tryd.ntmps52
    go_wp2_with fail
    refine (HCs.out _ HA.out hB).mono ?_
    rintro e w1 ⟨rfl, b1⟩
    have B1 := hid b1
    have HBi1 := hid (HBi.out.chg (Chg.ofBelow (lo := 0) b1) (.inr (Nat.zero_le _)))
    have hz1' := b1.size
    clear b1
    go_wp2_with fail
    refine (HSs.out _ HBi1.out (by omega)).mono ?_
    rintro e w2 ⟨rfl, b2⟩
    have B2 := hid (B1.out.trans (b2.mono hz1'))
    have HBi2 := hid (HBi1.out.chg (Chg.ofBelow (lo := 0) b2) (.inr (Nat.zero_le _)))
    have hz2' := b2.size
    clear b2
    go_wp2_with fail
    refine (HTk.out _ HBi2.out (by omega) (stb.carry HTb.out B2.out)).mono ?_
    rintro e w3 ⟨rfl, b3⟩
    have B3 := hid (B2.out.trans (b3.mono (by omega)))
    have HBi3 := hid (HBi2.out.chg (Chg.ofBelow (lo := 0) b3) (.inr (Nat.zero_le _)))
    have hz3' := b3.size
    clear b3
    go_wp2_with fail
    refine (HMd.out _ HBi3.out (by omega) (stb.carry HTb.out B3.out)).mono ?_
    rintro e w4 ⟨rfl, b4⟩
    have B4 := hid (B3.out.trans (b4.mono (by omega)))
    have hz4' := b4.size
    clear b4
    go_wp2_with (at_make; refine wpList_make_own _ rfl _ _ 57 rfl w.heap.size 74 i0 (.agg #[.slice none 0 0, .slice none 0 0]) 2 Tryd.underlying57 hi hz0 hz1 .i64 .i64 _ 0 rfl rfl (by first | rfl | simp) (by rw [hz2]; omega) (by unfold maxLen; omega) (by omega) ?_; intro w5 hown5 hgrow5; have HO5 := hid hown5; have B5 := hid (B4.out.grown hgrow5 (by omega) (fun k hk => by cases hk)); clear hown5 hgrow5)
    refine wp_loop_rounds 1 ?_
    rw [rounds_succ]
    go_wp2
    go_ret2
    exact ⟨_, by rw [HF.out]; rfl, .inr ⟨HF.out, [], KR.made HO5.out hB, KL.zero _ _, fun k hk => by simp at hk⟩, B5.out⟩
  have HCk := hid hc
  clear hu hc
  generalize tkS ks = z at *
  generalize mdS ks = y at *
  obtain ⟨m, hmm⟩ : ∃ m, m = ks.length := ⟨_, rfl⟩
  rw [← hmm] at hp hm hk16 HCk HKl HTl HTa HOl HKn HE5 HE6 hu2
  have HMm := hid hmm
  obtain ⟨n, hnn⟩ : ∃ n, n = ss.length := ⟨_, rfl⟩
  rw [← hnn] at hv hn HTl HOl HSt e3 e3'
  have HNn := hid hnn
  subst hv hu2
  clear hmm hnn
  go_enter Tryd.func52, Tryd.ntmps52
  go_wp2_with fail
  refine (HCs.out _ HA.out hB).mono ?_
  rintro e w1 ⟨rfl, b1⟩
  have B1 := hid b1
  have HBi1 := hid (HBi.out.chg (Chg.ofBelow (lo := 0) b1) (.inr (Nat.zero_le _)))
  have hz1' := b1.size
  clear b1
  go_wp2_with fail
  refine (HSs.out _ HBi1.out (by omega)).mono ?_
  rintro e w2 ⟨rfl, b2⟩
  have B2 := hid (B1.out.trans (b2.mono hz1'))
  have HBi2 := hid (HBi1.out.chg (Chg.ofBelow (lo := 0) b2) (.inr (Nat.zero_le _)))
  have hz2' := b2.size
  clear b2
  go_wp2_with fail
  refine (HTk.out _ HBi2.out (by omega) (stb.carry HTb.out B2.out)).mono ?_
  rintro e w3 ⟨rfl, b3⟩
  have B3 := hid (B2.out.trans (b3.mono (by omega)))
  have HBi3 := hid (HBi2.out.chg (Chg.ofBelow (lo := 0) b3) (.inr (Nat.zero_le _)))
  have hz3' := b3.size
  clear b3
  go_wp2_with fail
  refine (HMd.out _ HBi3.out (by omega) (stb.carry HTb.out B3.out)).mono ?_
  rintro e w4 ⟨rfl, b4⟩
  have B4 := hid (B3.out.trans (b4.mono (by omega)))
  have hz4' := b4.size
  clear b4
  go_wp2_with (at_make; refine wpList_make_own _ rfl _ _ 57 rfl w.heap.size 74 i0 (.agg #[.slice none 0 0, .slice none 0 0]) 2 Tryd.underlying57 hi hz0 hz1 .i64 .i64 _ m rfl rfl (by first | rfl | simp) (by rw [hz2]; omega) (by unfold maxLen; omega) (by omega) ?_; intro w5 hown5 hgrow5; have HO5 := hid hown5; have B5 := hid (B4.out.grown hgrow5 (by omega) (fun k hk => by cases hk)); clear hown5 hgrow5)
  have HR5 := hid (show Rest w5 B (.slice ao n cap) (ss.drop (off ks 0)) from by
    obtain ⟨x1, x2⟩ := HRest.out
    exact ⟨x1.chg (Chg.ofBelow (lo := 0) B5.out) (.inr (Nat.zero_le _)), x2⟩)
  clear HRest HCs HSs HTk HMd HBi1 HBi2 HBi3 B1 B2 B3 B4
  go_loopw [0, 6, 33] (fun s r i wr => ∃ k : Nat, k ≤ m ∧ i = .int .i64 k ∧ Rest wr B s (ss.drop (off ks k)) ∧ (∃ L, KR wr w.heap.size B r L ∧ KL ss ks k L ∧ ∀ q ∈ L, ∃ a n c b m d, q.tv = .slice a n c ∧ q.mv = .slice b m d) ∧ badTo ss ks k = false ∧ Below w.heap.size w wr) (fun _ _ i _ => m - (intOf i).toNat)
  case atStart => exact ⟨0, Nat.zero_le _, rfl, HR5.out, ⟨[], KR.made HO5.out hB, KL.zero _ _, fun k hk => by simp at hk⟩, rfl, B5.out⟩
  case round =>
    obtain ⟨k, hk, rfl, hrest, ⟨L, hkr, hkl, hone⟩, hbad, hbel⟩ := hrel
    have HKR := hid hkr
    have HKL := hid hkl
    have HOn := hid hone
    have HBad := hid hbad
    have HB := hid hbel
    have HRs := hid hrest
    clear hkr hkl hone hbad hbel hrest HO5 B5 HR5
    by_cases hlt : k < m
    · obtain ⟨j, hj, hj1⟩ := knd_nat (HKn.out k hlt)
      have hc1 := (HB.out.cell (p := ⟨b, offb + k, none⟩) (by show b < _; omega)).trans (HCk.out k hlt)
      rw [hj] at hc1
      obtain ⟨hi1, sao, sc, rfl, hlc, hcm⟩ := HRs.out
      have hTl := HTl.out k hlt
      rw [hj, tk_at hj1] at hTl
      have hsy := fun W (t : stb.Tab W) => t.sy j (by omega)
      have htb := tk_bound (HKn.out k hlt)
      rw [hj, tk_at hj1] at htb
      obtain ⟨tn, htn⟩ : ∃ tn : Nat, tkT.getD j 0 = (tn : Int) := ⟨(tkT.getD j 0).toNat, by omega⟩
      have hln : (ss.drop (off ks k)).length = n - off ks k := by rw [List.length_drop, HNn.out]
      have HCT := hid (implTaken (j : Int) wr (stb.carry HTb.out HB.out))
      rw [tk_at hj1, htn] at HCT
      rw [htn] at hTl
      simp only [Int.toNat_natCast] at hTl
      have htc : tn ≤ sc := by rw [hln] at hlc; omega
      have hit := ints_cut hi1 tn (by rw [hln]; omega)
      have htk : (ss.drop (off ks k)).take tn = tkn ss ks k := by rw [tkn, hj, tk_at hj1, htn, Int.toNat_natCast]
      rw [htk] at hit
      have hbnd : ∀ q, q < (tkn ss ks k).length → 1 ≤ (tkn ss ks k).getD q 0 ∧ (tkn ss ks k).getD q 0 ≤ 4 := fun q hq => by
        rw [HTa.out k hlt q (by rw [hj, tk_at hj1, htn, Int.toNat_natCast]; omega)]
        exact HSt.out.2 _ (by omega)
      have HFr := hid (fun W (h : Ints W B (.slice sao tn sc) (tkn ss ks k)) (hb : B ≤ W.heap.size) => implFrom j hj1 (tkn ss ks k) (.slice sao tn sc) B W h hb (by have := HSt.out.1; omega) hbnd)
      have HIt := hid hit
      have HKl1 := hid (HKl.out k hlt)
      rw [hj, tk_at hj1, htn, Int.toNat_natCast] at HKl1
      have HMd : Hid (mkC (j : Int) (tkn ss ks k) = mdn ss ks k) := hid (by rw [mdn, hj])
      have HBS : Hid (badTo ss ks (k + 1) = badC (j : Int) (tkn ss ks k)) := hid (by rw [badTo_succ, HBad.out, hj]; simp)
      rw [HMd.out] at HFr
      clear hit hbnd htk hj hsy htb
      rw [hln]
      obtain ⟨rl, hrl⟩ : ∃ rl, rl = n - off ks k := ⟨_, rfl⟩
      rw [← hrl] at hln ⊢
      have HLn := hid hln
      have HI1 := hid hi1
      have hrt : tn ≤ rl := by omega
      clear hi1 hln
      have hT0 : ∀ W, stb.Tab W → W.cell? ⟨0, j * 4, none⟩ = some (.int .i32 (syT.getD j 0)) ∧ W.cell? ⟨0, j * 4 + 1, none⟩ = some (.int .i64 (tkT.getD j 0)) ∧ W.cell? ⟨0, j * 4 + 2, none⟩ = some (.int .i64 (mdT.getD j 0)) ∧ W.cell? ⟨0, j * 4 + 3, none⟩ = some (.int .i64 (miT.getD j 0)) := fun W t => ⟨t.sy j (by omega), t.tk j (by omega), t.md j (by omega), t.mi j (by omega)⟩
      have HTT := hid hT0
      clear hT0
      rw [htn] at HFr HTT
      generalize syT.getD j 0 = t0 at *
      generalize mdT.getD j 0 = t2 at *
      generalize miT.getD j 0 = t3 at *
      clear htn
      generalize badC (j : Int) (tkn ss ks k) = bd at *
      go_wp2_with fail
      refine HCT.out.mono ?_
      rintro e W1 ⟨rfl, c1⟩
      have HC1 := hid c1
      have HB1 := hid (HB.out.trans (c1.mono HB.out.size))
      have HIt1 := hid (HIt.out.chg (Chg.ofBelow (lo := 0) c1) (.inr (Nat.zero_le _)))
      have HK1 := hid (HKR.out.below c1)
      have HI11 := hid (HI1.out.chg (Chg.ofBelow (lo := 0) c1) (.inr (Nat.zero_le _)))
      have hzb := HB1.out.size
      obtain ⟨s0, s1, s2, s3⟩ := HTT.out W1 (stb.carry HTb.out HB1.out)
      clear c1 HC1 HIt HKR HI1 HB
      go_wp2_with fail
      refine (HFr.out W1 HIt1.out (by omega)).mono ?_
      rintro e W2 ⟨v', rfl, o2, c2⟩
      have HB2 := hid (HB1.out.trans (c2.mono hzb))
      have HIt2 := hid (HIt1.out.chg (Chg.ofBelow (lo := 0) c2) (.inr (Nat.zero_le _)))
      have HK2 := hid (HK1.out.below c2)
      have HI12 := hid (HI11.out.chg (Chg.ofBelow (lo := 0) c2) (.inr (Nat.zero_le _)))
      have hz12 := c2.size
      obtain ⟨mao, mc, hmv⟩ := br.own_val o2
      obtain ⟨ml, hml⟩ : ∃ ml, ml = (mdn ss ks k).length := ⟨_, rfl⟩
      rw [← hml] at hmv
      subst hmv
      have HO2 := hid o2
      have HKb := hid (fun g hg => (HK1.out.row.lt g hg).2)
      clear c2 o2 HIt1 HK1 HI11 HB1 s0 s1 s2 s3 HTT HFr HCT hml
      cases bd with
      | true =>
        have HE := hid (HE5.out (badTo_mono (HBS.out) (by omega)))
        go_wp2
        go_ret2
        exact ⟨_, by rw [HE.out]; rfl, kp_err HE.out (by decide), HB2.out⟩
      | false =>
        have hl2 := HKL.out.len
        go_wp2_with (at_builtin; refine wp_appK rfl _ _ rfl w.heap.size B _ L ⟨.slice sao tn sc, .slice mao ml mc, tkn ss ks k, mdn ss ks k⟩ HK2.out HIt2.out W1.heap.size W2.heap.size HO2.out (by omega) (fun g hg => .inl (HKb.out g hg)) rfl rfl rfl rfl (by omega) (by omega) ?_; intro v3 W3 hkr3 b3; have HK3 := hid hkr3; have HB3 := hid (HB2.out.trans b3); have HI13 := hid (HI12.out.chg (lo := w.heap.size) (hi := W3.heap.size) ⟨b3.os, b3.tape, b3.output, b3.size, fun q hq hq' => b3.block q (by have := b3.size; omega)⟩ (.inl hB)); clear hkr3 b3)
        go_roundw
        case rel =>
          have hlc2 := hlc
          rw [HLn.out] at hlc2
          have hl3 : (ss.drop (off ks (k + 1))).length = n - off ks k - tn := by rw [List.length_drop, HNn.out, HKl1.out]; omega
          refine ⟨k + 1, by omega, by go_num, ⟨?_, ?_⟩, ⟨_, HK3.out, HKL.out.succ (.slice sao tn sc) (.slice mao ml mc), fun q hq => ?_⟩, HBS.out, HB3.out⟩
          · rw [HKl1.out, ← List.drop_drop]
            refine ints_rest HI13.out tn (by rw [HLn.out]; omega) fun hne b' o' he => ?_
            rw [if_neg (by omega), he]
            simp [Addr.add]
          · rw [hl3]
            exact ⟨_, _, rfl, by omega, by omega⟩
          · rcases List.mem_append.1 hq with hq | hq
            · exact HOn.out q hq
            · simp at hq
              subst hq
              exact ⟨_, _, _, _, _, _, rfl, rfl⟩
        case measure => simp [intOf]; omega
    · obtain rfl : k = m := by omega
      have HE := hid (HE6.out HBad.out)
      go_wp2
      go_ret2
      exact ⟨_, by rw [HE.out]; rfl, .inr ⟨HE.out, L, HKR.out, by rw [← HMm.out]; exact HKL.out, HOn.out⟩, HB.out⟩
end Go.Proofs.YtglkchcfggclaaaDoor.kn
