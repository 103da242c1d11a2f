/-
  StacksAfter of the model: l14After, l14Thick.
-/
import Derived.Test.YtbbnheiibkcgiabDoorKn4
import Derived.Test.YtbbnheiibkcgiabDoorKnm
import Derived.BigQuiet
namespace Go.Proofs.YtbbnheiibkcgiabDoor.kn
open Go.RowKit Go.Proofs.YtbbnheiibkcgiabDoor.sl Go.Proofs.YtbbnheiibkcgiabDoor.st
set_option linter.unusedVariables false

/-- What the model's loops know of their lists. -/
structure Fit (ss ks : List Int) : Prop where
  k16 : ks.length ≤ 16
  kn : ∀ j, j < ks.length → knd (ks.getD j 0) = true
  tot : bw.sumL (ks.map tk) = (ss.length : Int)
  s8 : ss.length ≤ 8
  st : ∀ j, j < ss.length → 1 ≤ ss.getD j 0 ∧ ss.getD j 0 ≤ 4
theorem fit_of {ss ks : List Int} (h1 : stks ss = true) (h2 : lst ks = true) (h3 : tkS ks = (ss.length : Int)) : Fit ss ks :=
  ⟨(lst_parts h2).1, (lst_parts h2).2, by rw [← h3, tkS, h2]; rfl, (stks_parts h1).1, (stks_parts h1).2⟩

set_option maxRecDepth 100000 in
set_option maxHeartbeats 4000000 in
theorem specThick (ss ks : List Int) (v u : Value) (B C : Nat) (w : World) (ha : Ints w B v ss) (hb : Ints w C u ks) (hC : C ≤ w.heap.size) (hF : Fit ss ks) :
    Calls Tryd.prog 61 #[v, u] w fun e w' => e = .returned (.bool (thkTo ss ks ks.length)) ∧ Below w.heap.size w w' := by
  rcases hb with ⟨rfl, bo2, cb2, hu2⟩ | ⟨hp, b, offb, cb2, hu2, hbb, hc⟩
  · obtain ⟨ao, cap, hv⟩ := br.ints_val ha
    clear ha hF
    generalize ss.length = n at *
    subst hv hu2
    go_enter Tryd.func61, Tryd.ntmps61
    go_wp2
    refine wp_loop_rounds 1 ?_
    rw [rounds_succ]
    go_wp2
    go_ret
    exact ⟨rfl, Below.refl _ _⟩
  have HA := hid ha
  obtain ⟨ao, cap, hv⟩ := br.ints_val ha
  have HFt := hid hF
  have hk16 := hF.k16
  have hs8 := hF.s8
  have HCk := hid hc
  have HMono := hid (fun k (h : thkTo ss ks k = true) (hk : k ≤ ks.length) => thkTo_mono h hk)
  have HOff := hid (fun k (h : k < ks.length) => off_succ hF.kn k h)
  have HTl := hid (fun k (h : k < ks.length) => tkn_list hF.kn hF.tot k h)
  have HOl := hid (fun k (h : k ≤ ks.length) => off_le hF.kn hF.tot k h)
  have HKn := hid hF.kn
  have HSt := hid hF.st
  obtain ⟨m, hmm⟩ : ∃ m, m = ks.length := ⟨_, rfl⟩
  rw [← hmm] at hp hk16 HCk HMono HOff HTl HKn HOl hu2 ⊢
  have HMm := hid hmm
  obtain ⟨n, hnn⟩ : ∃ n, n = ss.length := ⟨_, rfl⟩
  rw [← hnn] at hv hs8 HTl HSt HOl
  have HNn := hid hnn
  subst hv hu2
  clear hmm hnn ha hF hc
  rcases HA.out with ⟨h0, _⟩ | ⟨hp2, b2, off2, cap2, hv2, hbb2, hc2⟩
  · have HN0 : Hid (n = 0) := hid (by rw [HNn.out, h0]; rfl)
    clear h0 HSt
    go_enter Tryd.func61, Tryd.ntmps61
    go_wp2
    go_loopw [5, 6] (fun a i wr => ∃ k : Nat, k ≤ m ∧ i = .int .i64 k ∧ a = .int .i64 (off ks k : Int) ∧ thkTo ss ks k = false ∧ Below w.heap.size w wr) (fun _ i _ => m - (intOf i).toNat)
    case atStart => exact ⟨0, Nat.zero_le _, rfl, rfl, rfl, Below.refl _ _⟩
    case round =>
      obtain ⟨k, hk, rfl, rfl, hth, hbel⟩ := hrel
      have HTh := hid hth
      have HB := hid hbel
      clear hth hbel
      have hol := HOl.out k hk
      by_cases hlt : k < m
      · obtain ⟨j, hj, hj1⟩ := knd_nat (HKn.out k hlt)
        have hc1 := (HB.out.cell (p := ⟨b, offb + k, none⟩) (by show b < _; omega)).trans (HCk.out k hlt)
        have hos := HOff.out k hlt
        have hTl := HTl.out k hlt
        have HTs : Hid (thkTo ss ks (k + 1) = thk ss ks k) := hid (by rw [thkTo_succ, HTh.out]; simp)
        rw [hj] at hc1 hos hTl
        rw [tk_at hj1] at hos hTl
        have htb := tk_bound (HKn.out k hlt)
        rw [hj, tk_at hj1] at htb
        have HCT := hid (specTaken (j : Int))
        rw [tk_at hj1] at HCT
        have hso := HOl.out (k + 1) (by omega)
        obtain ⟨o, ho⟩ : ∃ o, o = off ks k := ⟨_, rfl⟩
        rw [← ho] at hos hol hTl ⊢
        have HO := hid ho
        have HOs : Hid ((off ks (k + 1) : Int) = (o : Int) + tkT.getD j 0) := hid (by omega)
        by_cases h45 : j = 4 ∨ j = 5
        · have ht2 : tkT.getD j 0 = 2 := by rcases h45 with rfl | rfl <;> rfl
          obtain ⟨e1, e2⟩ := hTl.2 ht2
          have := HN0.out
          omega
        · have n4 : ((j : Int) == 4) = false := by simp; omega
          have n5 : ((j : Int) == 5) = false := by simp; omega
          have HTk0 : Hid (thk ss ks k = false) := hid (by
            have : ¬ (ks.getD k 0 = 4 ∨ ks.getD k 0 = 5) := by rw [hj]; omega
            simp only [thk, this, decide_false, Bool.false_and])
          generalize tkT.getD j 0 = tn at *
          clear hTl ho hj hos hso h45
          have j6 : (0 : Int) ≤ (k : Int) := by omega
          have j7 : (k : Int) < (m : Int) := by omega
          have j8 : IntKind.i64.wrap (k : Int) = (k : Int) := by rw [IntKind.wrap_i64]; omega
          go_wp2_with fail
          go_quiet (fail)
          have HBd := hid (sl.bdrewN HB.out nq)
          have hc3 : (wr.drewN nq).cell? _ = _ := hc1
          clear hc1
          generalize wr.drewN nq = WD at *
          go_wp2_with fail
          refine (HCT.out _).mono ?_
          rintro e W2 ⟨rfl, c2⟩
          have HB2 := hid (HBd.out.trans (c2.mono HBd.out.size))
          clear c2
          go_wp2
          go_roundw
          case rel => exact ⟨k + 1, by omega, by go_num, by rw [HOs.out], by rw [HTs.out]; exact HTk0.out, HB2.out⟩
          case measure => simp [intOf]; omega
      · obtain rfl : k = m := by omega
        go_wp2
        go_ret
        exact ⟨by rw [HTh.out]; first | done | rfl, HB.out⟩
  · rw [← HNn.out] at hv2 hc2
    simp only [Value.slice.injEq] at hv2
    obtain ⟨rfl, _, rfl⟩ := hv2
    have HC2 := hid hc2
    clear hc2 hp2 HA
    go_enter Tryd.func61, Tryd.ntmps61
    go_wp2
    go_loopw [5, 6] (fun a i wr => ∃ k : Nat, k ≤ m ∧ i = .int .i64 k ∧ a = .int .i64 (off ks k : Int) ∧ thkTo ss ks k = false ∧ Below w.heap.size w wr) (fun _ i _ => m - (intOf i).toNat)
    case atStart => exact ⟨0, Nat.zero_le _, rfl, rfl, rfl, Below.refl _ _⟩
    case round =>
      obtain ⟨k, hk, rfl, rfl, hth, hbel⟩ := hrel
      have HTh := hid hth
      have HB := hid hbel
      clear hth hbel
      have hol := HOl.out k hk
      by_cases hlt : k < m
      · obtain ⟨j, hj, hj1⟩ := knd_nat (HKn.out k hlt)
        have hc1 := (HB.out.cell (p := ⟨b, offb + k, none⟩) (by show b < _; omega)).trans (HCk.out k hlt)
        have hos := HOff.out k hlt
        have hTl := HTl.out k hlt
        have HTs : Hid (thkTo ss ks (k + 1) = thk ss ks k) := hid (by rw [thkTo_succ, HTh.out]; simp)
        rw [hj] at hc1 hos hTl
        rw [tk_at hj1] at hos hTl
        have htb := tk_bound (HKn.out k hlt)
        rw [hj, tk_at hj1] at htb
        have HCT := hid (specTaken (j : Int))
        rw [tk_at hj1] at HCT
        have hso := HOl.out (k + 1) (by omega)
        obtain ⟨o, ho⟩ : ∃ o, o = off ks k := ⟨_, rfl⟩
        rw [← ho] at hos hol hTl ⊢
        have HO := hid ho
        have HOs : Hid ((off ks (k + 1) : Int) = (o : Int) + tkT.getD j 0) := hid (by omega)
        by_cases h45 : j = 4 ∨ j = 5
        · have ht2 : tkT.getD j 0 = 2 := by rcases h45 with rfl | rfl <;> rfl
          obtain ⟨e1, e2⟩ := hTl.2 ht2
          have hB2 : b2 < w.heap.size := World.block_lt_of_cell? w _ (HC2.out o (by omega))
          have p1 := (HB.out.cell (p := ⟨b2, off2 + o, none⟩) hB2).trans (HC2.out o (by omega))
          have p2 := (HB.out.cell (p := ⟨b2, off2 + (o + 1), none⟩) hB2).trans (HC2.out (o + 1) (by omega))
          have b1' := HSt.out o (by omega)
          have b2' := HSt.out (o + 1) (by omega)
          have HTk : Hid (thk ss ks k = decide (4 < ss.getD o 0 + ss.getD (o + 1) 0)) := hid (by
            have h45' : ks.getD k 0 = 4 ∨ ks.getD k 0 = 5 := by rw [hj]; omega
            rw [thk, e1, sum2]
            simp only [h45', decide_true, Bool.true_and])
          generalize ss.getD o 0 = x at *
          generalize ss.getD (o + 1) 0 = y at *
          clear hTl e1 ho hj hos hso
          have j1 : (0 : Int) ≤ (o : Int) := by omega
          have j2 : (o : Int) < (n : Int) := by omega
          have j3 : (0 : Int) ≤ (o : Int) + 1 := by omega
          have j4 : (o : Int) + 1 < (n : Int) := by omega
          have j5 : IntKind.i64.wrap (o : Int) = (o : Int) := by rw [IntKind.wrap_i64]; omega
          have j6 : (0 : Int) ≤ (k : Int) := by omega
          have j7 : (k : Int) < (m : Int) := by omega
          have j8 : IntKind.i64.wrap (k : Int) = (k : Int) := by rw [IntKind.wrap_i64]; omega
          rw [ht2] at HCT HOs
          by_cases hgt : 4 < x + y
          · have hd : decide ((4 : Int) < x + y) = true := by simpa using hgt
            have HF : Hid (thkTo ss ks m = true) := hid (HMono.out (k + 1) (by rw [HTs.out, HTk.out]; exact hd) (by omega))
            clear hgt
            rcases h45 with rfl | rfl
            all_goals
              go_wp2_with fail
              go_quiet (fail)
              go_wp2
              go_ret
              exact ⟨by rw [HF.out]; first | done | rfl, sl.bdrewN HB.out _⟩
          · have hd : decide ((4 : Int) < x + y) = false := by simpa using hgt
            have HTk0 : Hid (thk ss ks k = false) := hid (by rw [HTk.out]; exact hd)
            clear hgt
            rcases h45 with rfl | rfl
            all_goals
              go_wp2_with fail
              go_quiet (fail)
              have HBd := hid (sl.bdrewN HB.out nq)
              have hc3 : (wr.drewN nq).cell? _ = _ := hc1
              clear hc1 p1 p2
              generalize wr.drewN nq = WD at *
              go_wp2_with fail
              refine (HCT.out _).mono ?_
              rintro e W2 ⟨rfl, c2⟩
              have HB2 := hid (HBd.out.trans (c2.mono HBd.out.size))
              clear c2
              go_wp2
              go_roundw
              case rel => exact ⟨k + 1, by omega, by go_num, by rw [HOs.out], by rw [HTs.out]; exact HTk0.out, HB2.out⟩
              case measure => simp [intOf]; omega
        · have n4 : ((j : Int) == 4) = false := by simp; omega
          have n5 : ((j : Int) == 5) = false := by simp; omega
          have HTk0 : Hid (thk ss ks k = false) := hid (by
            have : ¬ (ks.getD k 0 = 4 ∨ ks.getD k 0 = 5) := by rw [hj]; omega
            simp only [thk, this, decide_false, Bool.false_and])
          generalize tkT.getD j 0 = tn at *
          clear hTl ho hj hos hso h45
          have j6 : (0 : Int) ≤ (k : Int) := by omega
          have j7 : (k : Int) < (m : Int) := by omega
          have j8 : IntKind.i64.wrap (k : Int) = (k : Int) := by rw [IntKind.wrap_i64]; omega
          go_wp2_with fail
          go_quiet (fail)
          have HBd := hid (sl.bdrewN HB.out nq)
          have hc3 : (wr.drewN nq).cell? _ = _ := hc1
          clear hc1
          generalize wr.drewN nq = WD at *
          go_wp2_with fail
          refine (HCT.out _).mono ?_
          rintro e W2 ⟨rfl, c2⟩
          have HB2 := hid (HBd.out.trans (c2.mono HBd.out.size))
          clear c2
          go_wp2
          go_roundw
          case rel => exact ⟨k + 1, by omega, by go_num, by rw [HOs.out], by rw [HTs.out]; exact HTk0.out, HB2.out⟩
          case measure => simp [intOf]; omega
      · obtain rfl : k = m := by omega
        go_wp2
        go_ret
        exact ⟨by rw [HTh.out]; first | done | rfl, HB.out⟩
end Go.Proofs.YtbbnheiibkcgiabDoor.kn
