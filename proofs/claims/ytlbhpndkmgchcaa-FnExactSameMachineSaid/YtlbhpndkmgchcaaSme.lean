/-
  Equality of carriers and of loops' descriptions; the model's l07Same.
-/
import Derived.Test.YtlbhpndkmgchcaaMc2
import Derived.Test.YtlbhpndkmgchcaaSn
set_option linter.unusedVariables false
set_option linter.unusedSimpArgs false
namespace Go.Proofs.Ytlbhpndkmgchcaa.ca
open Go.RowKit Go.Sort Go.Proofs.Ytlbhpndkmgchcaa.sl
def eqV (x y : V) : Bool := x.a0 == y.a0 && x.a1 == y.a1
def sameE (xs ys : List V) : Bool := decide (xs.length = ys.length) && (List.range xs.length).all fun j => eqV (xs.getD j oz) (ys.getD j oz)
theorem sameE_len {xs ys : List V} (h : ¬ xs.length = ys.length) : sameE xs ys = false := by simp [sameE, h]
theorem sameE_bad {xs ys : List V} (k : Nat) (hk : k < xs.length) (h : eqV (xs.getD k oz) (ys.getD k oz) = false) : sameE xs ys = false := by
  simp only [sameE, Bool.and_eq_false_iff]
  right
  rw [List.all_eq_false]
  exact ⟨k, by simpa using hk, by rw [h]; simp⟩
theorem sameE_good {xs ys : List V} (hl : xs.length = ys.length) (h : ∀ k, k < xs.length → eqV (xs.getD k oz) (ys.getD k oz) = true) : sameE xs ys = true := by
  simp only [sameE, Bool.and_eq_true, decide_eq_true_eq]
  refine ⟨hl, ?_⟩
  rw [List.all_eq_true]
  intro j hj
  exact h j (by simpa using hj)

theorem neqRun (x0 y0 : Bool) (x1 y1 : Int) (w : World) :
    (binOp .neq 132 (.agg #[.bool x0, .int .i64 x1]) (.agg #[.bool y0, .int .i64 y1])).run Try.prog w = .ok (.bool (!(eqV ⟨x0, x1⟩ ⟨y0, y1⟩))) w := by
  rw [run_neq_struct]
  simp only [eqV]
  go_simp
  repeat (first | (split <;> simp_all; done) | split)
  all_goals simp_all

set_option maxRecDepth 100000 in
set_option maxHeartbeats 2000000 in
theorem equalE (xs ys : List V) (f g : Value) (B C : Nat) (w : World) (ha : Ops w B f xs) (hb : Ops w C g ys) (hB : B ≤ w.heap.size) (hC : C ≤ w.heap.size) (hq : Small xs) (hr : Small ys) :
    Calls Try.prog 112 #[f, g] w fun e w' => e = .returned (.bool (sameE xs ys)) ∧ Below w.heap.size w w' := by
  have hn := hq.len
  have hm := hr.len
  clear hq hr
  by_cases hl : ¬ xs.length = ys.length
  · have HQ := hid (sameE_len hl)
    obtain ⟨ao, cap, rfl⟩ := ops_val ha
    obtain ⟨ao', cap', rfl⟩ := ops_val hb
    generalize sameE xs ys = q at *
    generalize xs.length = n at *
    generalize ys.length = m at *
    have hd : ((n : Int) == (m : Int)) = false := by simp; omega
    have hd' : ((n : Int) != (m : Int)) = true := by simp; omega
    clear ha hb hl
    go_enter Try.func112, Try.ntmps112
    go_wp2
    go_ret
    exact ⟨by rw [HQ.out]; first | done | rfl, Below.refl _ _⟩
  replace hl : xs.length = ys.length := Decidable.not_not.1 hl
  have HBad := hid (fun k h1 h2 => sameE_bad (xs := xs) (ys := ys) k h1 h2)
  have HGood := hid (sameE_good (xs := xs) (ys := ys) hl)
  by_cases h0 : xs.length = 0
  · have HQ := hid (HGood.out (fun k hk => by omega))
    obtain ⟨ao, cap, rfl⟩ := ops_val ha
    obtain ⟨ao', cap', rfl⟩ := ops_val hb
    rw [← hl, h0]
    generalize sameE xs ys = q at *
    clear ha hb hl HBad HGood h0
    go_enter Try.func112, Try.ntmps112
    go_wp2
    refine wp_loop_rounds 1 ?_
    rw [rounds_succ]
    go_wp2
    go_ret
    exact ⟨by rw [HQ.out]; first | done | rfl, Below.refl _ _⟩
  rcases ha with ⟨h, _⟩ | ⟨hp, b, off, cap, rfl, hbb, hc⟩
  · exact absurd (by rw [h]; rfl) h0
  rcases hb with ⟨h, _⟩ | ⟨hp', b', off', cap', rfl, hbb', hc'⟩
  · exact absurd (by rw [hl, h]; rfl) h0
  have HC := hid hc
  have HC' := hid hc'
  clear hc hc' h0 hp'
  obtain ⟨n, hnn⟩ : ∃ n, n = xs.length := ⟨_, rfl⟩
  rw [← hnn] at hp hn HC HBad HGood hl ⊢
  rw [← hl] at HC' ⊢
  clear hnn hl hm
  generalize sameE xs ys = q at *
  go_enter Try.func112, Try.ntmps112
  go_wp2
  go_loopw [13] (fun i wr => ∃ k : Nat, k ≤ n ∧ i = .int .i64 k ∧ (∀ j, j < k → eqV (xs.getD j oz) (ys.getD j oz) = true) ∧ Below w.heap.size w wr) (fun i _ => n - (intOf i).toNat)
  case atStart => exact ⟨0, Nat.zero_le _, rfl, fun j hj => by omega, Below.refl _ _⟩
  case round =>
    obtain ⟨k, hk, rfl, hall, hbel⟩ := hrel
    have HB := hid hbel
    have HAll := hid hall
    clear hbel hall
    by_cases hlt : k < n
    · have HA := (HC.out k hlt).below HB.out
      have HA' := (HC'.out k hlt).below HB.out
      have HBd := hid (HBad.out k hlt)
      have HSt : Hid (eqV (xs.getD k oz) (ys.getD k oz) = true → ∀ j, j < k + 1 → eqV (xs.getD j oz) (ys.getD j oz) = true) := hid (fun h j hj => by
        rcases Nat.lt_or_ge j k with h' | h'
        · exact HAll.out j h'
        · obtain rfl : j = k := by omega
          exact h)
      generalize xs.getD k oz = x at HA HBd HSt
      generalize ys.getD k oz = y at HA' HBd HSt
      obtain ⟨x0, x1⟩ := x
      obtain ⟨y0, y1⟩ := y
      have hrun := fun W => neqRun x0 y0 x1 y1 W
      generalize eqV ⟨x0, x1⟩ ⟨y0, y1⟩ = r at *
      have c0 := HA.c0
      have c1 := HA.c1
      have e0 := HA'.c0
      have e1 := HA'.c1
      simp only at c0 c1 e0 e1
      clear HA HA'
      go_wp2_with fail
      go_quiet (fail)
      clear c0 c1 e0 e1 hrun
      cases r with
      | true =>
        have HSt2 := hid (HSt.out rfl)
        go_wp2
        go_roundw
        case rel => exact ⟨k + 1, by omega, by go_num, HSt2.out, bdrewN HB.out _⟩
        case measure => simp [intOf]; omega
      | false =>
        have HQ := hid (HBd.out rfl)
        go_wp2
        go_ret
        exact ⟨by rw [HQ.out]; first | done | rfl, bdrewN HB.out _⟩
    · obtain rfl : k = n := by omega
      have HQ := hid (HGood.out HAll.out)
      go_wp2
      go_ret
      exact ⟨by rw [HQ.out]; first | done | rfl, HB.out⟩

end Go.Proofs.Ytlbhpndkmgchcaa.ca
namespace Go.Proofs.Ytlbhpndkmgchcaa.nf
open Go.RowKit Go.Sort Go.Proofs.Ytlbhpndkmgchcaa.sl Go.Proofs.Ytlbhpndkmgchcaa.br Go.Proofs.Ytlbhpndkmgchcaa.ss Go.Proofs.Ytlbhpndkmgchcaa.nb
def eqV (x y : V) : Bool := x.a0 == y.a0 && (x.a1 == y.a1 && (x.a2 == y.a2 && (x.a3 == y.a3 && (x.a4 == y.a4 && sameB x.ps y.ps))))
def sameI (xs ys : List V) : Bool := decide (xs.length = ys.length) && (List.range xs.length).all fun j => eqV (xs.getD j iz) (ys.getD j iz)
theorem sameI_len {xs ys : List V} (h : ¬ xs.length = ys.length) : sameI xs ys = false := by simp [sameI, h]
theorem sameI_bad {xs ys : List V} (k : Nat) (hk : k < xs.length) (h : eqV (xs.getD k iz) (ys.getD k iz) = false) : sameI xs ys = false := by
  simp only [sameI, Bool.and_eq_false_iff]
  right
  rw [List.all_eq_false]
  exact ⟨k, by simpa using hk, by rw [h]; simp⟩
theorem sameI_good {xs ys : List V} (hl : xs.length = ys.length) (h : ∀ k, k < xs.length → eqV (xs.getD k iz) (ys.getD k iz) = true) : sameI xs ys = true := by
  simp only [sameI, Bool.and_eq_true, decide_eq_true_eq]
  refine ⟨hl, ?_⟩
  rw [List.all_eq_true]
  intro j hj
  exact h j (by simpa using hj)

set_option maxRecDepth 100000 in
theorem sameInf (x0 x1 x2 x3 x4 : Int) (ps : List Int) (f : Value) (y0 y1 y2 y3 y4 : Int) (qs : List Int) (g : Value) (B C : Nat) (w : World) (ha : Ints w B f ps) (hb : Ints w C g qs) (hn : ps.length ≤ 1048576) (hm : qs.length ≤ 1048576) :
    Calls Try.prog 114 #[.agg #[.int .i64 x0, .int .i64 x1, .int .i64 x2, .int .i64 x3, .int .i64 x4, f], .agg #[.int .i64 y0, .int .i64 y1, .int .i64 y2, .int .i64 y3, .int .i64 y4, g]] w fun e w' => e = .returned (.bool (eqV ⟨x0, x1, x2, x3, x4, ps⟩ ⟨y0, y1, y2, y3, y4, qs⟩)) ∧ Below w.heap.size w w' := by
  obtain ⟨q, hq⟩ : ∃ q, q = eqV ⟨x0, x1, x2, x3, x4, ps⟩ ⟨y0, y1, y2, y3, y4, qs⟩ := ⟨_, rfl⟩
  rw [← hq]
  simp only [eqV] at hq
  have HE := hid (fun W ha hb => equalQ ps qs f g B C W ha hb (by omega) (by omega))
  have HA := hid (ints_al (ints_al ha (.cells #[.int .i64 x0, .int .i64 x1, .int .i64 x2, .int .i64 x3, .int .i64 x4, f] 134)) (.cells #[.int .i64 y0, .int .i64 y1, .int .i64 y2, .int .i64 y3, .int .i64 y4, g] 134))
  have HB := hid (ints_al (ints_al hb (.cells #[.int .i64 x0, .int .i64 x1, .int .i64 x2, .int .i64 x3, .int .i64 x4, f] 134)) (.cells #[.int .i64 y0, .int .i64 y1, .int .i64 y2, .int .i64 y3, .int .i64 y4, g] 134))
  have HBl : Hid (Below w.heap.size w ((w.alloc (.cells #[.int .i64 x0, .int .i64 x1, .int .i64 x2, .int .i64 x3, .int .i64 x4, f] 134)).alloc (.cells #[.int .i64 y0, .int .i64 y1, .int .i64 y2, .int .i64 y3, .int .i64 y4, g] 134))) := hid (((Below.refl w.heap.size w).alloc (Nat.le_refl _) _).alloc (by simp) _)
  obtain ⟨ao, cap, hv⟩ := ints_val ha
  obtain ⟨ao', cap', hu⟩ := ints_val hb
  clear ha hb
  generalize sameB ps qs = r at *
  generalize ps.length = n at *
  generalize qs.length = m at *
  subst hv hu
  obtain ⟨b0, hb0⟩ : ∃ b, (x0 == y0) = b := ⟨_, rfl⟩
  rw [hb0] at hq
  cases b0 with
  | false =>
    have HQ : Hid (q = false) := hid (by rw [hq]; simp)
    clear hq
    go_enter Try.func114, Try.ntmps114
    go_wp2
    go_ret
    exact ⟨by rw [HQ.out]; first | done | rfl, HBl.out⟩
  | true =>
    obtain ⟨b1, hb1⟩ : ∃ b, (x1 == y1) = b := ⟨_, rfl⟩
    rw [hb1] at hq
    cases b1 with
    | false =>
      have HQ : Hid (q = false) := hid (by rw [hq]; simp)
      clear hq
      go_enter Try.func114, Try.ntmps114
      go_wp2
      go_ret
      exact ⟨by rw [HQ.out]; first | done | rfl, HBl.out⟩
    | true =>
      obtain ⟨b2, hb2⟩ : ∃ b, (x2 == y2) = b := ⟨_, rfl⟩
      rw [hb2] at hq
      cases b2 with
      | false =>
        have HQ : Hid (q = false) := hid (by rw [hq]; simp)
        clear hq
        go_enter Try.func114, Try.ntmps114
        go_wp2
        go_ret
        exact ⟨by rw [HQ.out]; first | done | rfl, HBl.out⟩
      | true =>
        obtain ⟨b3, hb3⟩ : ∃ b, (x3 == y3) = b := ⟨_, rfl⟩
        rw [hb3] at hq
        cases b3 with
        | false =>
          have HQ : Hid (q = false) := hid (by rw [hq]; simp)
          clear hq
          go_enter Try.func114, Try.ntmps114
          go_wp2
          go_ret
          exact ⟨by rw [HQ.out]; first | done | rfl, HBl.out⟩
        | true =>
          obtain ⟨b4, hb4⟩ : ∃ b, (x4 == y4) = b := ⟨_, rfl⟩
          rw [hb4] at hq
          cases b4 with
          | false =>
            have HQ : Hid (q = false) := hid (by rw [hq]; simp)
            clear hq
            go_enter Try.func114, Try.ntmps114
            go_wp2
            go_ret
            exact ⟨by rw [HQ.out]; first | done | rfl, HBl.out⟩
          | true =>
            have HQ : Hid (q = r) := hid (by rw [hq]; simp)
            clear hq
            go_enter Try.func114, Try.ntmps114
            go_wp2_with fail
            refine (HE.out _ HA.out HB.out).mono ?_
            rintro e w1 ⟨rfl, q1, rfl⟩
            go_wp2
            go_ret
            exact ⟨by rw [HQ.out]; first | done | rfl, bdrewN HBl.out _⟩

set_option maxRecDepth 100000 in
set_option maxHeartbeats 2000000 in
theorem equalI (xs ys : List V) (f g : Value) (B C : Nat) (w : World) (ha : Infs w B f xs) (hb : Infs w C g ys) (hq : Small xs) (hr : Small ys) :
    Calls Try.prog 113 #[f, g, .func (.func 114) #[] #[]] w fun e w' => e = .returned (.bool (sameI xs ys)) ∧ Below w.heap.size w w' := by
  have eg := enters_of Try.func114 (by kernel_rfl) rfl
  have hn := hq.len
  have hm := hr.len
  have HS := hid hq.short
  have HS' := hid hr.short
  clear hq hr
  by_cases hl : ¬ xs.length = ys.length
  · have HQ := hid (sameI_len hl)
    obtain ⟨ao, cap, rfl⟩ := infs_val ha
    obtain ⟨ao', cap', rfl⟩ := infs_val hb
    generalize sameI xs ys = q at *
    clear HS HS' ha hb
    generalize xs.length = n at *
    generalize ys.length = m at *
    have hd : ((n : Int) == (m : Int)) = false := by simp; omega
    have hd' : ((n : Int) != (m : Int)) = true := by simp; omega
    clear hl
    go_enter Try.func113, Try.ntmps113
    go_wp2
    go_ret
    exact ⟨by rw [HQ.out]; first | done | rfl, Below.refl _ _⟩
  replace hl : xs.length = ys.length := Decidable.not_not.1 hl
  have HBad := hid (fun k h1 h2 => sameI_bad (xs := xs) (ys := ys) k h1 h2)
  have HGood := hid (sameI_good (xs := xs) (ys := ys) hl)
  by_cases h0 : xs.length = 0
  · have HQ := hid (HGood.out (fun k hk => by omega))
    obtain ⟨ao, cap, rfl⟩ := infs_val ha
    obtain ⟨ao', cap', rfl⟩ := infs_val hb
    rw [← hl, h0]
    generalize sameI xs ys = q at *
    clear ha hb hl HBad HGood h0 HS HS'
    go_enter Try.func113, Try.ntmps113
    go_wp2
    refine wp_loop_rounds 1 ?_
    rw [rounds_succ]
    go_wp2
    go_ret
    exact ⟨by rw [HQ.out]; first | done | rfl, Below.refl _ _⟩
  rcases ha with ⟨h, _⟩ | ⟨hp, b, off, cap, F, rfl, hbb, hc⟩
  · exact absurd (by rw [h]; rfl) h0
  rcases hb with ⟨h, _⟩ | ⟨hp', b', off', cap', G, rfl, hbb', hc'⟩
  · exact absurd (by rw [hl, h]; rfl) h0
  have HC := hid hc
  have HC' := hid hc'
  clear hc hc' h0 hp'
  obtain ⟨n, hnn⟩ : ∃ n, n = xs.length := ⟨_, rfl⟩
  rw [← hnn] at hp hn HC HBad HGood hl HS ⊢
  rw [← hl] at HC' HS' ⊢
  clear hnn hl hm
  generalize sameI xs ys = q at *
  go_enter Try.func113, Try.ntmps113
  go_wp2
  go_loopw [17] (fun i wr => ∃ k : Nat, k ≤ n ∧ i = .int .i64 k ∧ (∀ j, j < k → eqV (xs.getD j iz) (ys.getD j iz) = true) ∧ Below w.heap.size w wr) (fun i _ => n - (intOf i).toNat)
  case atStart => exact ⟨0, Nat.zero_le _, rfl, fun j hj => by omega, Below.refl _ _⟩
  case round =>
    obtain ⟨k, hk, rfl, hall, hbel⟩ := hrel
    have HB := hid hbel
    have HAll := hid hall
    clear hbel hall
    by_cases hlt : k < n
    · have HA := ((HC.out k hlt).1).below HB.out
      have HA' := ((HC'.out k hlt).1).below HB.out
      have HI := hid (((HC.out k hlt).2).chg (Chg.ofBelow (lo := 0) HB.out) (.inr (Nat.zero_le _)))
      have HI' := hid (((HC'.out k hlt).2).chg (Chg.ofBelow (lo := 0) HB.out) (.inr (Nat.zero_le _)))
      have hsx := HS.out k hlt
      have hsy := HS'.out k hlt
      have HBd := hid (HBad.out k hlt)
      have HSt : Hid (eqV (xs.getD k iz) (ys.getD k iz) = true → ∀ j, j < k + 1 → eqV (xs.getD j iz) (ys.getD j iz) = true) := hid (fun h j hj => by
        rcases Nat.lt_or_ge j k with h' | h'
        · exact HAll.out j h'
        · obtain rfl : j = k := by omega
          exact h)
      generalize xs.getD k iz = x at HA HI HBd HSt hsx
      generalize ys.getD k iz = y at HA' HI' HBd HSt hsy
      generalize F k = fk at *
      generalize G k = gk at *
      obtain ⟨x0, x1, x2, x3, x4, ps⟩ := x
      obtain ⟨y0, y1, y2, y3, y4, qs⟩ := y
      simp only at HI HI' hsx hsy
      have hE1 := (Below.refl wr.heap.size wr).alloc (Nat.le_refl _) (.cells #[.int .i64 x0, .int .i64 x1, .int .i64 x2, .int .i64 x3, .int .i64 x4, fk] 134)
      have hE2 := hE1.alloc (by simp) (.cells #[.int .i64 y0, .int .i64 y1, .int .i64 y2, .int .i64 y3, .int .i64 y4, gk] 134)
      have c0 := HA.c0
      have c1 := HA.c1
      have c2 := HA.c2
      have c3 := HA.c3
      have c4 := HA.c4
      have c5 := HA.c5
      have e0 := (HA'.below hE1).c0
      have e1 := (HA'.below hE1).c1
      have e2 := (HA'.below hE1).c2
      have e3 := (HA'.below hE1).c3
      have e4 := (HA'.below hE1).c4
      have e5 := (HA'.below hE1).c5
      simp only at c0 c1 c2 c3 c4 c5 e0 e1 e2 e3 e4 e5
      obtain ⟨ao, cp, hv⟩ := ints_val HI.out
      obtain ⟨ao', cp', hu⟩ := ints_val HI'.out
      have HBE := hid (HB.out.trans (hE2.mono HB.out.size))
      have HIx := hid (HI.out.chg (Chg.ofBelow (lo := 0) hE2) (.inr (Nat.zero_le _)))
      have HIy := hid (HI'.out.chg (Chg.ofBelow (lo := 0) hE2) (.inr (Nat.zero_le _)))
      have HF := hid (fun W i j => sameInf x0 x1 x2 x3 x4 ps fk y0 y1 y2 y3 y4 qs gk B C W i j hsx hsy)
      clear HA HA' hE1 hE2 HI HI' hsx hsy
      generalize ps.length = l1 at *
      generalize qs.length = l2 at *
      subst hv hu
      go_wp2_with fail
      clear c0 c1 c2 c3 c4 c5 e0 e1 e2 e3 e4 e5
      refine (HF.out _ HIx.out HIy.out).mono ?_
      rintro e w2 ⟨rfl, b2⟩
      have HB2 := hid (HBE.out.trans (b2.mono HBE.out.size))
      clear b2 HF HIx HIy HBE
      generalize eqV ⟨x0, x1, x2, x3, x4, ps⟩ ⟨y0, y1, y2, y3, y4, qs⟩ = r at *
      cases r with
      | true =>
        have HSt2 := hid (HSt.out rfl)
        go_wp2
        go_roundw
        case rel => exact ⟨k + 1, by omega, by go_num, HSt2.out, HB2.out⟩
        case measure => simp [intOf]; omega
      | false =>
        have HQ := hid (HBd.out rfl)
        go_wp2
        go_ret
        exact ⟨by rw [HQ.out]; first | done | rfl, HB2.out⟩
    · obtain rfl : k = n := by omega
      have HQ := hid (HGood.out HAll.out)
      go_wp2
      go_ret
      exact ⟨by rw [HQ.out]; first | done | rfl, HB.out⟩
end Go.Proofs.Ytlbhpndkmgchcaa.nf
