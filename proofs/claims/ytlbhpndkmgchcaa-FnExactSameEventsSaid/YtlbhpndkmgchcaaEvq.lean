/-
  SameEvents of both sides.
-/
import Derived.Test.YtlbhpndkmgchcaaEv2
namespace Go.Proofs.Ytlbhpndkmgchcaa.ev
open Go.RowKit Go.Sort Go.Proofs.Ytlbhpndkmgchcaa.sl
set_option linter.unusedVariables false
set_option linter.unusedSimpArgs false

def eqV (x y : V) : Bool := x.a0 == y.a0 && x.a1 == y.a1 && x.a2 == y.a2 && x.a3 == y.a3 && x.a4 == y.a4 && x.a5 == y.a5
def sameE (xs ys : List V) : Bool := decide (xs.length = ys.length) && (List.range xs.length).all fun j => eqV (xs.getD j oz) (ys.getD j oz)
theorem sameE_len {xs ys : List V} (h : ¬ xs.length = ys.length) : sameE xs ys = false := by simp [sameE, h]
theorem sameE_bad {xs ys : List V} (k : Nat) (hk : k < xs.length) (h : eqV (xs.getD k oz) (ys.getD k oz) = false) : sameE xs ys = false := by
  simp only [sameE, Bool.and_eq_false_iff]
  right
  rw [List.all_eq_false]
  exact ⟨k, by simpa using hk, by rw [h]; simp⟩
theorem sameE_good {xs ys : List V} (hl : xs.length = ys.length) (h : ∀ k, k < xs.length → eqV (xs.getD k oz) (ys.getD k oz) = true) : sameE xs ys = true := by
  simp only [sameE, Bool.and_eq_true, decide_eq_true_eq]
  refine ⟨hl, ?_⟩
  rw [List.all_eq_true]
  intro j hj
  exact h j (by simpa using hj)

theorem neqRun (x0 x1 x2 x3 x4 x5 y0 y1 y2 y3 y4 y5 : Int) (w : World) :
    (binOp .neq 87 (.agg #[.int .i64 x0, .int .i64 x1, .int .i64 x2, .int .i64 x3, .int .i64 x4, .int .i64 x5]) (.agg #[.int .i64 y0, .int .i64 y1, .int .i64 y2, .int .i64 y3, .int .i64 y4, .int .i64 y5])).run Try.prog w = .ok (.bool (!(eqV ⟨x0, x1, x2, x3, x4, x5⟩ ⟨y0, y1, y2, y3, y4, y5⟩))) w := by
  rw [run_neq_struct]
  simp only [eqV]
  go_simp
  repeat (first | (split <;> simp_all; done) | split)
  all_goals simp_all

set_option maxRecDepth 100000 in
set_option maxHeartbeats 2000000 in
theorem specSame (xs ys : List V) (f g : Value) (B C : Nat) (w : World) (ha : Ops w B f xs) (hb : Ops w C g ys) (hB : B ≤ w.heap.size) (hC : C ≤ w.heap.size) (hq : Small xs) (hr : Small ys) :
    Calls Try.prog 23 #[f, g] w fun e w' => e = .returned (.bool (sameE xs ys)) ∧ Below w.heap.size w w' := by
  have hn := hq.len
  have hm := hr.len
  clear hq hr
  by_cases hl : ¬ xs.length = ys.length
  · have HQ := hid (sameE_len hl)
    obtain ⟨ao, cap, rfl⟩ := ops_val ha
    obtain ⟨ao', cap', rfl⟩ := ops_val hb
    generalize sameE xs ys = q at *
    generalize xs.length = n at *
    generalize ys.length = m at *
    have hd : ((n : Int) == (m : Int)) = false := by simp; omega
    have hd' : ((n : Int) != (m : Int)) = true := by simp; omega
    clear ha hb hl
    go_enter Try.func23, Try.ntmps23
    go_wp2
    go_ret
    exact ⟨by rw [HQ.out]; first | done | rfl, Below.refl _ _⟩
  replace hl : xs.length = ys.length := Decidable.not_not.1 hl
  have HBad := hid (fun k h1 h2 => sameE_bad (xs := xs) (ys := ys) k h1 h2)
  have HGood := hid (sameE_good (xs := xs) (ys := ys) hl)
  by_cases h0 : xs.length = 0
  · have HQ := hid (HGood.out (fun k hk => by omega))
    obtain ⟨ao, cap, rfl⟩ := ops_val ha
    obtain ⟨ao', cap', rfl⟩ := ops_val hb
    rw [← hl, h0]
    generalize sameE xs ys = q at *
    clear ha hb hl HBad HGood h0
    go_enter Try.func23, Try.ntmps23
    go_wp2
    refine wp_loop_rounds 1 ?_
    rw [rounds_succ]
    go_wp2
    go_ret
    exact ⟨by rw [HQ.out]; first | done | rfl, Below.refl _ _⟩
  rcases ha with ⟨h, _⟩ | ⟨hp, b, off, cap, rfl, hbb, hc⟩
  · exact absurd (by rw [h]; rfl) h0
  rcases hb with ⟨h, _⟩ | ⟨hp', b', off', cap', rfl, hbb', hc'⟩
  · exact absurd (by rw [hl, h]; rfl) h0
  have HC := hid hc
  have HC' := hid hc'
  clear hc hc' h0 hp'
  obtain ⟨n, hnn⟩ : ∃ n, n = xs.length := ⟨_, rfl⟩
  rw [← hnn] at hp hn HC HBad HGood hl ⊢
  rw [← hl] at HC' ⊢
  clear hnn hl hm
  generalize sameE xs ys = q at *
  go_enter Try.func23, Try.ntmps23
  go_wp2
  go_loopw [5] (fun i wr => ∃ k : Nat, k ≤ n ∧ i = .int .i64 k ∧ (∀ j, j < k → eqV (xs.getD j oz) (ys.getD j oz) = true) ∧ Below w.heap.size w wr) (fun i _ => n - (intOf i).toNat)
  case atStart => exact ⟨0, Nat.zero_le _, rfl, fun j hj => by omega, Below.refl _ _⟩
  case round =>
    obtain ⟨k, hk, rfl, hall, hbel⟩ := hrel
    have HB := hid hbel
    have HAll := hid hall
    clear hbel hall
    by_cases hlt : k < n
    · have HA := (HC.out k hlt).below HB.out
      have HA' := (HC'.out k hlt).below HB.out
      have HBd := hid (HBad.out k hlt)
      have HSt : Hid (eqV (xs.getD k oz) (ys.getD k oz) = true → ∀ j, j < k + 1 → eqV (xs.getD j oz) (ys.getD j oz) = true) := hid (fun h j hj => by
        rcases Nat.lt_or_ge j k with h' | h'
        · exact HAll.out j h'
        · obtain rfl : j = k := by omega
          exact h)
      generalize xs.getD k oz = x at HA HBd HSt
      generalize ys.getD k oz = y at HA' HBd HSt
      obtain ⟨x0, x1, x2, x3, x4, x5⟩ := x
      obtain ⟨y0, y1, y2, y3, y4, y5⟩ := y
      have hrun := fun W => neqRun x0 x1 x2 x3 x4 x5 y0 y1 y2 y3 y4 y5 W
      generalize eqV ⟨x0, x1, x2, x3, x4, x5⟩ ⟨y0, y1, y2, y3, y4, y5⟩ = r at *
      have c0 := HA.c0
      have c1 := HA.c1
      have c2 := HA.c2
      have c3 := HA.c3
      have c4 := HA.c4
      have c5 := HA.c5
      have e0 := HA'.c0
      have e1 := HA'.c1
      have e2 := HA'.c2
      have e3 := HA'.c3
      have e4 := HA'.c4
      have e5 := HA'.c5
      simp only at c0 c1 c2 c3 c4 c5 e0 e1 e2 e3 e4 e5
      clear HA HA'
      go_wp2_with fail
      go_quiet (fail)
      clear c0 c1 c2 c3 c4 c5 e0 e1 e2 e3 e4 e5 hrun
      cases r with
      | true =>
        have HSt2 := hid (HSt.out rfl)
        go_wp2
        go_roundw
        case rel => exact ⟨k + 1, by omega, by go_num, HSt2.out, bdrewN HB.out _⟩
        case measure => simp [intOf]; omega
      | false =>
        have HQ := hid (HBd.out rfl)
        go_wp2
        go_ret
        exact ⟨by rw [HQ.out]; first | done | rfl, bdrewN HB.out _⟩
    · obtain rfl : k = n := by omega
      have HQ := hid (HGood.out HAll.out)
      go_wp2
      go_ret
      exact ⟨by rw [HQ.out]; first | done | rfl, HB.out⟩

set_option maxRecDepth 100000 in
set_option maxHeartbeats 2000000 in
theorem equalE (xs ys : List V) (f g : Value) (B C : Nat) (w : World) (ha : Ops w B f xs) (hb : Ops w C g ys) (hB : B ≤ w.heap.size) (hC : C ≤ w.heap.size) (hq : Small xs) (hr : Small ys) :
    Calls Try.prog 67 #[f, g] w fun e w' => e = .returned (.bool (sameE xs ys)) ∧ Below w.heap.size w w' := by
  have hn := hq.len
  have hm := hr.len
  clear hq hr
  by_cases hl : ¬ xs.length = ys.length
  · have HQ := hid (sameE_len hl)
    obtain ⟨ao, cap, rfl⟩ := ops_val ha
    obtain ⟨ao', cap', rfl⟩ := ops_val hb
    generalize sameE xs ys = q at *
    generalize xs.length = n at *
    generalize ys.length = m at *
    have hd : ((n : Int) == (m : Int)) = false := by simp; omega
    have hd' : ((n : Int) != (m : Int)) = true := by simp; omega
    clear ha hb hl
    go_enter Try.func67, Try.ntmps67
    go_wp2
    go_ret
    exact ⟨by rw [HQ.out]; first | done | rfl, Below.refl _ _⟩
  replace hl : xs.length = ys.length := Decidable.not_not.1 hl
  have HBad := hid (fun k h1 h2 => sameE_bad (xs := xs) (ys := ys) k h1 h2)
  have HGood := hid (sameE_good (xs := xs) (ys := ys) hl)
  by_cases h0 : xs.length = 0
  · have HQ := hid (HGood.out (fun k hk => by omega))
    obtain ⟨ao, cap, rfl⟩ := ops_val ha
    obtain ⟨ao', cap', rfl⟩ := ops_val hb
    rw [← hl, h0]
    generalize sameE xs ys = q at *
    clear ha hb hl HBad HGood h0
    go_enter Try.func67, Try.ntmps67
    go_wp2
    refine wp_loop_rounds 1 ?_
    rw [rounds_succ]
    go_wp2
    go_ret
    exact ⟨by rw [HQ.out]; first | done | rfl, Below.refl _ _⟩
  rcases ha with ⟨h, _⟩ | ⟨hp, b, off, cap, rfl, hbb, hc⟩
  · exact absurd (by rw [h]; rfl) h0
  rcases hb with ⟨h, _⟩ | ⟨hp', b', off', cap', rfl, hbb', hc'⟩
  · exact absurd (by rw [hl, h]; rfl) h0
  have HC := hid hc
  have HC' := hid hc'
  clear hc hc' h0 hp'
  obtain ⟨n, hnn⟩ : ∃ n, n = xs.length := ⟨_, rfl⟩
  rw [← hnn] at hp hn HC HBad HGood hl ⊢
  rw [← hl] at HC' ⊢
  clear hnn hl hm
  generalize sameE xs ys = q at *
  go_enter Try.func67, Try.ntmps67
  go_wp2
  go_loopw [13] (fun i wr => ∃ k : Nat, k ≤ n ∧ i = .int .i64 k ∧ (∀ j, j < k → eqV (xs.getD j oz) (ys.getD j oz) = true) ∧ Below w.heap.size w wr) (fun i _ => n - (intOf i).toNat)
  case atStart => exact ⟨0, Nat.zero_le _, rfl, fun j hj => by omega, Below.refl _ _⟩
  case round =>
    obtain ⟨k, hk, rfl, hall, hbel⟩ := hrel
    have HB := hid hbel
    have HAll := hid hall
    clear hbel hall
    by_cases hlt : k < n
    · have HA := (HC.out k hlt).below HB.out
      have HA' := (HC'.out k hlt).below HB.out
      have HBd := hid (HBad.out k hlt)
      have HSt : Hid (eqV (xs.getD k oz) (ys.getD k oz) = true → ∀ j, j < k + 1 → eqV (xs.getD j oz) (ys.getD j oz) = true) := hid (fun h j hj => by
        rcases Nat.lt_or_ge j k with h' | h'
        · exact HAll.out j h'
        · obtain rfl : j = k := by omega
          exact h)
      generalize xs.getD k oz = x at HA HBd HSt
      generalize ys.getD k oz = y at HA' HBd HSt
      obtain ⟨x0, x1, x2, x3, x4, x5⟩ := x
      obtain ⟨y0, y1, y2, y3, y4, y5⟩ := y
      have hrun := fun W => neqRun x0 x1 x2 x3 x4 x5 y0 y1 y2 y3 y4 y5 W
      generalize eqV ⟨x0, x1, x2, x3, x4, x5⟩ ⟨y0, y1, y2, y3, y4, y5⟩ = r at *
      have c0 := HA.c0
      have c1 := HA.c1
      have c2 := HA.c2
      have c3 := HA.c3
      have c4 := HA.c4
      have c5 := HA.c5
      have e0 := HA'.c0
      have e1 := HA'.c1
      have e2 := HA'.c2
      have e3 := HA'.c3
      have e4 := HA'.c4
      have e5 := HA'.c5
      simp only at c0 c1 c2 c3 c4 c5 e0 e1 e2 e3 e4 e5
      clear HA HA'
      go_wp2_with fail
      go_quiet (fail)
      clear c0 c1 c2 c3 c4 c5 e0 e1 e2 e3 e4 e5 hrun
      cases r with
      | true =>
        have HSt2 := hid (HSt.out rfl)
        go_wp2
        go_roundw
        case rel => exact ⟨k + 1, by omega, by go_num, HSt2.out, bdrewN HB.out _⟩
        case measure => simp [intOf]; omega
      | false =>
        have HQ := hid (HBd.out rfl)
        go_wp2
        go_ret
        exact ⟨by rw [HQ.out]; first | done | rfl, bdrewN HB.out _⟩
    · obtain rfl : k = n := by omega
      have HQ := hid (HGood.out HAll.out)
      go_wp2
      go_ret
      exact ⟨by rw [HQ.out]; first | done | rfl, HB.out⟩

theorem implSame (xs ys : List V) (f g : Value) (B C : Nat) (w : World) (ha : Ops w B f xs) (hb : Ops w C g ys) (hB : B ≤ w.heap.size) (hC : C ≤ w.heap.size) (hq : Small xs) (hr : Small ys) :
    Calls Try.prog 25 #[f, g] w fun e w' => e = .returned (.bool (sameE xs ys)) ∧ Below w.heap.size w w' := by
  have HC := hid (equalE xs ys f g B C w ha hb hB hC hq hr)
  obtain ⟨ao, cap, rfl⟩ := ops_val ha
  obtain ⟨ao', cap', rfl⟩ := ops_val hb
  clear ha hb hq hr
  generalize sameE xs ys = q at *
  generalize xs.length = n at *
  generalize ys.length = m at *
  go_enter Try.func25, Try.ntmps25
  go_wp2_with fail
  refine HC.out.mono ?_
  rintro e w1 ⟨rfl, b1⟩
  have HB := hid b1
  clear b1 HC
  go_wp2
  go_ret
  exact ⟨rfl, HB.out⟩
end Go.Proofs.Ytlbhpndkmgchcaa.ev
