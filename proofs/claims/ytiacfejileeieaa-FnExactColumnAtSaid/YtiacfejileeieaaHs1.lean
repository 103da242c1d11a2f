/-
  ValidSizes of both sides; sums of sizes in the model.
-/
import Derived.Test.YtiacfejileeieaaHs0
import Derived.Test.YtiacfejileeieaaSt2
import Derived.Test.YtiacfejileeieaaEx
namespace Go.Proofs.Ytiacfejileeieaa.hk
open Go.RowKit Go.Proofs.Ytiacfejileeieaa.sl Go.Proofs.Ytiacfejileeieaa.pm Go.Proofs.Ytiacfejileeieaa.br Go.Proofs.Ytiacfejileeieaa.bw Go.Proofs.Ytiacfejileeieaa.st
set_option linter.unusedVariables false
set_option maxRecDepth 100000

theorem specSum17 (xs : List Int) (c : Nat) (v : Value) (B : Nat) (w : World) (ha : Ints w B v xs) (hn : xs.length ≤ 1048576) (hcl : c ≤ 1048576) (hb : ∀ j, j < xs.length → -(c : Int) ≤ xs.getD j 0 ∧ xs.getD j 0 ≤ c) :
    Calls Try.prog 62 #[v] w fun e w' => e = .returned (.int .i64 (sumL xs)) ∧ w = w' := by
  rcases ha with ⟨rfl, ao, cap, rfl⟩ | ⟨hp, b, off, cap, rfl, hbb, hc⟩
  · go_enter Try.func62, Try.ntmps62
    go_wp2
    refine wp_loop_rounds 1 ?_
    rw [rounds_succ]
    go_wp2
    go_ret
    exact ⟨rfl, rfl⟩
  · obtain ⟨n, hnn⟩ : ∃ n, n = xs.length := ⟨_, rfl⟩
    rw [← hnn] at hp hc hn hb ⊢
    have HN := hid hnn
    have HC := hid hc
    have HBd := hid hb
    clear hnn hc hb
    go_enter Try.func62, Try.ntmps62
    go_wp2
    go_loop [3, 4] (fun t i => ∃ k : Nat, k ≤ n ∧ i = .int .i64 k ∧ t = .int .i64 (sumTo xs k)) (fun _ i => n - (intOf i).toNat)
    case atStart => exact ⟨0, Nat.zero_le _, rfl, rfl⟩
    case round =>
      obtain ⟨k, hk, rfl, rfl⟩ := hrel
      have hl := sumTo_le xs c (by rw [← HN.out]; exact HBd.out) k (by rw [← HN.out]; exact hk)
      have hkc : k * c ≤ 1048576 * 1048576 := Nat.mul_le_mul (by omega) hcl
      by_cases hlt : k < n
      · have h1 := HC.out k hlt
        have hx := HBd.out k hlt
        have HS := hid (sumTo_succ xs k (by rw [← HN.out]; exact hlt))
        generalize xs.getD k 0 = x at *
        generalize sumTo xs k = t at *
        generalize k * c = q at *
        go_wp2
        go_round
        case rel => exact ⟨k + 1, by omega, by go_num, by rw [HS.out]⟩
        case measure => simp [intOf]; omega
      · obtain rfl : k = n := by omega
        have HS : Hid (sumTo xs k = sumL xs) := hid (by rw [HN.out]; exact sumTo_all xs)
        rw [HS.out] at hl ⊢
        go_wp2
        go_ret
        exact ⟨rfl, rfl⟩

/-- Sums of sizes, on both sides. -/
theorem implSum4 (xs : List Int) (v : Value) (B : Nat) (w : World) (h : stks xs = true) (ha : Ints w B v xs) : Calls Try.prog 50 #[v] w fun e w' => e = .returned (.int .i64 (sumL xs)) ∧ w = w' :=
  br.implSum xs 4 v B w ha (by have := (stks_all h).1; omega) (by omega) (fun j hj => by have := (stks_all h).2 j hj; exact ⟨by omega, by omega⟩)
theorem specSum4 (xs : List Int) (v : Value) (B : Nat) (w : World) (h : stks xs = true) (ha : Ints w B v xs) : Calls Try.prog 62 #[v] w fun e w' => e = .returned (.int .i64 (sumL xs)) ∧ w = w' :=
  specSum17 xs 4 v B w ha (by have := (stks_all h).1; omega) (by omega) (fun j hj => by have := (stks_all h).2 j hj; exact ⟨by omega, by omega⟩)

theorem implVS (xs : List Int) (v : Value) (B : Nat) (w : World) (ha : Ints w B v xs) (hB : B ≤ w.heap.size) (hn : xs.length ≤ 1099511627776) :
    Calls Try.prog 13 #[v] w fun e w' => e = .returned (.bool (szOk xs)) ∧ Below w.heap.size w w' := by
  have HC := hid (implCols xs v B w ha hB hn)
  have HA := hid ha
  obtain ⟨ao, cap, hv⟩ := ints_val ha
  by_cases hp : 0 < xs.length
  · cases hs : stks xs
    · have HF := hid (szOk_not hs)
      rw [hs] at HC
      clear hs ha
      generalize xs.length = n at *
      subst hv
      have hd : decide ((0 : Int) < (n : Int)) = true := by simp; omega
      go_enter Try.func13, Try.ntmps13
      go_wp2_with fail
      refine HC.out.mono ?_
      rintro e w1 ⟨rfl, b1⟩
      have B1 := hid b1
      clear b1
      go_wp2
      go_ret
      exact ⟨by rw [HF.out]; first | done | rfl, B1.out⟩
    · have HF := hid (szOk_mk hp hs)
      have HS := hid (fun W (h : Ints W B v xs) => implSum4 xs v B W hs h)
      have hbd := stks_all hs
      have hb2 := sum_small hbd.1 hbd.2 xs.length (Nat.le_refl _)
      rw [sumTo_all] at hb2
      rw [hs] at HC
      clear hs ha hbd
      generalize sumL xs = t at *
      generalize xs.length = n at *
      subst hv
      have hd : decide ((0 : Int) < (n : Int)) = true := by simp; omega
      go_enter Try.func13, Try.ntmps13
      go_wp2_with fail
      refine HC.out.mono ?_
      rintro e w1 ⟨rfl, b1⟩
      have HA1 := hid (HA.out.chg (Chg.ofBelow (lo := 0) b1) (.inr (Nat.zero_le _)))
      have B1 := hid b1
      clear b1
      go_wp2_with fail
      refine (HS.out _ HA1.out).mono ?_
      rintro e w2 ⟨rfl, rfl⟩
      go_wp2
      go_ret
      exact ⟨by rw [HF.out]; first | done | rfl, B1.out⟩
  · have HF := hid (szOk_nil hp)
    obtain rfl : xs = [] := List.length_eq_zero_iff.1 (by omega)
    clear HC HA ha hp
    simp only [List.length_nil] at hv
    subst hv
    go_enter Try.func13, Try.ntmps13
    go_wp2
    go_ret
    exact ⟨by rw [HF.out]; first | done | rfl, Below.refl _ _⟩

theorem specOk17 (xs : List Int) (v : Value) (B : Nat) (w : World) (ha : Ints w B v xs) (hB : B ≤ w.heap.size) (hn : xs.length ≤ 1099511627776) :
    Calls Try.prog 48 #[v] w fun e w' => e = .returned (.bool (szOk xs)) ∧ w = w' := by
  have HC := hid (specStacks xs v B w ha hB hn)
  obtain ⟨ao, cap, hv⟩ := ints_val ha
  by_cases hp : 0 < xs.length
  · cases hs : stks xs
    · have HF := hid (szOk_not hs)
      rw [hs] at HC
      clear hs ha
      generalize xs.length = n at *
      subst hv
      have hd : decide ((0 : Int) < (n : Int)) = true := by simp; omega
      go_enter Try.func48, Try.ntmps48
      go_wp2_with fail
      refine HC.out.mono ?_
      rintro e w1 ⟨rfl, rfl⟩
      go_wp2
      go_ret
      exact ⟨by rw [HF.out]; first | done | rfl, rfl⟩
    · have HF := hid (szOk_mk hp hs)
      have HS := hid (specSum4 xs v B w hs ha)
      have hbd := stks_all hs
      have hb2 := sum_small hbd.1 hbd.2 xs.length (Nat.le_refl _)
      rw [sumTo_all] at hb2
      rw [hs] at HC
      clear hs ha hbd
      generalize sumL xs = t at *
      generalize xs.length = n at *
      subst hv
      have hd : decide ((0 : Int) < (n : Int)) = true := by simp; omega
      go_enter Try.func48, Try.ntmps48
      go_wp2_with fail
      refine HC.out.mono ?_
      rintro e w1 ⟨rfl, rfl⟩
      go_wp2_with fail
      refine HS.out.mono ?_
      rintro e w2 ⟨rfl, rfl⟩
      go_wp2
      go_ret
      exact ⟨by rw [HF.out]; first | done | rfl, rfl⟩
  · have HF := hid (szOk_nil hp)
    obtain rfl : xs = [] := List.length_eq_zero_iff.1 (by omega)
    clear HC ha hp
    simp only [List.length_nil] at hv
    subst hv
    go_enter Try.func48, Try.ntmps48
    go_wp2
    go_ret
    exact ⟨by rw [HF.out]; first | done | rfl, rfl⟩

theorem specVS (xs : List Int) (v : Value) (B : Nat) (w : World) (ha : Ints w B v xs) (hB : B ≤ w.heap.size) (hn : xs.length ≤ 1099511627776) :
    Calls Try.prog 11 #[v] w fun e w' => e = .returned (.bool (szOk xs)) ∧ Below w.heap.size w w' := by
  have HC := hid (specOk17 xs v B w ha hB hn)
  generalize szOk xs = q at *
  clear ha
  go_enter Try.func11, Try.ntmps11
  go_wp2_with fail
  refine HC.out.mono ?_
  rintro e w1 ⟨rfl, rfl⟩
  go_wp2
  go_ret
  exact ⟨rfl, Below.refl _ _⟩

end Go.Proofs.Ytiacfejileeieaa.hk
