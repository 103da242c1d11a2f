/-
  In one file: Hs0, Hs1.
-/
import Derived.Test.YtnmnikpgjglonabDoorSt0
import Derived.Test.YtnmnikpgjglonabDoorSt2
import Derived.Test.YtnmnikpgjglonabDoorEx
/- Numbers of strands of columns: when they are valid, which column a strand is in, which strand a column begins with. Mathematics alone. -/
namespace Go.Proofs.YtnmnikpgjglonabDoor.hk
open Go.Proofs.YtnmnikpgjglonabDoor.bw Go.Proofs.YtnmnikpgjglonabDoor.st
set_option linter.unusedVariables false

def szOk (xs : List Int) : Bool := decide (0 < xs.length) && (stks xs && decide (sumL xs ≤ 12))
theorem stks_all {xs : List Int} (h : stks xs = true) : xs.length ≤ 8 ∧ ∀ j, j < xs.length → 1 ≤ xs.getD j 0 ∧ xs.getD j 0 ≤ 4 := by
  simp only [stks, Bool.and_eq_true, decide_eq_true_eq, List.all_eq_true] at h
  refine ⟨h.1, fun j hj => ?_⟩
  have := h.2 (xs.getD j 0) (by
    rw [show xs.getD j 0 = xs[j] from by simp [List.getD, List.getElem?_eq_getElem hj]]
    exact List.getElem_mem hj)
  simpa [stk] using this
theorem szOk_parts {xs : List Int} (h : szOk xs = true) : 0 < xs.length ∧ stks xs = true ∧ sumL xs ≤ 12 := by
  simpa [szOk, and_assoc] using h
theorem szOk_mk {xs : List Int} (h1 : 0 < xs.length) (h2 : stks xs = true) : szOk xs = decide (sumL xs ≤ 12) := by simp [szOk, h1, h2]
theorem szOk_nil {xs : List Int} (h : ¬ 0 < xs.length) : szOk xs = false := by simp [szOk, h]
theorem szOk_not {xs : List Int} (h : stks xs = false) : szOk xs = false := by simp [szOk, h]
/-- Elements from 0 to 4: all partial sums are small. -/
theorem sum_small {xs : List Int} (h1 : xs.length ≤ 8) (h2 : ∀ j, j < xs.length → 1 ≤ xs.getD j 0 ∧ xs.getD j 0 ≤ 4) (k : Nat) (hk : k ≤ xs.length) : -32 ≤ sumTo xs k ∧ sumTo xs k ≤ 32 := by
  have := sumTo_le xs 4 (fun j hj => by have := h2 j hj; exact ⟨by omega, by omega⟩) k hk
  omega
theorem sum_up {xs : List Int} (h2 : ∀ j, j < xs.length → 1 ≤ xs.getD j 0 ∧ xs.getD j 0 ≤ 4) : ∀ (d k : Nat), k + d ≤ xs.length → sumTo xs k ≤ sumTo xs (k + d)
  | 0, k, _ => Int.le_refl _
  | d + 1, k, h => by
    have h3 := sum_up h2 d k (by omega)
    have h4 := h2 (k + d) (by omega)
    have h5 := sumTo_succ xs (k + d) (by omega)
    rw [show k + (d + 1) = k + d + 1 from rfl, h5]
    omega
theorem sum_le_all {xs : List Int} (h2 : ∀ j, j < xs.length → 1 ≤ xs.getD j 0 ∧ xs.getD j 0 ≤ 4) (k : Nat) (h : k ≤ xs.length) : sumTo xs k ≤ sumL xs := by
  rw [← sumTo_all]
  have := sum_up h2 (xs.length - k) k (by omega)
  rwa [show k + (xs.length - k) = xs.length from by omega] at this

/-- The column of a strand. -/
def colN (xs : List Int) (t : Int) : Nat := (List.range xs.length).findIdx fun j => decide (t < sumTo xs (j + 1))
theorem colN_eq {xs : List Int} {t : Int} (k : Nat) (h : k < xs.length) (h1 : t < sumTo xs (k + 1)) (h2 : ∀ j, j < k → sumTo xs (j + 1) ≤ t) : colN xs t = k := by
  unfold colN
  rw [List.findIdx_eq (by simpa using h)]
  refine ⟨by simpa using h1, fun j hj => ?_⟩
  have := h2 j hj
  simp; omega
def colB (xs : List Int) (t : Int) : Bool := szOk xs && (decide (0 ≤ t) && decide (t < sumL xs))
def colI (xs : List Int) (t : Int) : Int := if colB xs t = true then (colN xs t : Int) else 0
theorem col_no {xs : List Int} {t : Int} (h : szOk xs = false) : colB xs t = false ∧ colI xs t = 0 := by simp [colB, colI, h]
theorem col_neg {xs : List Int} {t : Int} (h : t < 0) : colB xs t = false ∧ colI xs t = 0 := by
  have : ¬ (0 ≤ t) := by omega
  simp [colB, colI, this]
theorem col_big {xs : List Int} {t : Int} (h : sumL xs ≤ t) : colB xs t = false ∧ colI xs t = 0 := by
  have : ¬ (t < sumL xs) := by omega
  simp [colB, colI, this]
theorem col_yes {xs : List Int} {t : Int} (h : szOk xs = true) (h0 : 0 ≤ t) (k : Nat) (hk : k < xs.length) (h1 : t < sumTo xs (k + 1)) (h2 : ∀ j, j < k → sumTo xs (j + 1) ≤ t) : colB xs t = true ∧ colI xs t = (k : Int) := by
  have hp := szOk_parts h
  have h3 := sum_le_all (stks_all hp.2.1).2 (k + 1) (by omega)
  have hb : colB xs t = true := by simp [colB, h, h0]; omega
  exact ⟨hb, by rw [colI, if_pos hb, colN_eq k hk h1 h2]⟩

/-- The first strand of a column. -/
def fstB (xs : List Int) (c : Int) : Bool := szOk xs && decide (0 ≤ c ∧ c ≤ (xs.length : Int) - 1)
def fstI (xs : List Int) (c : Int) : Int := if fstB xs c = true then sumTo xs c.toNat else 0
theorem fst_no {xs : List Int} {c : Int} (h : fstB xs c = false) : fstI xs c = 0 := by simp [fstI, h]
theorem fst_yes {xs : List Int} {c : Int} (h : szOk xs = true) (k : Nat) (hk : k < xs.length) (hc : c = (k : Int)) : fstB xs c = true ∧ fstI xs c = sumL (xs.take k) := by
  subst hc
  have hb : fstB xs (k : Int) = true := by simp [fstB, h]; omega
  exact ⟨hb, by rw [fstI, if_pos hb]; simp [sumTo, sumL]⟩
end Go.Proofs.YtnmnikpgjglonabDoor.hk

/- ValidSizes of both sides; sums of sizes in the model. -/
namespace Go.Proofs.YtnmnikpgjglonabDoor.hk
open Go.RowKit Go.Proofs.YtnmnikpgjglonabDoor.sl Go.Proofs.YtnmnikpgjglonabDoor.pm Go.Proofs.YtnmnikpgjglonabDoor.br Go.Proofs.YtnmnikpgjglonabDoor.bw Go.Proofs.YtnmnikpgjglonabDoor.st
set_option linter.unusedVariables false
set_option maxRecDepth 100000

theorem specSum17 (xs : List Int) (c : Nat) (v : Value) (B : Nat) (w : World) (ha : Ints w B v xs) (hn : xs.length ≤ 1048576) (hcl : c ≤ 1048576) (hb : ∀ j, j < xs.length → -(c : Int) ≤ xs.getD j 0 ∧ xs.getD j 0 ≤ c) :
    Calls Tryd.prog 99 #[v] w fun e w' => e = .returned (.int .i64 (sumL xs)) ∧ w = w' := by
  rcases ha with ⟨rfl, ao, cap, rfl⟩ | ⟨hp, b, off, cap, rfl, hbb, hc⟩
  · go_enter Tryd.func99, Tryd.ntmps99
    go_wp2
    refine wp_loop_rounds 1 ?_
    rw [rounds_succ]
    go_wp2
    go_ret
    exact ⟨rfl, rfl⟩
  · obtain ⟨n, hnn⟩ : ∃ n, n = xs.length := ⟨_, rfl⟩
    rw [← hnn] at hp hc hn hb ⊢
    have HN := hid hnn
    have HC := hid hc
    have HBd := hid hb
    clear hnn hc hb
    go_enter Tryd.func99, Tryd.ntmps99
    go_wp2
    go_loop [3, 4] (fun t i => ∃ k : Nat, k ≤ n ∧ i = .int .i64 k ∧ t = .int .i64 (sumTo xs k)) (fun _ i => n - (intOf i).toNat)
    case atStart => exact ⟨0, Nat.zero_le _, rfl, rfl⟩
    case round =>
      obtain ⟨k, hk, rfl, rfl⟩ := hrel
      have hl := sumTo_le xs c (by rw [← HN.out]; exact HBd.out) k (by rw [← HN.out]; exact hk)
      have hkc : k * c ≤ 1048576 * 1048576 := Nat.mul_le_mul (by omega) hcl
      by_cases hlt : k < n
      · have h1 := HC.out k hlt
        have hx := HBd.out k hlt
        have HS := hid (sumTo_succ xs k (by rw [← HN.out]; exact hlt))
        generalize xs.getD k 0 = x at *
        generalize sumTo xs k = t at *
        generalize k * c = q at *
        go_wp2
        go_round
        case rel => exact ⟨k + 1, by omega, by go_num, by rw [HS.out]⟩
        case measure => simp [intOf]; omega
      · obtain rfl : k = n := by omega
        have HS : Hid (sumTo xs k = sumL xs) := hid (by rw [HN.out]; exact sumTo_all xs)
        rw [HS.out] at hl ⊢
        go_wp2
        go_ret
        exact ⟨rfl, rfl⟩

/-- Sums of sizes, on both sides. -/
theorem implSum4 (xs : List Int) (v : Value) (B : Nat) (w : World) (h : stks xs = true) (ha : Ints w B v xs) : Calls Tryd.prog 107 #[v] w fun e w' => e = .returned (.int .i64 (sumL xs)) ∧ w = w' :=
  br.implSum xs 4 v B w ha (by have := (stks_all h).1; omega) (by omega) (fun j hj => by have := (stks_all h).2 j hj; exact ⟨by omega, by omega⟩)
theorem specSum4 (xs : List Int) (v : Value) (B : Nat) (w : World) (h : stks xs = true) (ha : Ints w B v xs) : Calls Tryd.prog 99 #[v] w fun e w' => e = .returned (.int .i64 (sumL xs)) ∧ w = w' :=
  specSum17 xs 4 v B w ha (by have := (stks_all h).1; omega) (by omega) (fun j hj => by have := (stks_all h).2 j hj; exact ⟨by omega, by omega⟩)

theorem implVS (xs : List Int) (v : Value) (B : Nat) (w : World) (ha : Ints w B v xs) (hB : B ≤ w.heap.size) (hn : xs.length ≤ 1099511627776) :
    Calls Tryd.prog 74 #[v] w fun e w' => e = .returned (.bool (szOk xs)) ∧ Below w.heap.size w w' := by
  have HC := hid (implCols xs v B w ha hB hn)
  have HA := hid ha
  obtain ⟨ao, cap, hv⟩ := ints_val ha
  by_cases hp : 0 < xs.length
  · cases hs : stks xs
    · have HF := hid (szOk_not hs)
      rw [hs] at HC
      clear hs ha
      generalize xs.length = n at *
      subst hv
      have hd : decide ((0 : Int) < (n : Int)) = true := by simp; omega
      go_enter Tryd.func74, Tryd.ntmps74
      go_wp2_with fail
      refine HC.out.mono ?_
      rintro e w1 ⟨rfl, b1⟩
      have B1 := hid b1
      clear b1
      go_wp2
      go_ret
      exact ⟨by rw [HF.out]; first | done | rfl, B1.out⟩
    · have HF := hid (szOk_mk hp hs)
      have HS := hid (fun W (h : Ints W B v xs) => implSum4 xs v B W hs h)
      have hbd := stks_all hs
      have hb2 := sum_small hbd.1 hbd.2 xs.length (Nat.le_refl _)
      rw [sumTo_all] at hb2
      rw [hs] at HC
      clear hs ha hbd
      generalize sumL xs = t at *
      generalize xs.length = n at *
      subst hv
      have hd : decide ((0 : Int) < (n : Int)) = true := by simp; omega
      go_enter Tryd.func74, Tryd.ntmps74
      go_wp2_with fail
      refine HC.out.mono ?_
      rintro e w1 ⟨rfl, b1⟩
      have HA1 := hid (HA.out.chg (Chg.ofBelow (lo := 0) b1) (.inr (Nat.zero_le _)))
      have B1 := hid b1
      clear b1
      go_wp2_with fail
      refine (HS.out _ HA1.out).mono ?_
      rintro e w2 ⟨rfl, rfl⟩
      go_wp2
      go_ret
      exact ⟨by rw [HF.out]; first | done | rfl, B1.out⟩
  · have HF := hid (szOk_nil hp)
    obtain rfl : xs = [] := List.length_eq_zero_iff.1 (by omega)
    clear HC HA ha hp
    simp only [List.length_nil] at hv
    subst hv
    go_enter Tryd.func74, Tryd.ntmps74
    go_wp2
    go_ret
    exact ⟨by rw [HF.out]; first | done | rfl, Below.refl _ _⟩

theorem specOk17 (xs : List Int) (v : Value) (B : Nat) (w : World) (ha : Ints w B v xs) (hB : B ≤ w.heap.size) (hn : xs.length ≤ 1099511627776) :
    Calls Tryd.prog 68 #[v] w fun e w' => e = .returned (.bool (szOk xs)) ∧ w = w' := by
  have HC := hid (specStacks xs v B w ha hB hn)
  obtain ⟨ao, cap, hv⟩ := ints_val ha
  by_cases hp : 0 < xs.length
  · cases hs : stks xs
    · have HF := hid (szOk_not hs)
      rw [hs] at HC
      clear hs ha
      generalize xs.length = n at *
      subst hv
      have hd : decide ((0 : Int) < (n : Int)) = true := by simp; omega
      go_enter Tryd.func68, Tryd.ntmps68
      go_wp2_with fail
      refine HC.out.mono ?_
      rintro e w1 ⟨rfl, rfl⟩
      go_wp2
      go_ret
      exact ⟨by rw [HF.out]; first | done | rfl, rfl⟩
    · have HF := hid (szOk_mk hp hs)
      have HS := hid (specSum4 xs v B w hs ha)
      have hbd := stks_all hs
      have hb2 := sum_small hbd.1 hbd.2 xs.length (Nat.le_refl _)
      rw [sumTo_all] at hb2
      rw [hs] at HC
      clear hs ha hbd
      generalize sumL xs = t at *
      generalize xs.length = n at *
      subst hv
      have hd : decide ((0 : Int) < (n : Int)) = true := by simp; omega
      go_enter Tryd.func68, Tryd.ntmps68
      go_wp2_with fail
      refine HC.out.mono ?_
      rintro e w1 ⟨rfl, rfl⟩
      go_wp2_with fail
      refine HS.out.mono ?_
      rintro e w2 ⟨rfl, rfl⟩
      go_wp2
      go_ret
      exact ⟨by rw [HF.out]; first | done | rfl, rfl⟩
  · have HF := hid (szOk_nil hp)
    obtain rfl : xs = [] := List.length_eq_zero_iff.1 (by omega)
    clear HC ha hp
    simp only [List.length_nil] at hv
    subst hv
    go_enter Tryd.func68, Tryd.ntmps68
    go_wp2
    go_ret
    exact ⟨by rw [HF.out]; first | done | rfl, rfl⟩

end Go.Proofs.YtnmnikpgjglonabDoor.hk
