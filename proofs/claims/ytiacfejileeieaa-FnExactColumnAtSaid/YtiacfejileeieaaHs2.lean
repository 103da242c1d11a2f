/-
  ColumnAt and FirstOf of both sides.
-/
import Derived.Test.YtiacfejileeieaaHs1
import Derived.Test.YtiacfejileeieaaH1
namespace Go.Proofs.Ytiacfejileeieaa.hk
open Go.RowKit Go.Proofs.Ytiacfejileeieaa.sl Go.Proofs.Ytiacfejileeieaa.pm Go.Proofs.Ytiacfejileeieaa.br Go.Proofs.Ytiacfejileeieaa.bw Go.Proofs.Ytiacfejileeieaa.st
set_option linter.unusedVariables false
set_option maxRecDepth 100000

theorem ints_cut {w : World} {B : Nat} {ao : Option Addr} {n c : Nat} {xs : List Int} (h : Ints w B (.slice ao n c) xs) (t : Nat) (ht : t ≤ xs.length) : Ints w B (.slice ao t c) (xs.take t) := by
  by_cases h0 : t = 0
  · subst h0; exact .inl ⟨by simp, ao, c, rfl⟩
  · rcases h with ⟨rfl, _⟩ | ⟨hp, b, off, cap, hv, hb, hc⟩
    · simp at ht; omega
    · simp only [Value.slice.injEq] at hv
      obtain ⟨rfl, hl, rfl⟩ := hv
      have hlt : (xs.take t).length = t := by rw [List.length_take]; omega
      refine .inr ⟨by omega, b, off, c, by rw [hlt], hb, fun j hj => ?_⟩
      rw [hlt] at hj
      rw [hc j (by omega)]
      simp [List.getD, hj]
theorem stks_take {xs : List Int} (h : stks xs = true) (k : Nat) : stks (xs.take k) = true := by
  simp only [stks, Bool.and_eq_true, decide_eq_true_eq, List.all_eq_true] at h ⊢
  exact ⟨by rw [List.length_take]; omega, fun x hx => h.2 x (List.mem_of_mem_take hx)⟩

/-- within(c, lo, hi) as a literal. -/
theorem withinQ (c lo hi : Int) (q : Bool) (hq : decide (lo ≤ c ∧ c ≤ hi) = q) (w : World) : Calls Try.prog 59 #[.int .i64 c, .int .i64 lo, .int .i64 hi] w fun e w' => e = .returned (.bool q) ∧ w = w' := by
  rw [← hq]; exact within64 c lo hi w
theorem inQ (c lo hi : Int) (q : Bool) (hq : decide (lo ≤ c ∧ c ≤ hi) = q) (w : World) : Calls Try.prog 56 #[.int .i64 c, .int .i64 lo, .int .i64 hi] w fun e w' => e = .returned (.bool q) ∧ w = w' := by
  rw [← hq]; exact pm.specIn c lo hi w

theorem implFO (xs : List Int) (c : Int) (v : Value) (B : Nat) (w : World) (ha : Ints w B v xs) (hB : B ≤ w.heap.size) (hn : xs.length ≤ 1099511627776) (hcap : fn.CapOk v) :
    Calls Try.prog 31 #[v, .int .i64 c] w fun e w' => e = .returned (.tuple #[.int .i64 (fstI xs c), .bool (fstB xs c)]) ∧ Below w.heap.size w w' := by
  have HC := hid (implVS xs v B w ha hB hn)
  have HA := hid ha
  obtain ⟨ao, cap, hv⟩ := ints_val ha
  cases hs : szOk xs
  · have hb : fstB xs c = false := by simp [fstB, hs]
    have HF := hid (fst_no hb)
    have HG := hid hb
    rw [hs] at HC
    clear hs ha hb
    generalize xs.length = n at *
    subst hv
    go_enter Try.func31, Try.ntmps31
    go_wp2_with fail
    refine HC.out.mono ?_
    rintro e w1 ⟨rfl, b1⟩
    have B1 := hid b1
    clear b1
    go_wp2
    go_ret2
    exact ⟨by rw [HF.out, HG.out]; first | done | rfl, B1.out⟩
  · have hp := szOk_parts hs
    have hbd := stks_all hp.2.1
    have hcp := hcap _ _ _ hv
    by_cases hr : 0 ≤ c ∧ c ≤ (xs.length : Int) - 1
    · obtain ⟨k, hk⟩ : ∃ k : Nat, c = (k : Int) := ⟨c.toNat, by omega⟩
      subst hk
      have hkl : k < xs.length := by omega
      obtain ⟨f1, f2⟩ := fst_yes hs k hkl rfl
      have HF := hid f1
      have HG := hid f2
      have HS := hid (fun W (h : Ints W B (.slice ao k cap) (xs.take k)) => implSum4 (xs.take k) _ B W (stks_take hp.2.1 k) h)
      have HCut := hid (fun W (h : Ints W B (.slice ao xs.length cap) xs) => ints_cut h k (by omega))
      have HW := hid (fun W => withinQ (k : Int) 0 ((xs.length : Int) - 1) true (by simpa using hr) W)
      rw [hs] at HC
      have hl8 := hbd.1
      clear hs ha f1 f2 hp hbd hr
      generalize sumL (xs.take k) = t at *
      generalize xs.length = n at *
      subst hv
      go_enter Try.func31, Try.ntmps31
      go_wp2_with fail
      refine HC.out.mono ?_
      rintro e w1 ⟨rfl, b1⟩
      have HA1 := hid (HCut.out _ (HA.out.chg (Chg.ofBelow (lo := 0) b1) (.inr (Nat.zero_le _))))
      have B1 := hid b1
      clear b1
      go_wp2_with fail
      refine (HW.out _).mono ?_
      rintro e w2 ⟨rfl, rfl⟩
      go_wp2_with fail
      refine (HS.out _ HA1.out).mono ?_
      rintro e w2 ⟨rfl, rfl⟩
      go_wp2
      go_ret2
      exact ⟨by rw [HF.out, HG.out]; first | done | rfl, B1.out⟩
    · have hb : fstB xs c = false := by simp only [fstB, hs, Bool.true_and, decide_eq_false_iff_not]; exact hr
      have HF := hid (fst_no hb)
      have HG := hid hb
      have HW := hid (fun W => withinQ c 0 ((xs.length : Int) - 1) false (by simpa only [decide_eq_false_iff_not] using hr) W)
      rw [hs] at HC
      have hl8 := hbd.1
      clear hs ha hb hp hbd hr
      generalize xs.length = n at *
      subst hv
      go_enter Try.func31, Try.ntmps31
      go_wp2_with fail
      refine HC.out.mono ?_
      rintro e w1 ⟨rfl, b1⟩
      have B1 := hid b1
      clear b1
      go_wp2_with fail
      refine (HW.out _).mono ?_
      rintro e w2 ⟨rfl, rfl⟩
      go_wp2
      go_ret2
      exact ⟨by rw [HF.out, HG.out]; first | done | rfl, B1.out⟩

theorem specFO (xs : List Int) (c : Int) (v : Value) (B : Nat) (w : World) (ha : Ints w B v xs) (hB : B ≤ w.heap.size) (hn : xs.length ≤ 1099511627776) (hcap : fn.CapOk v) :
    Calls Try.prog 30 #[v, .int .i64 c] w fun e w' => e = .returned (.tuple #[.int .i64 (fstI xs c), .bool (fstB xs c)]) ∧ Below w.heap.size w w' := by
  have HC := hid (specOk17 xs v B w ha hB hn)
  have HA := hid ha
  obtain ⟨ao, cap, hv⟩ := ints_val ha
  cases hs : szOk xs
  · have hb : fstB xs c = false := by simp [fstB, hs]
    have HF := hid (fst_no hb)
    have HG := hid hb
    rw [hs] at HC
    clear hs ha hb
    generalize xs.length = n at *
    subst hv
    go_enter Try.func30, Try.ntmps30
    go_wp2_with fail
    refine HC.out.mono ?_
    rintro e w1 ⟨rfl, rfl⟩
    go_wp2
    go_ret2
    exact ⟨by rw [HF.out, HG.out]; first | done | rfl, Below.refl _ _⟩
  · have hp := szOk_parts hs
    have hbd := stks_all hp.2.1
    have hcp := hcap _ _ _ hv
    by_cases hr : 0 ≤ c ∧ c ≤ (xs.length : Int) - 1
    · obtain ⟨k, hk⟩ : ∃ k : Nat, c = (k : Int) := ⟨c.toNat, by omega⟩
      subst hk
      have hkl : k < xs.length := by omega
      obtain ⟨f1, f2⟩ := fst_yes hs k hkl rfl
      have HF := hid f1
      have HG := hid f2
      have HS := hid (fun W (h : Ints W B (.slice ao k cap) (xs.take k)) => specSum4 (xs.take k) _ B W (stks_take hp.2.1 k) h)
      have HCut := hid (ints_cut (hv ▸ ha) k (by omega))
      have HW := hid (fun W => inQ (k : Int) 0 ((xs.length : Int) - 1) true (by simpa using hr) W)
      rw [hs] at HC
      have hl8 := hbd.1
      clear hs ha f1 f2 hp hbd hr
      generalize sumL (xs.take k) = t at *
      generalize xs.length = n at *
      subst hv
      go_enter Try.func30, Try.ntmps30
      go_wp2_with fail
      refine HC.out.mono ?_
      rintro e w1 ⟨rfl, rfl⟩
      go_wp2_with fail
      refine (HW.out _).mono ?_
      rintro e w2 ⟨rfl, rfl⟩
      go_wp2_with fail
      refine (HS.out _ HCut.out).mono ?_
      rintro e w2 ⟨rfl, rfl⟩
      go_wp2
      go_ret2
      exact ⟨by rw [HF.out, HG.out]; first | done | rfl, Below.refl _ _⟩
    · have hb : fstB xs c = false := by simp only [fstB, hs, Bool.true_and, decide_eq_false_iff_not]; exact hr
      have HF := hid (fst_no hb)
      have HG := hid hb
      have HW := hid (fun W => inQ c 0 ((xs.length : Int) - 1) false (by simpa only [decide_eq_false_iff_not] using hr) W)
      rw [hs] at HC
      have hl8 := hbd.1
      clear hs ha hb hp hbd hr
      generalize xs.length = n at *
      subst hv
      go_enter Try.func30, Try.ntmps30
      go_wp2_with fail
      refine HC.out.mono ?_
      rintro e w1 ⟨rfl, rfl⟩
      go_wp2_with fail
      refine (HW.out _).mono ?_
      rintro e w2 ⟨rfl, rfl⟩
      go_wp2
      go_ret2
      exact ⟨by rw [HF.out, HG.out]; first | done | rfl, Below.refl _ _⟩
end Go.Proofs.Ytiacfejileeieaa.hk
