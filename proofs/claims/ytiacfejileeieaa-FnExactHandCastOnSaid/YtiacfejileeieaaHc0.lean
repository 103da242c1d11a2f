/-
  HandCastOn of both sides.
-/
import Derived.Test.YtiacfejileeieaaEvm
import Derived.Test.YtiacfejileeieaaEv5
import Derived.Test.YtiacfejileeieaaVo
namespace Go.Proofs.Ytiacfejileeieaa.ev
open Go.RowKit Go.Sort Go.Proofs.Ytiacfejileeieaa.sl
set_option linter.unusedVariables false
set_option linter.unusedSimpArgs false
set_option maxRecDepth 100000

def hcV (c : Int) (j : Nat) : V := ⟨2, (j : Int), 0, 1, c, 1⟩
def hcL (c : Int) (n : Nat) : List V := (List.range n).map (hcV c)
theorem hcL_len (c : Int) (n : Nat) : (hcL c n).length = n := by simp [hcL]
theorem hcL_succ (c : Int) (n : Nat) : hcL c (n + 1) = hcL c n ++ [hcV c n] := by simp [hcL, List.range_succ]
def hcB (n c : Int) : Bool := decide (1 ≤ n ∧ n ≤ 8) && vo.carB c
def hcW (n c : Int) : List V := if hcB n c = true then hcL c n.toNat else []
def hcC (n c : Int) : Int := if hcB n c = true then 0 else 2
theorem hcW_len (n c : Int) : (hcW n c).length ≤ 20000 := by
  unfold hcW
  split
  · rename_i h
    simp only [hcB, Bool.and_eq_true, decide_eq_true_eq] at h
    rw [hcL_len]; omega
  · simp
theorem hc_no {n c : Int} (h : hcB n c = false) : hcW n c = [] ∧ hcC n c = 2 := by simp [hcW, hcC, h]
theorem hc_yes {c : Int} (n : Nat) (h : hcB (n : Int) c = true) : hcW (n : Int) c = hcL c n ∧ hcC (n : Int) c = 0 := by simp [hcW, hcC, h]

theorem specCast (n : Nat) (c : Int) (w : World) (hn : n ≤ 8) :
    Calls Try.prog 58 #[.int .i64 n, .int .i64 c] w fun e w' => ∃ v', e = .returned v' ∧ ROwn w' w.heap.size w'.heap.size v' (hcL c n) ∧ Below w.heap.size w w' := by
  go_enter Try.func58, Try.ntmps58
  go_wp2
  go_loopw [5, 6] (fun v i wr => ∃ k : Nat, k ≤ n ∧ i = .int .i64 k ∧ ROwn wr w.heap.size wr.heap.size v (hcL c k) ∧ Below w.heap.size w wr)
    (fun _ i _ => n - (intOf i).toNat)
  case atStart => exact ⟨0, Nat.zero_le _, rfl, ROwn.built w _ rfl, (Below.refl _ _).alloc (Nat.le_refl _) _⟩
  case round =>
    obtain ⟨k, hk, rfl, hown, hbel⟩ := hrel
    have HO := hid hown
    have HB := hid hbel
    have hsz := hbel.size
    clear hown hbel
    by_cases hlt : k < n
    · have hl : (hcL c k).length ≤ 1048576 := by rw [hcL_len]; omega
      have HX := hid (hcL_succ c k)
      generalize hcL c k = l at *
      go_wp2_with (at_builtin; refine wp_append1 rfl _ _ rfl w.heap.size wr.heap.size _ l ⟨2, (k : Int), 0, 1, c, 1⟩ HO.out rfl rfl (by omega) hl ?_; intro v' w1 hown1 hchg1 hsz1; have HO3 := hid hown1; have HB3 := hid (HB.out.trans (hchg1.below (Nat.le_refl _) (by omega))); clear hown1 hchg1)
      go_roundw
      case rel => exact ⟨k + 1, by omega, by go_num, by rw [HX.out]; exact HO3.out, HB3.out⟩
      case measure => simp [intOf]; omega
    · obtain rfl : k = n := by omega
      go_wp2
      go_ret
      exact ⟨_, rfl, HO.out, HB.out⟩

theorem specHC (n c : Int) (w : World) :
    Calls Try.prog 23 #[.int .i64 n, .int .i64 c] w fun e w' => ∃ v', e = .returned (.tuple #[v', .int .i64 (hcC n c)]) ∧ OOwn w' w.heap.size w'.heap.size v' (hcW n c) ∧ Below w.heap.size w w' := by
  have HI := hid (fun W => pm.specIn n 1 8 W)
  have HY := hid (fun W => vo.specYarn c W)
  by_cases h1 : 1 ≤ n ∧ n ≤ 8
  · have hd : decide (1 ≤ n ∧ n ≤ 8) = true := decide_eq_true h1
    obtain ⟨k, hk⟩ : ∃ k : Nat, n = (k : Int) := ⟨n.toNat, by omega⟩
    subst hk
    have HS := hid (fun W => specCast k c W (by omega))
    cases h2 : vo.carB c
    · obtain ⟨f1, f2⟩ := hc_no (n := (k : Int)) (c := c) (by simp [hcB, h2])
      rw [f1, f2]
      rw [hd] at HI
      rw [h2] at HY
      clear f1 f2 hd h2 h1
      go_enter Try.func23, Try.ntmps23
      go_wp2_with fail
      refine (HI.out _).mono ?_
      rintro e w1 ⟨rfl, rfl⟩
      go_wp2_with fail
      refine (HY.out _).mono ?_
      rintro e w1 ⟨rfl, rfl⟩
      go_wp2
      go_ret2
      exact ⟨_, rfl, (ROwn.nil _ _).oown, Below.refl _ _⟩
    · obtain ⟨f1, f2⟩ := hc_yes (c := c) k (by simp [hcB, h2, hd])
      rw [f1, f2]
      rw [hd] at HI
      rw [h2] at HY
      clear f1 f2 hd h2 h1
      go_enter Try.func23, Try.ntmps23
      go_wp2_with fail
      refine (HI.out _).mono ?_
      rintro e w1 ⟨rfl, rfl⟩
      go_wp2_with fail
      refine (HY.out _).mono ?_
      rintro e w1 ⟨rfl, rfl⟩
      go_wp2_with fail
      refine (HS.out _).mono ?_
      rintro e w1 ⟨v1, rfl, o1, b1⟩
      have HO := hid o1.oown
      have HB := hid b1
      clear o1 b1
      go_wp2
      go_ret2
      exact ⟨_, rfl, HO.out, HB.out⟩
  · have hd : decide (1 ≤ n ∧ n ≤ 8) = false := decide_eq_false h1
    obtain ⟨f1, f2⟩ := hc_no (n := n) (c := c) (by simp only [hcB, hd, Bool.false_and])
    rw [f1, f2]
    rw [hd] at HI
    clear f1 f2 hd h1
    go_enter Try.func23, Try.ntmps23
    go_wp2_with fail
    refine (HI.out _).mono ?_
    rintro e w1 ⟨rfl, rfl⟩
    go_wp2
    go_ret2
    exact ⟨_, rfl, (ROwn.nil _ _).oown, Below.refl _ _⟩

theorem implHC (n c : Int) (w : World) :
    Calls Try.prog 24 #[.int .i64 n, .int .i64 c] w fun e w' => ∃ v', e = .returned (.tuple #[v', .int .i64 (hcC n c)]) ∧ OOwn w' w.heap.size w'.heap.size v' (hcW n c) ∧ Below w.heap.size w w' := by
  obtain ⟨i0, hi, hz0, hz1, hz2⟩ := info_parts infoO
  have HI := hid (fun W => pm.within64 n 1 8 W)
  have HY := hid (fun W => vo.implCar c W)
  by_cases h1 : 1 ≤ n ∧ n ≤ 8
  · have hd : decide (1 ≤ n ∧ n ≤ 8) = true := decide_eq_true h1
    obtain ⟨m, hk⟩ : ∃ k : Nat, n = (k : Int) := ⟨n.toNat, by omega⟩
    subst hk
    cases h2 : vo.carB c
    · obtain ⟨f1, f2⟩ := hc_no (n := (m : Int)) (c := c) (by simp [hcB, h2])
      rw [f1, f2]
      rw [hd] at HI
      rw [h2] at HY
      clear f1 f2 hd h2 h1
      go_enter Try.func24, Try.ntmps24
      go_wp2_with fail
      refine (HI.out _).mono ?_
      rintro e w1 ⟨rfl, rfl⟩
      go_wp2_with fail
      refine (HY.out _).mono ?_
      rintro e w1 ⟨rfl, rfl⟩
      go_wp2
      go_ret2
      exact ⟨_, rfl, (ROwn.nil _ _).oown, Below.refl _ _⟩
    · obtain ⟨f1, f2⟩ := hc_yes (c := c) m (by simp [hcB, h2, hd])
      rw [f1, f2]
      rw [hd] at HI
      rw [h2] at HY
      clear f1 f2 hd h2
      go_enter Try.func24, Try.ntmps24
      go_wp2_with fail
      refine (HI.out _).mono ?_
      rintro e w1 ⟨rfl, rfl⟩
      go_wp2_with fail
      refine (HY.out _).mono ?_
      rintro e w1 ⟨rfl, rfl⟩
      go_wp2_with (at_make; refine wpList_make_own _ rfl _ _ 36 rfl w.heap.size 77 i0 _ 6 Try.underlying36 hi hz0 hz1 .i64 .i64 _ m rfl rfl (by first | rfl | omega) (by rw [hz2]; omega) (by unfold maxLen; omega) (Nat.le_refl _) ?_; intro w2 hown2 hgrow2; have HO2 : Hid (ROwn w2 w.heap.size w2.heap.size (.slice (some ⟨w.heap.size, 0, none⟩) 0 m) []) := hid (ROwn.mk' (xs := []) (by rw [cellsL_nil]; exact hown2)); have b2 := (Below.refl w.heap.size w).grown hgrow2 (by omega) (fun k hk => by cases hk); have HB2 := hid b2; have hs2 : w.heap.size ≤ w2.heap.size := b2.size; clear hown2 hgrow2 b2)
      go_loopw [6, 19] (fun v i wr => ∃ k : Nat, k ≤ m ∧ i = .int .i64 k ∧ ROwn wr w.heap.size wr.heap.size v (hcL c k) ∧ Below w.heap.size w wr)
        (fun _ i _ => m - (intOf i).toNat)
      case atStart => exact ⟨0, Nat.zero_le _, rfl, HO2.out, HB2.out⟩
      case round =>
        obtain ⟨k, hk, rfl, hown, hbel⟩ := hrel
        have HO := hid hown
        have HB := hid hbel
        have hsz := hbel.size
        clear hown hbel HO2 HB2
        by_cases hlt : k < m
        · have hl : (hcL c k).length ≤ 1048576 := by rw [hcL_len]; omega
          have HX := hid (hcL_succ c k)
          generalize hcL c k = l at *
          go_wp2_with (at_builtin; refine wp_append1 rfl _ _ rfl w.heap.size wr.heap.size _ l ⟨2, (k : Int), 0, 1, c, 1⟩ HO.out rfl rfl (by omega) hl ?_; intro v' w1 hown1 hchg1 hsz1; have HO3 := hid hown1; have HB3 := hid (HB.out.trans (hchg1.below (Nat.le_refl _) (by omega))); clear hown1 hchg1)
          go_roundw
          case rel => exact ⟨k + 1, by omega, by go_num, by rw [HX.out]; exact HO3.out, HB3.out⟩
          case measure => simp [intOf]; omega
        · obtain rfl : k = m := by omega
          go_wp2
          go_ret2
          exact ⟨_, rfl, HO.out.oown, HB.out⟩
  · have hd : decide (1 ≤ n ∧ n ≤ 8) = false := decide_eq_false h1
    obtain ⟨f1, f2⟩ := hc_no (n := n) (c := c) (by simp only [hcB, hd, Bool.false_and])
    rw [f1, f2]
    rw [hd] at HI
    clear f1 f2 hd h1
    go_enter Try.func24, Try.ntmps24
    go_wp2_with fail
    refine (HI.out _).mono ?_
    rintro e w1 ⟨rfl, rfl⟩
    go_wp2
    go_ret2
    exact ⟨_, rfl, (ROwn.nil _ _).oown, Below.refl _ _⟩
end Go.Proofs.Ytiacfejileeieaa.ev
