/-
  Columns and their needles: NeedleOfColumn, ColumnOfNeedle of both sides.
-/
import Derived.Test.YtbbnheiibkcgiaaPl0
namespace Go.Proofs.Ytbbnheiibkcgiaa.mo
open Go.RowKit Go.Proofs.Ytbbnheiibkcgiaa.sl Go.Proofs.Ytbbnheiibkcgiaa.pm
set_option linter.unusedVariables false

def ncB (x : Int) : Bool := decide (0 ≤ x ∧ x ≤ 7)
def ncI (x : Int) : Int := if 0 ≤ x ∧ x ≤ 7 then 2 * x + 1 else 0
theorem implNd (x : Int) (hx : 0 ≤ x ∧ x ≤ 8) (w : World) : Calls Try.prog 38 #[.int .i64 x] w fun e w' => e = .returned (.int .i64 (2 * x + 1)) ∧ w = w' := by
  have e1 : IntKind.i64.wrap (2 * x) = 2 * x := IntWalk.i64_in _ (by omega)
  have e2 : IntKind.i64.wrap (2 * x + 1) = 2 * x + 1 := IntWalk.i64_in _ (by omega)
  go_enter Try.func38, Try.ntmps38
  go_wp2
  go_ret
  exact ⟨rfl, rfl⟩
theorem specNd (x : Int) (hx : 0 ≤ x ∧ x ≤ 8) (w : World) : Calls Try.prog 36 #[.int .i64 x] w fun e w' => e = .returned (.int .i64 (2 * x + 1)) ∧ w = w' := by
  have e1 : IntKind.i64.wrap (2 * x) = 2 * x := IntWalk.i64_in _ (by omega)
  have e2 : IntKind.i64.wrap (2 * x + 1) = 2 * x + 1 := IntWalk.i64_in _ (by omega)
  go_enter Try.func36, Try.ntmps36
  go_wp2
  go_ret
  exact ⟨rfl, rfl⟩
theorem within64Q (c lo hi : Int) (q : Bool) (hq : decide (lo ≤ c ∧ c ≤ hi) = q) (w : World) : Calls Try.prog 37 #[.int .i64 c, .int .i64 lo, .int .i64 hi] w fun e w' => e = .returned (.bool q) ∧ w = w' := by
  subst hq; exact (pm.within64 c lo hi w).mono fun _ _ h => ⟨by rw [h.1], h.2⟩
theorem specInQ (c lo hi : Int) (q : Bool) (hq : decide (lo ≤ c ∧ c ≤ hi) = q) (w : World) : Calls Try.prog 35 #[.int .i64 c, .int .i64 lo, .int .i64 hi] w fun e w' => e = .returned (.bool q) ∧ w = w' := by
  subst hq; exact (pm.specIn c lo hi w).mono fun _ _ h => ⟨by rw [h.1], h.2⟩

theorem implNC (x : Int) (w : World) : Calls Try.prog 11 #[.int .i64 x] w fun e w' => e = .returned (.tuple #[.int .i64 (ncI x), .bool (ncB x)]) ∧ w = w' := by
  by_cases h : 0 ≤ x ∧ x ≤ 7
  · have HI : Hid (ncI x = 2 * x + 1) := hid (by rw [ncI, if_pos h])
    have HB : Hid (ncB x = true) := hid (decide_eq_true h)
    have HW := hid (within64Q x 0 7 true (decide_eq_true h))
    have HN := hid (implNd x (by omega))
    clear h
    go_enter Try.func11, Try.ntmps11
    go_wp2_with (first | (go_at_call 37; refine (HW.out _).mono ?_; rintro e w' ⟨rfl, rfl⟩) | (go_at_call 38; refine (HN.out _).mono ?_; rintro e w' ⟨rfl, rfl⟩))
    go_ret2
    exact ⟨by rw [HI.out, HB.out]; rfl, rfl⟩
  · have HI : Hid (ncI x = 0) := hid (by rw [ncI, if_neg h])
    have HB : Hid (ncB x = false) := hid (decide_eq_false h)
    have HW := hid (within64Q x 0 7 false (decide_eq_false h))
    clear h
    go_enter Try.func11, Try.ntmps11
    go_wp2_with (go_at_call 37; refine (HW.out _).mono ?_; rintro e w' ⟨rfl, rfl⟩)
    go_ret2
    exact ⟨by rw [HI.out, HB.out]; rfl, rfl⟩
theorem specNC (x : Int) (w : World) : Calls Try.prog 10 #[.int .i64 x] w fun e w' => e = .returned (.tuple #[.int .i64 (ncI x), .bool (ncB x)]) ∧ w = w' := by
  by_cases h : 0 ≤ x ∧ x ≤ 7
  · have HI : Hid (ncI x = 2 * x + 1) := hid (by rw [ncI, if_pos h])
    have HB : Hid (ncB x = true) := hid (decide_eq_true h)
    have HW := hid (specInQ x 0 7 true (decide_eq_true h))
    have HN := hid (specNd x (by omega))
    clear h
    go_enter Try.func10, Try.ntmps10
    go_wp2_with (first | (go_at_call 35; refine (HW.out _).mono ?_; rintro e w' ⟨rfl, rfl⟩) | (go_at_call 36; refine (HN.out _).mono ?_; rintro e w' ⟨rfl, rfl⟩))
    go_ret2
    exact ⟨by rw [HI.out, HB.out]; rfl, rfl⟩
  · have HI : Hid (ncI x = 0) := hid (by rw [ncI, if_neg h])
    have HB : Hid (ncB x = false) := hid (decide_eq_false h)
    have HW := hid (specInQ x 0 7 false (decide_eq_false h))
    clear h
    go_enter Try.func10, Try.ntmps10
    go_wp2_with (go_at_call 35; refine (HW.out _).mono ?_; rintro e w' ⟨rfl, rfl⟩)
    go_ret2
    exact ⟨by rw [HI.out, HB.out]; rfl, rfl⟩
theorem implNCb (x : Int) (w : World) : Calls Try.prog 11 #[.int .i64 x] w fun e w' => e = .returned (.tuple #[.int .i64 (ncI x), .bool (ncB x)]) ∧ Below w.heap.size w w' :=
  (implNC x w).mono fun _ _ h => ⟨h.1, by rw [← h.2]; exact Below.refl _ _⟩
theorem specNCb (x : Int) (w : World) : Calls Try.prog 10 #[.int .i64 x] w fun e w' => e = .returned (.tuple #[.int .i64 (ncI x), .bool (ncB x)]) ∧ Below w.heap.size w w' :=
  (specNC x w).mono fun _ _ h => ⟨h.1, by rw [← h.2]; exact Below.refl _ _⟩

def cnB (a : Int) : Bool := decide (1 ≤ a ∧ a ≤ 15 ∧ a % 2 = 1)
def cnI (a : Int) : Int := if 1 ≤ a ∧ a ≤ 15 ∧ a % 2 = 1 then a / 2 else 0
theorem cn_at {a : Int} {k : Nat} (hk : k < 8) (h : 2 * (k : Int) + 1 = a) : cnB a = true ∧ cnI a = k := by
  have hc : 1 ≤ a ∧ a ≤ 15 ∧ a % 2 = 1 := by omega
  exact ⟨decide_eq_true hc, by rw [cnI, if_pos hc]; omega⟩
theorem cn_no {a : Int} (h : ∀ j : Nat, j < 8 → ¬ 2 * (j : Int) + 1 = a) : cnB a = false ∧ cnI a = 0 := by
  have hc : ¬ (1 ≤ a ∧ a ≤ 15 ∧ a % 2 = 1) := fun hc => h ((a / 2).toNat) (by omega) (by omega)
  exact ⟨decide_eq_false hc, by rw [cnI, if_neg hc]⟩

theorem specCN (a : Int) (w : World) : Calls Try.prog 12 #[.int .i64 a] w fun e w' => e = .returned (.tuple #[.int .i64 (cnI a), .bool (cnB a)]) ∧ w = w' := by
  have HY := hid (fun (k : Nat) (h : k < 8) e => cn_at (a := a) (k := k) h e)
  have HX := hid (fun h => cn_no (a := a) h)
  generalize cnI a = r at *
  generalize cnB a = q at *
  go_enter Try.func12, Try.ntmps12
  go_wp2
  go_loop [4] (fun i => ∃ k : Nat, k ≤ 8 ∧ i = .int .i64 k ∧ ∀ j : Nat, j < k → ¬ 2 * (j : Int) + 1 = a) (fun i => 8 - (intOf i).toNat)
  case atStart => exact ⟨0, by omega, rfl, fun j hj => by omega⟩
  case round =>
    obtain ⟨k, hk, rfl, hg⟩ := hrel
    have HG := hid hg
    clear hg
    by_cases hlt : k < 8
    · have HN := hid (specNd k (by omega))
      have hd : decide ((k : Int) < 8) = true := decide_eq_true (by omega)
      have hs : IntKind.i64.wrap ((k : Int) + 1) = (k : Int) + 1 := IntWalk.i64_in _ (by omega)
      by_cases he : 2 * (k : Int) + 1 = a
      · obtain ⟨hq, hr⟩ := HY.out k hlt he
        have HQ := hid hq
        have HR := hid hr
        have hb : (2 * (k : Int) + 1 == a) = true := by simpa using he
        clear hq hr he
        go_wp2_with (go_at_call 36; refine (HN.out _).mono ?_; rintro e w' ⟨rfl, rfl⟩)
        go_ret2
        exact ⟨by rw [HQ.out, HR.out]; rfl, rfl⟩
      · have hb : (2 * (k : Int) + 1 == a) = false := by simpa using he
        have HR : Hid (∀ j : Nat, j < k + 1 → ¬ 2 * (j : Int) + 1 = a) := hid (fun j hj => by
          rcases Nat.lt_or_ge j k with h | h
          · exact HG.out j h
          · obtain rfl : j = k := by omega
            exact he)
        clear he
        go_wp2_with (go_at_call 36; refine (HN.out _).mono ?_; rintro e w' ⟨rfl, rfl⟩)
        go_round
        case rel => exact ⟨k + 1, by omega, by go_num, HR.out⟩
        case measure => simp [intOf]; omega
    · obtain rfl : k = 8 := by omega
      obtain ⟨hq, hr⟩ := HX.out HG.out
      have HQ := hid hq
      have HR := hid hr
      clear hq hr
      go_wp2
      go_ret2
      exact ⟨by rw [HQ.out, HR.out]; rfl, rfl⟩

theorem implCN (a : Int) (ha : -9223372036854775808 ≤ a ∧ a ≤ 9223372036854775807) (w : World) : Calls Try.prog 13 #[.int .i64 a] w fun e w' => e = .returned (.tuple #[.int .i64 (cnI a), .bool (cnB a)]) ∧ w = w' := by
  obtain ⟨c, hc⟩ : ∃ c, c = Int.tdiv a 2 := ⟨_, rfl⟩
  have hr : IntKind.i64.wrap (Int.tdiv a 2) = c := by
    rw [← hc]
    refine IntWalk.i64_in _ ?_
    rcases Int.le_total 0 a with h | h
    · rw [hc, Int.tdiv_eq_ediv_of_nonneg h]; omega
    · obtain ⟨b, rfl⟩ : ∃ b, a = -b := ⟨-a, by omega⟩
      rw [hc, Int.neg_tdiv, Int.tdiv_eq_ediv_of_nonneg (by omega)]; omega
  have hcc : (0 ≤ a → c = a / 2) ∧ (a < 0 → c ≤ 0 ∧ (c = 0 → -1 ≤ a)) := by
    refine ⟨fun h => by rw [hc, Int.tdiv_eq_ediv_of_nonneg h], fun h => ?_⟩
    obtain ⟨b, rfl⟩ : ∃ b, a = -b := ⟨-a, by omega⟩
    rw [hc, Int.neg_tdiv, Int.tdiv_eq_ediv_of_nonneg (by omega)]
    omega
  have HN := hid (implNC c)
  by_cases h : 1 ≤ a ∧ a ≤ 15 ∧ a % 2 = 1
  · have HB : Hid (cnB a = true) := hid (decide_eq_true h)
    have HI : Hid (cnI a = c) := hid (by rw [cnI, if_pos h]; omega)
    have hn : ncI c = a := by rw [ncI, if_pos (by omega)]; omega
    have hb : ncB c = true := decide_eq_true (by omega)
    rw [hn, hb] at HN
    have hne : (a != a) = false := by simp
    clear hn hb h hcc hc ha
    go_enter Try.func13, Try.ntmps13
    go_wp2_with (go_at_call 11; refine (HN.out _).mono ?_; rintro e w' ⟨rfl, rfl⟩)
    go_ret2
    exact ⟨by rw [HI.out, HB.out]; rfl, rfl⟩
  · have HB : Hid (cnB a = false) := hid (decide_eq_false h)
    have HI : Hid (cnI a = 0) := hid (by rw [cnI, if_neg h])
    by_cases hb : 0 ≤ c ∧ c ≤ 7
    · have hbb : ncB c = true := decide_eq_true hb
      have hn : (ncI c == a) = false := by
        rw [ncI, if_pos hb]
        simp
        omega
      have hn2 : (ncI c != a) = true := by
        rw [bne, hn]; rfl
      rw [hbb] at HN
      generalize ncI c = z at *
      clear hbb h hcc hc ha hb
      go_enter Try.func13, Try.ntmps13
      go_wp2_with (go_at_call 11; refine (HN.out _).mono ?_; rintro e w' ⟨rfl, rfl⟩)
      go_ret2
      exact ⟨by rw [HI.out, HB.out]; rfl, rfl⟩
    · have hbb : ncB c = false := decide_eq_false hb
      rw [hbb] at HN
      generalize ncI c = z at *
      clear hbb h hcc hc ha hb
      go_enter Try.func13, Try.ntmps13
      go_wp2_with (go_at_call 11; refine (HN.out _).mono ?_; rintro e w' ⟨rfl, rfl⟩)
      go_ret2
      exact ⟨by rw [HI.out, HB.out]; rfl, rfl⟩
theorem implCNb (a : Int) (w : World) (ha : -9223372036854775808 ≤ a ∧ a ≤ 9223372036854775807) : Calls Try.prog 13 #[.int .i64 a] w fun e w' => e = .returned (.tuple #[.int .i64 (cnI a), .bool (cnB a)]) ∧ Below w.heap.size w w' :=
  (implCN a ha w).mono fun _ _ h => ⟨h.1, by rw [← h.2]; exact Below.refl _ _⟩
theorem specCNb (a : Int) (w : World) : Calls Try.prog 12 #[.int .i64 a] w fun e w' => e = .returned (.tuple #[.int .i64 (cnI a), .bool (cnB a)]) ∧ Below w.heap.size w w' :=
  (specCN a w).mono fun _ _ h => ⟨h.1, by rw [← h.2]; exact Below.refl _ _⟩
end Go.Proofs.Ytbbnheiibkcgiaa.mo
