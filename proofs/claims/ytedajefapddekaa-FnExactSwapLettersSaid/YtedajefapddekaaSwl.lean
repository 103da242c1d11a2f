/-
  SwapLetters of both sides.
-/
import Derived.Test.YtedajefapddekaaDb0
namespace Go.Proofs.Ytedajefapddekaa.db
open Go.RowKit Go.Proofs.Ytedajefapddekaa.sl Go.Proofs.Ytedajefapddekaa.br Go.Proofs.Ytedajefapddekaa.bw Go.Proofs.Ytedajefapddekaa.fn
set_option linter.unusedVariables false

def slB (p a b : Int) : Bool := decide (0 ≤ p ∧ p ≤ 12) && decide (0 ≤ a ∧ a ≤ 4) && decide (0 ≤ b ∧ b ≤ 4) && decide (p + a + b ≤ 12)
def slSg (f : Bool) : Int := if f = true then 1 else -1
def slW (p a b : Int) (f : Bool) : List Int := if slB p a b = true then swO (slSg f) p a.toNat b.toNat else []
theorem sl_no {p a b : Int} {f : Bool} (h : slB p a b = false) : slW p a b f = [] := by unfold slW; rw [h]; rfl
theorem sl_yes {p : Int} {a b : Nat} {f : Bool} (h : slB p a b = true) : slW p a b f = swO (slSg f) p a b := by unfold slW; rw [if_pos h]; simp
theorem slW_len (p a b : Int) (f : Bool) : (slW p a b f).length ≤ 1000 := by
  unfold slW
  split
  · rename_i h
    simp only [slB, Bool.and_eq_true, decide_eq_true_eq] at h
    rw [swO_len]
    have h1 : a.toNat ≤ 4 := by omega
    have h2 : b.toNat ≤ 4 := by omega
    have := Nat.mul_le_mul h1 h2
    have := Nat.mul_le_mul h2 h1
    omega
  · simp
theorem sl_parts {p a b : Int} (h : slB p a b = true) : (0 ≤ p ∧ p ≤ 12) ∧ (0 ≤ a ∧ a ≤ 4) ∧ (0 ≤ b ∧ b ≤ 4) ∧ p + a + b ≤ 12 := by
  simp only [slB, Bool.and_eq_true, decide_eq_true_eq] at h; exact ⟨h.1.1.1, h.1.1.2, h.1.2, h.2⟩
theorem wiQ (c lo hi : Int) (q : Bool) (hq : decide (lo ≤ c ∧ c ≤ hi) = q) (w : World) : Calls Try.prog 60 #[.int .i64 c, .int .i64 lo, .int .i64 hi] w fun e w' => e = .returned (.bool q) ∧ w = w' := by
  subst hq; exact (pm.within64 c lo hi w).mono fun _ _ h => ⟨by rw [h.1], h.2⟩
theorem siQ (c lo hi : Int) (q : Bool) (hq : decide (lo ≤ c ∧ c ≤ hi) = q) (w : World) : Calls Try.prog 53 #[.int .i64 c, .int .i64 lo, .int .i64 hi] w fun e w' => e = .returned (.bool q) ∧ w = w' := by
  subst hq; exact (pm.specIn c lo hi w).mono fun _ _ h => ⟨by rw [h.1], h.2⟩

set_option maxRecDepth 100000 in
theorem implSwL (p a b : Int) (f : Bool) (w : World) :
    Calls Try.prog 23 #[.int .i64 p, .int .i64 a, .int .i64 b, .bool f] w fun e w' => ∃ v', e = .returned (.tuple #[v', .bool (slB p a b)]) ∧ sl.Own w' w.heap.size w'.heap.size v' (slW p a b f) ∧ Below w.heap.size w w' := by
  cases h1 : decide (0 ≤ p ∧ p ≤ 12)
  · have H1 := hid (wiQ p 0 12 false h1)
    have HB : Hid (slB p a b = false) := hid (by unfold slB; rw [h1]; simp)
    have HW := hid (sl_no (f := f) HB.out)
    clear h1
    go_enter Try.func23, Try.ntmps23
    go_wp2_with fail
    refine (H1.out _).mono ?_
    rintro e w1 ⟨rfl, hw⟩
    obtain rfl := hw
    go_wp2
    go_ret2
    exact ⟨_, by rw [HB.out]; rfl, by rw [HW.out]; exact Own.nil _ _, Below.refl _ _⟩
  · have H1 := hid (wiQ p 0 12 true h1)
    cases h2 : decide (0 ≤ a ∧ a ≤ 4)
    · have H2 := hid (wiQ a 0 4 false h2)
      have HB : Hid (slB p a b = false) := hid (by unfold slB; rw [h1, h2]; simp)
      have HW := hid (sl_no (f := f) HB.out)
      clear h1 h2
      go_enter Try.func23, Try.ntmps23
      go_wp2_with fail
      refine (H1.out _).mono ?_
      rintro e w1 ⟨rfl, hw⟩
      obtain rfl := hw
      go_wp2_with fail
      refine (H2.out _).mono ?_
      rintro e w2 ⟨rfl, hw⟩
      obtain rfl := hw
      go_wp2
      go_ret2
      exact ⟨_, by rw [HB.out]; rfl, by rw [HW.out]; exact Own.nil _ _, Below.refl _ _⟩
    · have H2 := hid (wiQ a 0 4 true h2)
      cases h3 : decide (0 ≤ b ∧ b ≤ 4)
      · have H3 := hid (wiQ b 0 4 false h3)
        have HB : Hid (slB p a b = false) := hid (by unfold slB; rw [h1, h2, h3]; simp)
        have HW := hid (sl_no (f := f) HB.out)
        clear h1 h2 h3
        go_enter Try.func23, Try.ntmps23
        go_wp2_with fail
        refine (H1.out _).mono ?_
        rintro e w1 ⟨rfl, hw⟩
        obtain rfl := hw
        go_wp2_with fail
        refine (H2.out _).mono ?_
        rintro e w2 ⟨rfl, hw⟩
        obtain rfl := hw
        go_wp2_with fail
        refine (H3.out _).mono ?_
        rintro e w3 ⟨rfl, hw⟩
        obtain rfl := hw
        go_wp2
        go_ret2
        exact ⟨_, by rw [HB.out]; rfl, by rw [HW.out]; exact Own.nil _ _, Below.refl _ _⟩
      · have H3 := hid (wiQ b 0 4 true h3)
        have hp := of_decide_eq_true h1
        have ha := of_decide_eq_true h2
        have hb := of_decide_eq_true h3
        have e1 : IntKind.i64.wrap (p + a) = p + a := IntWalk.i64_in _ (by omega)
        have e2 : IntKind.i64.wrap (p + a + b) = p + a + b := IntWalk.i64_in _ (by omega)
        cases h4 : decide (p + a + b ≤ 12)
        · have hlt : 12 < p + a + b := by have := of_decide_eq_false h4; omega
          have HB : Hid (slB p a b = false) := hid (by unfold slB; rw [h1, h2, h3, h4]; simp)
          have HW := hid (sl_no (f := f) HB.out)
          clear h1 h2 h3 h4
          go_enter Try.func23, Try.ntmps23
          go_wp2_with fail
          refine (H1.out _).mono ?_
          rintro e w1 ⟨rfl, hw⟩
          obtain rfl := hw
          go_wp2_with fail
          refine (H2.out _).mono ?_
          rintro e w2 ⟨rfl, hw⟩
          obtain rfl := hw
          go_wp2_with fail
          refine (H3.out _).mono ?_
          rintro e w3 ⟨rfl, hw⟩
          obtain rfl := hw
          go_wp2
          go_ret2
          exact ⟨_, by rw [HB.out]; rfl, by rw [HW.out]; exact Own.nil _ _, Below.refl _ _⟩
        · have hlt : ¬ 12 < p + a + b := by have := of_decide_eq_true h4; omega
          have HB : Hid (slB p a b = true) := hid (by unfold slB; rw [h1, h2, h3, h4]; rfl)
          obtain ⟨a, rfl⟩ : ∃ n : Nat, a = n := ⟨a.toNat, by omega⟩
          obtain ⟨b, rfl⟩ : ∃ n : Nat, b = n := ⟨b.toNat, by omega⟩
          have HW := hid (sl_yes (f := f) HB.out)
          have HS := hid (fun W => implCross (slSg f) p a b W (by unfold slSg; split <;> simp) (by omega) (by omega) (by omega))
          clear h1 h2 h3 h4
          cases f
          · have hsg : slSg false = -1 := rfl
            rw [hsg] at HS
            clear hsg
            go_enter Try.func23, Try.ntmps23
            go_wp2_with fail
            refine (H1.out _).mono ?_
            rintro e w1 ⟨rfl, hw⟩
            obtain rfl := hw
            go_wp2_with fail
            refine (H2.out _).mono ?_
            rintro e w2 ⟨rfl, hw⟩
            obtain rfl := hw
            go_wp2_with fail
            refine (H3.out _).mono ?_
            rintro e w3 ⟨rfl, hw⟩
            obtain rfl := hw
            go_wp2_with fail
            refine (HS.out _).mono ?_
            rintro e w5 ⟨v5, rfl, o5, b5⟩
            have HO := hid o5
            have HBl := hid b5
            clear o5 b5
            go_wp2
            go_ret2
            exact ⟨v5, by rw [HB.out]; rfl, by rw [HW.out]; exact HO.out, HBl.out⟩
          · have hsg : slSg true = 1 := rfl
            rw [hsg] at HS
            clear hsg
            go_enter Try.func23, Try.ntmps23
            go_wp2_with fail
            refine (H1.out _).mono ?_
            rintro e w1 ⟨rfl, hw⟩
            obtain rfl := hw
            go_wp2_with fail
            refine (H2.out _).mono ?_
            rintro e w2 ⟨rfl, hw⟩
            obtain rfl := hw
            go_wp2_with fail
            refine (H3.out _).mono ?_
            rintro e w3 ⟨rfl, hw⟩
            obtain rfl := hw
            go_wp2_with fail
            refine (HS.out _).mono ?_
            rintro e w5 ⟨v5, rfl, o5, b5⟩
            have HO := hid o5
            have HBl := hid b5
            clear o5 b5
            go_wp2
            go_ret2
            exact ⟨v5, by rw [HB.out]; rfl, by rw [HW.out]; exact HO.out, HBl.out⟩

set_option maxRecDepth 100000 in
theorem specSwL (p a b : Int) (f : Bool) (w : World) :
    Calls Try.prog 22 #[.int .i64 p, .int .i64 a, .int .i64 b, .bool f] w fun e w' => ∃ v', e = .returned (.tuple #[v', .bool (slB p a b)]) ∧ sl.Own w' w.heap.size w'.heap.size v' (slW p a b f) ∧ Below w.heap.size w w' := by
  cases h1 : decide (0 ≤ p ∧ p ≤ 12)
  · have H1 := hid (siQ p 0 12 false h1)
    have HB : Hid (slB p a b = false) := hid (by unfold slB; rw [h1]; simp)
    have HW := hid (sl_no (f := f) HB.out)
    clear h1
    go_enter Try.func22, Try.ntmps22
    go_wp2_with fail
    refine (H1.out _).mono ?_
    rintro e w1 ⟨rfl, hw⟩
    obtain rfl := hw
    go_wp2
    go_ret2
    exact ⟨_, by rw [HB.out]; rfl, by rw [HW.out]; exact Own.nil _ _, Below.refl _ _⟩
  · have H1 := hid (siQ p 0 12 true h1)
    cases h2 : decide (0 ≤ a ∧ a ≤ 4)
    · have H2 := hid (siQ a 0 4 false h2)
      have HB : Hid (slB p a b = false) := hid (by unfold slB; rw [h1, h2]; simp)
      have HW := hid (sl_no (f := f) HB.out)
      clear h1 h2
      go_enter Try.func22, Try.ntmps22
      go_wp2_with fail
      refine (H1.out _).mono ?_
      rintro e w1 ⟨rfl, hw⟩
      obtain rfl := hw
      go_wp2_with fail
      refine (H2.out _).mono ?_
      rintro e w2 ⟨rfl, hw⟩
      obtain rfl := hw
      go_wp2
      go_ret2
      exact ⟨_, by rw [HB.out]; rfl, by rw [HW.out]; exact Own.nil _ _, Below.refl _ _⟩
    · have H2 := hid (siQ a 0 4 true h2)
      cases h3 : decide (0 ≤ b ∧ b ≤ 4)
      · have H3 := hid (siQ b 0 4 false h3)
        have HB : Hid (slB p a b = false) := hid (by unfold slB; rw [h1, h2, h3]; simp)
        have HW := hid (sl_no (f := f) HB.out)
        clear h1 h2 h3
        go_enter Try.func22, Try.ntmps22
        go_wp2_with fail
        refine (H1.out _).mono ?_
        rintro e w1 ⟨rfl, hw⟩
        obtain rfl := hw
        go_wp2_with fail
        refine (H2.out _).mono ?_
        rintro e w2 ⟨rfl, hw⟩
        obtain rfl := hw
        go_wp2_with fail
        refine (H3.out _).mono ?_
        rintro e w3 ⟨rfl, hw⟩
        obtain rfl := hw
        go_wp2
        go_ret2
        exact ⟨_, by rw [HB.out]; rfl, by rw [HW.out]; exact Own.nil _ _, Below.refl _ _⟩
      · have H3 := hid (siQ b 0 4 true h3)
        have hp := of_decide_eq_true h1
        have ha := of_decide_eq_true h2
        have hb := of_decide_eq_true h3
        have e1 : IntKind.i64.wrap (p + a) = p + a := IntWalk.i64_in _ (by omega)
        have e2 : IntKind.i64.wrap (p + a + b) = p + a + b := IntWalk.i64_in _ (by omega)
        cases h4 : decide (p + a + b ≤ 12)
        · have hlt : 12 < p + a + b := by have := of_decide_eq_false h4; omega
          have HB : Hid (slB p a b = false) := hid (by unfold slB; rw [h1, h2, h3, h4]; simp)
          have HW := hid (sl_no (f := f) HB.out)
          clear h1 h2 h3 h4
          go_enter Try.func22, Try.ntmps22
          go_wp2_with fail
          refine (H1.out _).mono ?_
          rintro e w1 ⟨rfl, hw⟩
          obtain rfl := hw
          go_wp2_with fail
          refine (H2.out _).mono ?_
          rintro e w2 ⟨rfl, hw⟩
          obtain rfl := hw
          go_wp2_with fail
          refine (H3.out _).mono ?_
          rintro e w3 ⟨rfl, hw⟩
          obtain rfl := hw
          go_wp2
          go_ret2
          exact ⟨_, by rw [HB.out]; rfl, by rw [HW.out]; exact Own.nil _ _, Below.refl _ _⟩
        · have hlt : ¬ 12 < p + a + b := by have := of_decide_eq_true h4; omega
          have HB : Hid (slB p a b = true) := hid (by unfold slB; rw [h1, h2, h3, h4]; rfl)
          obtain ⟨a, rfl⟩ : ∃ n : Nat, a = n := ⟨a.toNat, by omega⟩
          obtain ⟨b, rfl⟩ : ∃ n : Nat, b = n := ⟨b.toNat, by omega⟩
          have HW := hid (sl_yes (f := f) HB.out)
          have HS := hid (fun W => specSwap (slSg f) p a b W (by unfold slSg; split <;> simp) (by omega) (by omega) (by omega))
          clear h1 h2 h3 h4
          cases f
          · have hsg : slSg false = -1 := rfl
            rw [hsg] at HS
            clear hsg
            go_enter Try.func22, Try.ntmps22
            go_wp2_with fail
            refine (H1.out _).mono ?_
            rintro e w1 ⟨rfl, hw⟩
            obtain rfl := hw
            go_wp2_with fail
            refine (H2.out _).mono ?_
            rintro e w2 ⟨rfl, hw⟩
            obtain rfl := hw
            go_wp2_with fail
            refine (H3.out _).mono ?_
            rintro e w3 ⟨rfl, hw⟩
            obtain rfl := hw
            go_wp2_with fail
            refine (HS.out _).mono ?_
            rintro e w5 ⟨v5, rfl, o5, b5⟩
            have HO := hid o5
            have HBl := hid b5
            clear o5 b5
            go_wp2
            go_ret2
            exact ⟨v5, by rw [HB.out]; rfl, by rw [HW.out]; exact HO.out, HBl.out⟩
          · have hsg : slSg true = 1 := rfl
            rw [hsg] at HS
            clear hsg
            go_enter Try.func22, Try.ntmps22
            go_wp2_with fail
            refine (H1.out _).mono ?_
            rintro e w1 ⟨rfl, hw⟩
            obtain rfl := hw
            go_wp2_with fail
            refine (H2.out _).mono ?_
            rintro e w2 ⟨rfl, hw⟩
            obtain rfl := hw
            go_wp2_with fail
            refine (H3.out _).mono ?_
            rintro e w3 ⟨rfl, hw⟩
            obtain rfl := hw
            go_wp2_with fail
            refine (HS.out _).mono ?_
            rintro e w5 ⟨v5, rfl, o5, b5⟩
            have HO := hid o5
            have HBl := hid b5
            clear o5 b5
            go_wp2
            go_ret2
            exact ⟨v5, by rw [HB.out]; rfl, by rw [HW.out]; exact HO.out, HBl.out⟩
end Go.Proofs.Ytedajefapddekaa.db
