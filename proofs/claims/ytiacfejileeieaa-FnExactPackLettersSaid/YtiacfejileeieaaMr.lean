/-
  Contracts of MirrorBraid, of the program and of its model.
-/
import Derived.Test.YtiacfejileeieaaRd
import Derived.Deep.QuietTactic
import Derived.BigQuiet
import Derived.IntWalk
namespace Go.Proofs.Ytiacfejileeieaa.br
open Go.RowKit Go.Proofs.Ytiacfejileeieaa.sl Go.Proofs.Ytiacfejileeieaa.pm Go.Proofs.Ytiacfejileeieaa.bw Go.Proofs.Ytiacfejileeieaa.fn

theorem implGen (x : Int) (hx : -100 ≤ x ∧ x ≤ 100) (w : World) : Calls Try.prog 99 #[.int .i64 x] w fun e w' => e = .returned (.int .i64 (ab x)) ∧ w = w' := by
  obtain ⟨h0, h1⟩ := hx
  by_cases h : x < 0
  · have HF : Hid (ab x = -x) := hid (by rw [ab, if_pos h])
    have hm : max x (-x) = -x := by omega
    go_enter Try.func99, Try.ntmps99
    go_wp2
    go_ret
    exact ⟨by rw [HF.out]; rfl, rfl⟩
  · have HF : Hid (ab x = x) := hid (by rw [ab, if_neg h])
    have hm : max x (-x) = x := by omega
    go_enter Try.func99, Try.ntmps99
    go_wp2
    go_ret
    exact ⟨by rw [HF.out]; rfl, rfl⟩

theorem specAbs (x : Int) (hx : -100 ≤ x ∧ x ≤ 100) (w : World) : Calls Try.prog 94 #[.int .i64 x] w fun e w' => e = .returned (.int .i64 (ab x)) ∧ w = w' := by
  obtain ⟨h0, h1⟩ := hx
  by_cases h : x < 0
  · have HF : Hid (ab x = -x) := hid (by rw [ab, if_pos h])
    go_enter Try.func94, Try.ntmps94
    go_wp2
    go_ret
    exact ⟨by rw [HF.out]; rfl, rfl⟩
  · have HF : Hid (ab x = x) := hid (by rw [ab, if_neg h])
    go_enter Try.func94, Try.ntmps94
    go_wp2
    go_ret
    exact ⟨by rw [HF.out]; rfl, rfl⟩

theorem quiet_gen (x : Int) (hx : -100 ≤ x ∧ x ≤ 100) (q : Int) (hq : ab x = q) (w : World) : Calls Try.prog 99 #[.int .i64 x] w fun e w' => e = .returned (.int .i64 q) ∧ w' = w :=
  (implGen x hx w).mono fun _ _ h => ⟨by rw [h.1, hq], h.2.symm⟩
theorem quiet_abs (x : Int) (hx : -100 ≤ x ∧ x ≤ 100) (q : Int) (hq : ab x = q) (w : World) : Calls Try.prog 94 #[.int .i64 x] w fun e w' => e = .returned (.int .i64 q) ∧ w' = w :=
  (specAbs x hx w).mono fun _ _ h => ⟨by rw [h.1, hq], h.2.symm⟩

def mirW (s : Int) (xs : List Int) : List Int := wordOk s xs (xs.map (mirF s))
theorem mirW_len (s : Int) (xs : List Int) : (mirW s xs).length ≤ 1000 := by
  cases h : okB s xs
  · rw [mirW, wordOk_no h]; simp
  · rw [mirW, wordOk_yes h]; have := (ok_parts h).2.2.1; simp; omega

end Go.Proofs.Ytiacfejileeieaa.br
