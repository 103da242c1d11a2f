/-
  Contracts of MirrorBraid, of the program and of its model.
-/
import Derived.Test.YtnmnikpgjglonabDoorRd
import Derived.Deep.QuietTactic
import Derived.BigQuiet
import Derived.IntWalk
namespace Go.Proofs.YtnmnikpgjglonabDoor.br
open Go.RowKit Go.Proofs.YtnmnikpgjglonabDoor.sl Go.Proofs.YtnmnikpgjglonabDoor.pm Go.Proofs.YtnmnikpgjglonabDoor.bw Go.Proofs.YtnmnikpgjglonabDoor.fn

theorem implGen (x : Int) (hx : -100 ≤ x ∧ x ≤ 100) (w : World) : Calls Tryd.prog 152 #[.int .i64 x] w fun e w' => e = .returned (.int .i64 (ab x)) ∧ w = w' := by
  obtain ⟨h0, h1⟩ := hx
  by_cases h : x < 0
  · have HF : Hid (ab x = -x) := hid (by rw [ab, if_pos h])
    have hm : max x (-x) = -x := by omega
    go_enter Tryd.func152, Tryd.ntmps152
    go_wp2
    go_ret
    exact ⟨by rw [HF.out]; rfl, rfl⟩
  · have HF : Hid (ab x = x) := hid (by rw [ab, if_neg h])
    have hm : max x (-x) = x := by omega
    go_enter Tryd.func152, Tryd.ntmps152
    go_wp2
    go_ret
    exact ⟨by rw [HF.out]; rfl, rfl⟩

theorem specAbs (x : Int) (hx : -100 ≤ x ∧ x ≤ 100) (w : World) : Calls Tryd.prog 143 #[.int .i64 x] w fun e w' => e = .returned (.int .i64 (ab x)) ∧ w = w' := by
  obtain ⟨h0, h1⟩ := hx
  by_cases h : x < 0
  · have HF : Hid (ab x = -x) := hid (by rw [ab, if_pos h])
    go_enter Tryd.func143, Tryd.ntmps143
    go_wp2
    go_ret
    exact ⟨by rw [HF.out]; rfl, rfl⟩
  · have HF : Hid (ab x = x) := hid (by rw [ab, if_neg h])
    go_enter Tryd.func143, Tryd.ntmps143
    go_wp2
    go_ret
    exact ⟨by rw [HF.out]; rfl, rfl⟩

theorem quiet_sign (x : Int) (q : Int) (hq : sg x = q) (w : World) : Calls Tryd.prog 154 #[.int .i64 x] w fun e w' => e = .returned (.int .i64 q) ∧ w' = w :=
  (implSign x w).mono fun _ _ h => ⟨by rw [h.1, hq], h.2.symm⟩
theorem quiet_gen (x : Int) (hx : -100 ≤ x ∧ x ≤ 100) (q : Int) (hq : ab x = q) (w : World) : Calls Tryd.prog 152 #[.int .i64 x] w fun e w' => e = .returned (.int .i64 q) ∧ w' = w :=
  (implGen x hx w).mono fun _ _ h => ⟨by rw [h.1, hq], h.2.symm⟩
theorem quiet_abs (x : Int) (hx : -100 ≤ x ∧ x ≤ 100) (q : Int) (hq : ab x = q) (w : World) : Calls Tryd.prog 143 #[.int .i64 x] w fun e w' => e = .returned (.int .i64 q) ∧ w' = w :=
  (specAbs x hx w).mono fun _ _ h => ⟨by rw [h.1, hq], h.2.symm⟩

def mirW (s : Int) (xs : List Int) : List Int := wordOk s xs (xs.map (mirF s))
theorem mirW_len (s : Int) (xs : List Int) : (mirW s xs).length ≤ 1000 := by
  cases h : okB s xs
  · rw [mirW, wordOk_no h]; simp
  · rw [mirW, wordOk_yes h]; have := (ok_parts h).2.2.1; simp; omega

end Go.Proofs.YtnmnikpgjglonabDoor.br
