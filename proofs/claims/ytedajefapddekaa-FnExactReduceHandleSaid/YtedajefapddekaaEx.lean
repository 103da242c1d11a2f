/-
  Contracts of ExponentSum, of the program and of its model.
-/
import Derived.Test.YtedajefapddekaaMp
namespace Go.Proofs.Ytedajefapddekaa.br
open Go.RowKit Go.Proofs.Ytedajefapddekaa.sl Go.Proofs.Ytedajefapddekaa.pm Go.Proofs.Ytedajefapddekaa.bw Go.Proofs.Ytedajefapddekaa.fn

theorem implSign (x : Int) (w : World) : Calls Try.prog 110 #[.int .i64 x] w fun e w' => e = .returned (.int .i64 (sg x)) ∧ w = w' := by
  by_cases h : x < 0
  · have HF : Hid (sg x = -1) := hid (by rw [sg, if_pos h])
    go_enter Try.func110, Try.ntmps110
    go_wp2
    go_ret
    exact ⟨by rw [HF.out]; rfl, rfl⟩
  · have HF : Hid (sg x = 1) := hid (by rw [sg, if_neg h])
    go_enter Try.func110, Try.ntmps110
    go_wp2
    go_ret
    exact ⟨by rw [HF.out]; rfl, rfl⟩

theorem implSum (xs : List Int) (c : Nat) (v : Value) (B : Nat) (w : World) (ha : Ints w B v xs) (hn : xs.length ≤ 1048576) (hcl : c ≤ 1048576) (hb : ∀ j, j < xs.length → -(c : Int) ≤ xs.getD j 0 ∧ xs.getD j 0 ≤ c) :
    Calls Try.prog 75 #[v] w fun e w' => e = .returned (.int .i64 (sumL xs)) ∧ w = w' := by
  rcases ha with ⟨rfl, ao, cap, rfl⟩ | ⟨hp, b, off, cap, rfl, hbb, hc⟩
  · go_enter Try.func75, Try.ntmps75
    go_wp2
    refine wp_loop_rounds 1 ?_
    rw [rounds_succ]
    go_wp2
    go_ret
    exact ⟨rfl, rfl⟩
  · obtain ⟨n, hnn⟩ : ∃ n, n = xs.length := ⟨_, rfl⟩
    rw [← hnn] at hp hc hn hb ⊢
    have HN := hid hnn
    have HC := hid hc
    have HBd := hid hb
    clear hnn hc hb
    go_enter Try.func75, Try.ntmps75
    go_wp2
    go_loop [3, 8] (fun t i => ∃ k : Nat, k ≤ n ∧ i = .int .i64 k ∧ t = .int .i64 (sumTo xs k)) (fun _ i => n - (intOf i).toNat)
    case atStart => exact ⟨0, Nat.zero_le _, rfl, rfl⟩
    case round =>
      obtain ⟨k, hk, rfl, rfl⟩ := hrel
      have hl := sumTo_le xs c (by rw [← HN.out]; exact HBd.out) k (by rw [← HN.out]; exact hk)
      have hkc : k * c ≤ 1048576 * 1048576 := Nat.mul_le_mul (by omega) hcl
      by_cases hlt : k < n
      · have h1 := HC.out k hlt
        have hx := HBd.out k hlt
        have HS := hid (sumTo_succ xs k (by rw [← HN.out]; exact hlt))
        generalize xs.getD k 0 = x at *
        generalize sumTo xs k = t at *
        generalize k * c = q at *
        go_wp2
        go_round
        case rel => exact ⟨k + 1, by omega, by go_num, by rw [HS.out]⟩
        case measure => simp [intOf]; omega
      · obtain rfl : k = n := by omega
        have HS : Hid (sumTo xs k = sumL xs) := hid (by rw [HN.out]; exact sumTo_all xs)
        rw [HS.out] at hl ⊢
        go_wp2
        go_ret
        exact ⟨rfl, rfl⟩

theorem fieldWord (s : Int) (ao : Option Addr) (n cap : Nat) (w : World) : (Instr.field 39 (.agg #[.int .i64 s, .slice ao n cap]) 1).run Try.prog w = .ok (.slice ao n cap) w := by kernel_rfl

def exB (s : Int) (xs : List Int) : Int := if okB s xs = true then expL xs else 0

theorem exp_sum (xs : List Int) : sumL (xs.map sg) = expL xs := rfl

end Go.Proofs.Ytedajefapddekaa.br
