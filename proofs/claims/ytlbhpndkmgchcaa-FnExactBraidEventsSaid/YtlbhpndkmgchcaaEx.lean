/-
  Contracts of ExponentSum, of the program and of its model.
-/
import Derived.Test.YtlbhpndkmgchcaaMp
namespace Go.Proofs.Ytlbhpndkmgchcaa.br
open Go.RowKit Go.Proofs.Ytlbhpndkmgchcaa.sl Go.Proofs.Ytlbhpndkmgchcaa.pm Go.Proofs.Ytlbhpndkmgchcaa.bw Go.Proofs.Ytlbhpndkmgchcaa.fn

theorem implSign (x : Int) (w : World) : Calls Try.prog 121 #[.int .i64 x] w fun e w' => e = .returned (.int .i64 (sg x)) ∧ w = w' := by
  by_cases h : x < 0
  · have HF : Hid (sg x = -1) := hid (by rw [sg, if_pos h])
    go_enter Try.func121, Try.ntmps121
    go_wp2
    go_ret
    exact ⟨by rw [HF.out]; rfl, rfl⟩
  · have HF : Hid (sg x = 1) := hid (by rw [sg, if_neg h])
    go_enter Try.func121, Try.ntmps121
    go_wp2
    go_ret
    exact ⟨by rw [HF.out]; rfl, rfl⟩

theorem fieldWord (s : Int) (ao : Option Addr) (n cap : Nat) (w : World) : (Instr.field 28 (.agg #[.int .i64 s, .slice ao n cap]) 1).run Try.prog w = .ok (.slice ao n cap) w := by kernel_rfl

def exB (s : Int) (xs : List Int) : Int := if okB s xs = true then expL xs else 0

theorem exp_sum (xs : List Int) : sumL (xs.map sg) = expL xs := rfl

end Go.Proofs.Ytlbhpndkmgchcaa.br
