/-
  Contracts of ExponentSum, of the program and of its model.
-/
import Derived.Test.YtbonccflocogbaaDoorMp
namespace Go.Proofs.YtbonccflocogbaaDoor.br
open Go.RowKit Go.Proofs.YtbonccflocogbaaDoor.sl Go.Proofs.YtbonccflocogbaaDoor.pm Go.Proofs.YtbonccflocogbaaDoor.bw Go.Proofs.YtbonccflocogbaaDoor.fn

theorem fieldWord (s : Int) (ao : Option Addr) (n cap : Nat) (w : World) : (Instr.field 24 (.agg #[.int .i64 s, .slice ao n cap]) 1).run Tryd.prog w = .ok (.slice ao n cap) w := by kernel_rfl

def exB (s : Int) (xs : List Int) : Int := if okB s xs = true then expL xs else 0

theorem exp_sum (xs : List Int) : sumL (xs.map sg) = expL xs := rfl

end Go.Proofs.YtbonccflocogbaaDoor.br
