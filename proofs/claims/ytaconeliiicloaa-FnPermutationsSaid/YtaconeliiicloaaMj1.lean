/-
  Pair sets: contracts of cmp.Compare, has, compare and of the closure that sorts by it.
-/
import Derived.Test.YtaconeliiicloaaBits
import Derived.Test.YtaconeliiicloaaCm
import Derived.Test.YtaconeliiicloaaLat2
import Derived.Test.YtaconeliiicloaaRvs
import Derived.Shelf.SlSortCmp.QuietGrown
namespace Go.Proofs.Ytaconeliiicloaa.mj
open Go.RowKit Go.Proofs.Ytaconeliiicloaa.sl Go.Proofs.Ytaconeliiicloaa.bt Go.Proofs.Ytaconeliiicloaa.la

theorem rows_new (w : World) (f : Nat → Nat) : Rows12 (w.alloc (.cells (arr f) 79)) w.heap.size 79 f := heap_alloc_new _ _

theorem bit_has (x j : Nat) (hx : x < 65536) : (bits .and .u16 ((x : Int) / 2 ^ j) 1 == 1) = x.testBit j := by
  have e0 : ((2 : Int) ^ j) = ((2 ^ j : Nat) : Int) := by rw [Int.natCast_pow]; rfl
  have hd : x / 2 ^ j < 65536 := Nat.lt_of_le_of_lt (Nat.div_le_self _ _) hx
  have e1 : ((x : Int) / 2 ^ j) = ((x / 2 ^ j : Nat) : Int) := by rw [e0]; exact (Int.natCast_ediv _ _).symm
  have e2 : bits .and .u16 ((x / 2 ^ j : Nat) : Int) 1 = ((x / 2 ^ j &&& 1 : Nat) : Int) := u16_and_nat (x / 2 ^ j) 1 hd (by omega)
  rw [e1, e2, Nat.and_one_is_mod, Nat.testBit_eq_decide_div_mod_eq]
  by_cases h : x / 2 ^ j % 2 = 1
  · rw [h]; rfl
  · have : x / 2 ^ j % 2 = 0 := by omega
    rw [this]; rfl

/-- How things are compared: those that are a pair the other way round. -/
def cf (f : Nat → Nat) (x y : Nat) : Int := if (f (min x y)).testBit (max x y) = true then cmpI y x else cmpI x y

end Go.Proofs.Ytaconeliiicloaa.mj
