/-
  The contracts of HandleEqual and CompareBraids in the order that the laws' walks take.
-/
import Derived.Test.YtedajefapddekaaHe2
namespace Go.Proofs.Ytedajefapddekaa.hl
open Go.RowKit Go.Proofs.Ytedajefapddekaa.sl Go.Proofs.Ytedajefapddekaa.br Go.Proofs.Ytedajefapddekaa.bw Go.Proofs.Ytedajefapddekaa.fn
theorem implHEq (a : Int) (xs : List Int) (b : Int) (ys : List Int) (d : Int) (v u : Value) (B C : Nat) (w : World) (ha : Ints w B v xs) (hB : B ≤ w.heap.size) (hb : Ints w C u ys) (hC : C ≤ w.heap.size) (hn : xs.length ≤ 1099511627776) (hm : ys.length ≤ 1099511627776) (nv : SOk v) (nu : SOk u) :
    Calls Try.prog 48 #[.agg #[.int .i64 a, v], .agg #[.int .i64 b, u], .int .i64 d] w fun e w' => e = .returned (.tuple #[.bool (heB a b d xs ys), .int .i64 (fbC a b d xs ys)]) ∧ Below w.heap.size w w' := implHE a b d xs ys v u B C w ha hB hb hC nv nu hn hm
theorem specHEq (a : Int) (xs : List Int) (b : Int) (ys : List Int) (d : Int) (v u : Value) (B C : Nat) (w : World) (ha : Ints w B v xs) (hB : B ≤ w.heap.size) (hb : Ints w C u ys) (hC : C ≤ w.heap.size) (hn : xs.length ≤ 1099511627776) (hm : ys.length ≤ 1099511627776) (nv : SOk v) (nu : SOk u) :
    Calls Try.prog 47 #[.agg #[.int .i64 a, v], .agg #[.int .i64 b, u], .int .i64 d] w fun e w' => e = .returned (.tuple #[.bool (heB a b d xs ys), .int .i64 (fbC a b d xs ys)]) ∧ Below w.heap.size w w' := specHE a b d xs ys v u B C w ha hB hb hC nv nu hn hm
theorem implCBq (a : Int) (xs : List Int) (b : Int) (ys : List Int) (d : Int) (v u : Value) (B C : Nat) (w : World) (ha : Ints w B v xs) (hB : B ≤ w.heap.size) (hb : Ints w C u ys) (hC : C ≤ w.heap.size) (hn : xs.length ≤ 1099511627776) (hm : ys.length ≤ 1099511627776) (nv : SOk v) (nu : SOk u) :
    Calls Try.prog 52 #[.agg #[.int .i64 a, v], .agg #[.int .i64 b, u], .int .i64 d] w fun e w' => e = .returned (.tuple #[.int .i64 (cbI a b d xs ys), .int .i64 (fbC a b d xs ys)]) ∧ Below w.heap.size w w' := implCB a b d xs ys v u B C w ha hB hb hC nv nu hn hm
theorem specCBq (a : Int) (xs : List Int) (b : Int) (ys : List Int) (d : Int) (v u : Value) (B C : Nat) (w : World) (ha : Ints w B v xs) (hB : B ≤ w.heap.size) (hb : Ints w C u ys) (hC : C ≤ w.heap.size) (hn : xs.length ≤ 1099511627776) (hm : ys.length ≤ 1099511627776) (nv : SOk v) (nu : SOk u) :
    Calls Try.prog 51 #[.agg #[.int .i64 a, v], .agg #[.int .i64 b, u], .int .i64 d] w fun e w' => e = .returned (.tuple #[.int .i64 (cbI a b d xs ys), .int .i64 (fbC a b d xs ys)]) ∧ Below w.heap.size w w' := specCB a b d xs ys v u B C w ha hB hb hC nv nu hn hm
end Go.Proofs.Ytedajefapddekaa.hl
