/-
  IsHandle of both sides in the form that the law's walk takes.
-/
import Derived.Test.YtjnanldaihidlaaIhi
import Derived.Test.YtjnanldaihidlaaL5
namespace Go.Proofs.Ytjnanldaihidlaa.ih5
open Go.RowKit Go.Proofs.Ytjnanldaihidlaa.sl Go.Proofs.Ytjnanldaihidlaa.br
theorem specI (s : Int) (xs : List Int) (a c : Int) (v : Value) (B : Nat) (w : World) (ha : l5.IntsC w B v xs) (hB : B ≤ w.heap.size) (hq : l5.Small xs) :
    Calls Try.prog 36 #[.agg #[.int .i64 s, v], .agg #[.int .i64 a, .int .i64 c]] w fun e w' => e = .returned (.bool (ih.ihB s xs a c)) ∧ Below w.heap.size w w' :=
  ih.specIsHandle s xs a c v B w ha.ints hB (by have := hq.len; omega)
theorem implI (s : Int) (xs : List Int) (a c : Int) (v : Value) (B : Nat) (w : World) (ha : l5.IntsC w B v xs) (hB : B ≤ w.heap.size) (hq : l5.Small xs) :
    Calls Try.prog 39 #[.agg #[.int .i64 s, v], .agg #[.int .i64 a, .int .i64 c]] w fun e w' => e = .returned (.bool (ih.ihB s xs a c)) ∧ Below w.heap.size w w' :=
  ih.implIsHandle s xs a c v B w ha.ints hB (by have := hq.len; omega) ha.cap
end Go.Proofs.Ytjnanldaihidlaa.ih5
