/-
  Contracts of WidenBraid, of the program and of its model.
-/
import Derived.Test.YtbeaopblopmpeaaWia
import Derived.Test.YtbeaopblopmpeaaWif
import Derived.Test.YtbeaopblopmpeaaWja
import Derived.Test.YtbeaopblopmpeaaWjf
namespace Go.Proofs.Ytbeaopblopmpeaa.br
open Go.RowKit Go.Proofs.Ytbeaopblopmpeaa.sl Go.Proofs.Ytbeaopblopmpeaa.pm Go.Proofs.Ytbeaopblopmpeaa.bw Go.Proofs.Ytbeaopblopmpeaa.fn

theorem implWiden (s : Int) (xs : List Int) (l r : Int) (v : Value) (B : Nat) (w : World) (ha : Ints w B v xs) (hB : B ≤ w.heap.size) (hn : xs.length ≤ 1099511627776) :
    Calls Try.prog 36 #[.agg #[.int .i64 s, v], .int .i64 l, .int .i64 r] w fun e w' => ∃ ao cap, e = .returned (.tuple #[.agg #[.int .i64 (widS s xs l r), .slice ao (widW s xs l r).length cap], .int .i64 (widC s xs l r)]) ∧ Own w' w.heap.size w'.heap.size (.slice ao (widW s xs l r).length cap) (widW s xs l r) ∧ Below w.heap.size w w' := by
  cases h : okB s xs
  · exact implWidenA s xs l r v B w ha hB hn h
  · cases hr : rngB l r
    · exact implWidenR s xs l r v B w ha hB hn h hr
    · exact implWidenF s xs l r v B w ha hB hn h hr

theorem specWiden (s : Int) (xs : List Int) (l r : Int) (v : Value) (B : Nat) (w : World) (ha : Ints w B v xs) (hB : B ≤ w.heap.size) (hn : xs.length ≤ 1099511627776) :
    Calls Try.prog 35 #[.agg #[.int .i64 s, v], .int .i64 l, .int .i64 r] w fun e w' => ∃ ao cap, e = .returned (.tuple #[.agg #[.int .i64 (widS s xs l r), .slice ao (widW s xs l r).length cap], .int .i64 (widC s xs l r)]) ∧ Own w' w.heap.size w'.heap.size (.slice ao (widW s xs l r).length cap) (widW s xs l r) ∧ Below w.heap.size w w' := by
  cases h : okB s xs
  · exact specWidenA s xs l r v B w ha hB hn h
  · cases hr : rngB l r
    · exact specWidenR s xs l r v B w ha hB hn h hr
    · exact specWidenF s xs l r v B w ha hB hn h hr
end Go.Proofs.Ytbeaopblopmpeaa.br
