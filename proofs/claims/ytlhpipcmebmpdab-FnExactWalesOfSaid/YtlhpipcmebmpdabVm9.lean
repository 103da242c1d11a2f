/-
  ValidMachine of the model, by value; PlaceOf, FacingOf of both sides.
-/
import Derived.Test.YtlhpipcmebmpdabVm8
import Derived.Test.YtlhpipcmebmpdabNeedle
namespace Go.Proofs.Ytlhpipcmebmpdab.mc
open Go.RowKit Go.Sort Go.Proofs.Ytlhpipcmebmpdab.sl Go.Proofs.Ytlhpipcmebmpdab.br Go.Proofs.Ytlhpipcmebmpdab.fn Go.Proofs.Ytlhpipcmebmpdab.ss
set_option linter.unusedVariables false
set_option linter.unusedSimpArgs false

/-- The model's test at a box of the machine. -/
theorem specOkC (a p : Int) (m : Mch) (f0 f1 f2 f3 f4 : Value) (B pb : Nat) (w0 w : World) (ha : MInC w B f0 f1 f2 f3 f4 m) (hq : Small m) (HX : Bx w0 w pb a p f0 f1 f2 f3 f4) :
    Calls Try.prog 42 #[.pointer (some ⟨pb, 0, none⟩)] w fun e w' => e = .returned (.bool (okM a p m)) ∧ Below w.heap.size w w' := by
  obtain ⟨lo, hi, hb, ho⟩ := ha
  exact specOkM a p m f0 f1 f2 f3 f4 lo hi pb w ho hq ⟨HX.lt, Below.refl _ _, HX.c0, HX.c1, HX.c2, HX.c3, HX.c4, HX.c5, HX.c6⟩

end Go.Proofs.Ytlhpipcmebmpdab.mc
