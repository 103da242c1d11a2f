/-
  ValidMachine of the model, by value; PlaceOf, FacingOf of both sides.
-/
import Derived.Test.YtochafekbncbaaaVm8
import Derived.Test.YtochafekbncbaaaNeedle
namespace Go.Proofs.Ytochafekbncbaaa.mc
open Go.RowKit Go.Sort Go.Proofs.Ytochafekbncbaaa.sl Go.Proofs.Ytochafekbncbaaa.br Go.Proofs.Ytochafekbncbaaa.fn Go.Proofs.Ytochafekbncbaaa.ss
set_option linter.unusedVariables false
set_option linter.unusedSimpArgs false

/-- The model's test at a box of the machine. -/
theorem specOkC (a p : Int) (m : Mch) (f0 f1 f2 f3 f4 : Value) (B pb : Nat) (w0 w : World) (ha : MInC w B f0 f1 f2 f3 f4 m) (hq : Small m) (HX : Bx w0 w pb a p f0 f1 f2 f3 f4) :
    Calls Try.prog 77 #[.pointer (some ⟨pb, 0, none⟩)] w fun e w' => e = .returned (.bool (okM a p m)) ∧ Below w.heap.size w w' := by
  obtain ⟨lo, hi, hb, ho⟩ := ha
  exact specOkM a p m f0 f1 f2 f3 f4 lo hi pb w ho hq ⟨HX.lt, Below.refl _ _, HX.c0, HX.c1, HX.c2, HX.c3, HX.c4, HX.c5, HX.c6⟩

set_option maxRecDepth 100000 in
theorem specVM (a p : Int) (m : Mch) (f0 f1 f2 f3 f4 : Value) (B : Nat) (w : World) (ha : MInC w B f0 f1 f2 f3 f4 m) (hB : B ≤ w.heap.size) (hq : Small m) :
    Calls Try.prog 25 #[.agg #[.int .i64 a, .int .i64 p, f0, f1, f2, f3, f4]] w fun e w' => e = .returned (.bool (okM a p m)) ∧ Below w.heap.size w w' := by
  have HX := bx_new w 46 a p f0 f1 f2 f3 f4
  have hal := HX.b0
  have HC := hid (specOkC a p m f0 f1 f2 f3 f4 B w.heap.size w _ (ha.below hal) hq HX)
  have HB := hid hal
  obtain ⟨⟨a0, k0, rfl⟩, ⟨a1, k1, rfl⟩, ⟨a2, k2, rfl⟩, ⟨a3, k3, rfl⟩, ⟨a4, k4, rfl⟩⟩ := ha.vals
  clear ha hq HX hal
  generalize okM a p m = q at *
  generalize m.fr.length = n0 at *
  generalize m.bk.length = n1 at *
  generalize m.cs.length = n2 at *
  generalize m.ls.length = n3 at *
  generalize m.dr.length = n4 at *
  go_enter Try.func25, Try.ntmps25
  go_wp2_with fail
  refine HC.out.mono ?_
  rintro e w1 ⟨rfl, b1⟩
  have HB1 := hid (HB.out.trans (b1.mono HB.out.size))
  clear b1
  go_wp2
  go_ret
  exact ⟨rfl, HB1.out⟩
end Go.Proofs.Ytochafekbncbaaa.mc
