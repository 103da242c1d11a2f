/-
  The program's table of stitches, read out of the list that a row lays; carried over what a call leaves below.
-/
import Derived.Test.YtbbnheiibkcgiabDoorRows
import Derived.Test.YtbbnheiibkcgiabDoorSt0
import Derived.WalkKit
import Derived.WalkSmall
import Derived.ProofKit
import Derived.Below
import Derived.MakeChecks
import Derived.Stop.LaidErr
import Derived.Lib.LaidTab
import Derived.OpenShut
import Derived.Lib.SmallJoins
import Derived.Deep.Fields
namespace Go.Proofs.YtbbnheiibkcgiabDoor.stb
open Go.RowKit Go.Proofs.YtbbnheiibkcgiabDoor.st
set_option linter.unusedVariables false

theorem gSt : Tryd.prog.globalNamed "loop.example/g00856/impl.stitches" = some 0 := by kernel_rfl

/-- The table's cells. -/
structure Tab (w : World) : Prop where
  lt : 0 < w.heap.size
  sy : ∀ j : Nat, j < 12 → w.cell? ⟨0, j * 4, none⟩ = some (.int .i32 (syT.getD j 0))
  tk : ∀ j : Nat, j < 12 → w.cell? ⟨0, j * 4 + 1, none⟩ = some (.int .i64 (tkT.getD j 0))
  md : ∀ j : Nat, j < 12 → w.cell? ⟨0, j * 4 + 2, none⟩ = some (.int .i64 (mdT.getD j 0))
  mi : ∀ j : Nat, j < 12 → w.cell? ⟨0, j * 4 + 3, none⟩ = some (.int .i64 (miT.getD j 0))

theorem carry {w w' : World} (h : Tab w) (b : Below w.heap.size w w') : Tab w' := by
  have e : ∀ o, w'.cell? ⟨0, o, none⟩ = w.cell? ⟨0, o, none⟩ := fun o => b.cell (p := ⟨0, o, none⟩) h.lt
  exact ⟨Nat.lt_of_lt_of_le h.lt b.size, fun j hj => (e _).trans (h.sy j hj), fun j hj => (e _).trans (h.tk j hj), fun j hj => (e _).trans (h.md j hj), fun j hj => (e _).trans (h.mi j hj)⟩

section
open Go.Joins Go.ChangeShapes Go.WideShapes Go.Deep Go.WideElems
variable {H : Type} {enc : TypeId × Value → H} {P : Program} {w : World} {base : Nat} {sp : Nat → Bool} {held : Bool}
theorem struct4 {t : TypeId} {f0 f1 f2 f3 : Field} {fuel : Nat} {cs : List Value} {y : DataW H × List MemPlace} {a b c d : Int} (hs : P.underlying t = some (.struct #[f0, f1, f2, f3]))
    (hone : oneCellFields P #[f0, f1, f2, f3] = true) (hC : P.cellsOf t = 4)
    (hi : P.underlying f0.type = some (.int .i32) ∧ P.underlying f1.type = some (.int .i64) ∧ P.underlying f2.type = some (.int .i64) ∧ P.underlying f3.type = some (.int .i64))
    (h : DataW.trod enc P w base sp held fuel t cs = some y) (hy : y.1 = .agg [.lit (.int .i32 a), .lit (.int .i64 b), .lit (.int .i64 c), .lit (.int .i64 d)]) :
    cs = [.int .i32 a, .int .i64 b, .int .i64 c, .int .i64 d] := by
  obtain ⟨xs, n, _, rfl, hl, hlen, hf⟩ := DataW.trod_struct hs h
  rw [hC] at hl
  obtain ⟨c0, c1, c2, c3, rfl⟩ : ∃ c0 c1 c2 c3, cs = [c0, c1, c2, c3] := by
    match cs, hl with
    | [c0, c1, c2, c3], _ => exact ⟨c0, c1, c2, c3, rfl⟩
  obtain ⟨y0, y1, y2, y3, rfl⟩ : ∃ y0 y1 y2 y3, xs = [y0, y1, y2, y3] := by
    match xs, hlen with
    | [y0, y1, y2, y3], _ => exact ⟨y0, y1, y2, y3, rfl⟩
  obtain ⟨i0, i1, i2, i3⟩ := hi
  obtain ⟨o0, k0⟩ := hone_of hone 0 f0 rfl
  obtain ⟨o1, k1⟩ := hone_of hone 1 f1 rfl
  obtain ⟨o2, k2⟩ := hone_of hone 2 f2 rfl
  obtain ⟨o3, k3⟩ := hone_of hone 3 f3 rfl
  have g0 := hf 0 f0 rfl
  have g1 := hf 1 f1 rfl
  have g2 := hf 2 f2 rfl
  have g3 := hf 3 f3 rfl
  simp [o0, k0] at g0
  simp [o1, k1] at g1
  simp [o2, k2] at g2
  simp [o3, k3] at g3
  obtain ⟨z0, e0, u0, _⟩ := DataW.trod_int i0 g0
  obtain ⟨z1, e1, u1, _⟩ := DataW.trod_int i1 g1
  obtain ⟨z2, e2, u2, _⟩ := DataW.trod_int i2 g2
  obtain ⟨z3, e3, u3, _⟩ := DataW.trod_int i3 g3
  simp at e0 e1 e2 e3
  subst e0 e1 e2 e3 u0 u1 u2 u3
  simp at hy
  obtain ⟨rfl, rfl, rfl, rfl⟩ := hy
  rfl
end

/-- The datum of one kind. -/
def dat {H : Type} (j : Nat) : DataW H := .agg [.lit (.int .i32 (syT.getD j 0)), .lit (.int .i64 (tkT.getD j 0)), .lit (.int .i64 (mdT.getD j 0)), .lit (.int .i64 (miT.getD j 0))]
theorem datum {H : Type} : (Rows.laid_loop_example_g00856_impl_stitches : DataW H) = .agg ((List.range 12).map dat) := rfl

theorem tab {w : World} {l : List (String × DataW Unit)}
    (hp : ((("loop.example/g00856/impl.stitches", Rows.laid_loop_example_g00856_impl_stitches) :: l).all fun x => x.2.handleName?.isNone) = true)
    (h : laidMetH Tryd.prog (("loop.example/g00856/impl.stitches", Rows.laid_loop_example_g00856_impl_stitches) :: l) w) : Tab w := by
  rw [MakeChecks.laidMetH_plain _ _ _ hp] at h
  obtain ⟨ps, ⟨g', t', cs, fuel, p, q, hg', ht', hvar, hd, _, _⟩, _⟩ := h
  obtain rfl := Option.some.inj (gSt.symm.trans hg')
  have hty : (Tryd.prog.globals[0]?).map (·.type) = some 105 := by kernel_rfl
  obtain rfl := Option.some.inj (hty.symm.trans ht')
  have hce : Tryd.prog.cellsOf 104 = 4 := by kernel_rfl
  obtain ⟨xs, m, _, hx, hl, hn, hat⟩ := DataW.trod_array Tryd.underlying105 hd
  rw [hce] at hat
  rw [datum] at hx
  simp only [Prod.mk.injEq, DataW.agg.injEq] at hx
  have hcs : ∀ j, j < 12 → (cs.toList.drop (j * 4)).take 4 = [.int .i32 (syT.getD j 0), .int .i64 (tkT.getD j 0), .int .i64 (mdT.getD j 0), .int .i64 (miT.getD j 0)] := by
    intro j hj
    have h1 := hat j hj
    have h2 : (xs.map (·.1))[j]? = some (dat j) := by rw [← hx.1]; simp [hj]
    obtain ⟨y, hy⟩ : ∃ y, xs[j]? = some y := ⟨xs[j], List.getElem?_eq_getElem (by omega)⟩
    rw [hy] at h1
    rw [List.getElem?_map, hy] at h2
    exact struct4 Tryd.underlying104 (by kernel_rfl) (by kernel_rfl) ⟨by kernel_rfl, by kernel_rfl, by kernel_rfl, by kernel_rfl⟩ h1 (by simpa [dat] using h2)
  have hc : ∀ j, j < 12 → ∀ q, q < 4 → w.cell? ⟨0, j * 4 + q, none⟩ = [Value.int .i32 (syT.getD j 0), .int .i64 (tkT.getD j 0), .int .i64 (mdT.getD j 0), .int .i64 (miT.getD j 0)][q]? := by
    intro j hj q hq
    have h1 := World.var?_cell gSt hvar (j * 4 + q)
    rw [h1, ← hcs j hj]
    simp [List.getElem?_drop, hq]
  refine ⟨?_, fun j hj => hc j hj 0 (by omega), fun j hj => hc j hj 1 (by omega), fun j hj => hc j hj 2 (by omega), fun j hj => hc j hj 3 (by omega)⟩
  have := hc 0 (by omega) 0 (by omega)
  exact World.block_lt_of_cell? w _ this
end Go.Proofs.YtbbnheiibkcgiabDoor.stb
