/-
  Charts as arguments of laws: opened to their rows; rows as arguments.
-/
import Derived.Test.YtedajefapddekaaCt1
import Derived.Test.YtedajefapddekaaL5
import Derived.Test.YtedajefapddekaaSa
import Derived.Lib.SmallJoins
namespace Go.Proofs.Ytedajefapddekaa.ct
open Go.RowKit
set_option linter.unusedVariables false
set_option linter.unusedSimpArgs false

/-- An argument's rows. -/
structure CIn (w : World) (v : Value) (xs : List ro.V) : Prop where
  rd : ro.Infs w w.heap.size v xs
  len : xs.length ≤ 9223372036854775807
  short : ∀ j, j < xs.length → (xs.getD j ro.iz).ps.length ≤ 9223372036854775807

section
open Go.Joins Go.ChangeShapes Go.WideShapes Go.Deep Go.WideElems
variable {H : Type} {enc : TypeId × Value → H} {P : Program} {w : World} {base : Nat} {held : Bool}
theorem rows_open {s t u : TypeId} {f0 f1 f2 : Field} {fuel : Nat} {v : Value} {x : DataW H × List MemPlace} (hsl : P.underlying s = some (.slice t)) (hs : P.underlying t = some (.struct #[f0, f1, f2]))
    (hone : oneCellFields P #[f0, f1, f2] = true) (hC : P.cellsOf t = 3)
    (hi : P.underlying f0.type = some (.int .i64) ∧ P.underlying f1.type = some (.int .i64))
    (h5 : P.underlying f2.type = some (.slice u)) (hu : P.underlying u = some (.int .i64)) (hcu : P.cellsOf u = 1)
    (h : DataW.trod enc P w base (fun _ => true) held fuel s [v] = some x) : ∃ xs : List ro.V, CIn w v xs := by
  rcases open_slice hsl h with ⟨hcs, _⟩ | ⟨a, len, cap, m, n, D, Pl, hcs, hb, hl, hm, hmm, _, hr⟩
  · simp only [List.cons.injEq, and_true] at hcs
    subst hcs
    exact ⟨[], .inl ⟨rfl, _, _, rfl⟩, by simp, fun j hj => by simp at hj⟩
  · simp only [List.cons.injEq, and_true] at hcs
    subst hcs
    simp only [if_true] at hmm
    subst hmm
    unfold maxLen at hm
    have hy : ∀ i, ∃ y : ro.V × Value, i < m → w.cells? base (a.add (i * P.cellsOf t)) (P.cellsOf t) = some [.int .i64 y.1.a0, .int .i64 y.1.a1, y.2] ∧ l5.IntsIn w y.2 y.1.ps := by
      intro i
      by_cases him : i < m
      · obtain ⟨cs', h1, h2⟩ := hr i him
        obtain ⟨y0, y1, y2, n', hx, hl', g0, g1, g2⟩ := trod_struct3 hs h2
        rw [hC] at hl'
        obtain ⟨c0, c1, c2, rfl⟩ : ∃ c0 c1 c2, cs' = [c0, c1, c2] := by
          match cs', hl' with
          | [c0, c1, c2], _ => exact ⟨c0, c1, c2, rfl⟩
        obtain ⟨i0, i1⟩ := hi
        obtain ⟨o0, k0⟩ := hone_of hone 0 f0 rfl
        simp [o0, k0] at g0
        obtain ⟨o1, k1⟩ := hone_of hone 1 f1 rfl
        simp [o1, k1] at g1
        obtain ⟨o2, k2⟩ := hone_of hone 2 f2 rfl
        simp [o2, k2] at g2
        obtain ⟨z0, e0, _, _⟩ := DataW.trod_int i0 g0
        obtain ⟨z1, e1, _, _⟩ := DataW.trod_int i1 g1
        simp at e0 e1
        subst e0 e1
        obtain ⟨ps, hps⟩ := l5.ints_open h5 hu hcu g2
        exact ⟨(⟨z0, z1, ps⟩, c2), fun _ => ⟨h1, hps⟩⟩
      · exact ⟨(ro.iz, .slice none 0 0), fun h => absurd h him⟩
    obtain ⟨Y, hY⟩ := Classical.axiomOfChoice hy
    have hlen : ((List.range len).map fun i => (Y i).1).length = len := by simp
    have hat : ∀ j, j < len → ((List.range len).map fun i => (Y i).1).getD j ro.iz = (Y j).1 := fun j hj => by simp [List.getD, hj]
    refine ⟨(List.range len).map fun i => (Y i).1, ?_, by rw [hlen]; omega, fun j hj => by rw [hlen] at hj; rw [hat j hj]; exact (hY j (by omega)).2.len⟩
    by_cases h0 : len = 0
    · subst h0; exact .inl ⟨rfl, _, _, rfl⟩
    · obtain ⟨b, off, spot⟩ := a
      have hall : ∀ j, j < len → ∀ i u, [Value.int .i64 (Y j).1.a0, .int .i64 (Y j).1.a1, (Y j).2][i]? = some u → w.cell? ((Addr.mk b off spot).add (j * 3 + i)) = some u := by
        intro j hj i u hu
        have h1 := (hY j (by omega)).1
        rw [hC] at h1
        have hi8 : i < 3 := by
          have := (List.getElem?_eq_some_iff.1 hu).1
          simpa using this
        have h2 := (World.cells?_some h1)
        have h3 := h2.2.2 i hi8
        rw [hu] at h3
        rw [← Addr.add_add]; exact h3
      have hspot : spot = none := by
        have := World.cell?_spot (hall 0 (by omega) 0 _ rfl)
        simpa [Addr.add] using this
      subst hspot
      refine .inr ⟨by rw [hlen]; omega, b, off, m, fun i => (Y i).2, by rw [hlen], ?_, fun j hj => ?_⟩
      · have := World.block_lt_of_cell? w _ (hall 0 (by omega) 0 _ rfl)
        simpa [Addr.add] using this
      · rw [hlen] at hj
        rw [hat j hj]
        have hlt := World.block_lt_of_cell? w _ (hall j hj 0 _ rfl)
        have hc := hall j hj
        simp only [Addr.add_lit, ← Nat.add_assoc] at hc
        exact ⟨⟨by rw [Addr.add_lit] at hlt; exact hlt, hc 0 _ rfl, hc 1 _ rfl, hc 2 _ rfl⟩, (hY j (by omega)).2.rd⟩
end

end Go.Proofs.Ytedajefapddekaa.ct
