/-
  markMoveS, heldMoveS.
-/
import Derived.Test.YtedajefapddekaaMv3
namespace Go.Proofs.Ytedajefapddekaa.mv
open Go.RowKit Go.Sort Go.Proofs.Ytedajefapddekaa.sl
set_option linter.unusedVariables false
set_option linter.unusedSimpArgs false

/-- The cells of a block are there and may be written. -/
def Wr (w : World) (g m : Nat) : Prop := g < w.heap.size ∧ ∀ o, o < m → w.frozen? ⟨g, o, none⟩ = false ∧ ∃ u, w.cell? ⟨g, o, none⟩ = some u
theorem Wr.set {w : World} {g m : Nat} (h : Wr w g m) (i : Nat) (v : Value) (hi : i < m) : Wr (w.setCell ⟨g, i, none⟩ v) g m := by
  refine ⟨by simpa using h.1, fun o ho => ⟨by rw [World.frozen?_setCell]; exact (h.2 o ho).1, ?_⟩⟩
  obtain ⟨u, hu⟩ := (h.2 o ho).2
  by_cases e : o = i
  · subst e; exact ⟨v, ss.same_at hu⟩
  · exact ⟨u, by rw [ss.other_at e]; exact hu⟩
theorem Wr.below {w w' : World} {g m : Nat} (h : Wr w g m) (b : Below w.heap.size w w') : Wr w' g m :=
  ⟨Nat.lt_of_lt_of_le h.1 b.size, fun o ho => ⟨(b.frozen (p := ⟨g, o, none⟩) h.1).trans (h.2 o ho).1, by obtain ⟨u, hu⟩ := (h.2 o ho).2; exact ⟨u, (b.cell (p := ⟨g, o, none⟩) h.1).trans hu⟩⟩⟩
theorem chg_set {lo hi g i : Nat} {w w' : World} (h : Chg lo hi w w') (v : Value) (h1 : lo ≤ g) (h2 : g < hi) : Chg lo hi w (w'.setCell ⟨g, i, none⟩ v) := by
  have hb := (Below.refl g w').setCell (p := ⟨g, i, none⟩) (Nat.le_refl _) v
  refine ⟨hb.os.trans h.os, hb.tape.trans h.tape, hb.output.trans h.output, Nat.le_trans h.size hb.size, fun k hk hk' => ?_⟩
  rw [← h.block k hk hk']
  exact Below.heap_setCell w' ⟨g, i, none⟩ v k (by show k ≠ g; omega)

/-- What is written into the element j. -/
def mkO (k0 : Int) (j : Nat) : V := ⟨k0 + 2 * (j : Int), k0 + 2 * (j : Int) + 1⟩
def marksO (k0 : Int) (n : Nat) : List V := (List.range n).map (mkO k0)
theorem marksO_len (k0 : Int) (n : Nat) : (marksO k0 n).length = n := by simp [marksO]
theorem marksO_at (k0 : Int) (n j : Nat) (h : j < n) : (marksO k0 n).getD j oz = mkO k0 j := by simp [marksO, List.getD, h]
theorem mark_step {w : World} {g n k : Nat} {k0 : Int} (hw : Wr w g (n * 2)) (ha : ∀ j, j < k → At w g (0 + j * 2) (mkO k0 j)) (hk : k < n) (y0 y1 : Int)
    (hy : y0 = k0 + 2 * (k : Int) ∧ y1 = k0 + 2 * (k : Int) + 1) :
    ∀ j, j < k + 1 → At (((w.setCell ⟨g, k * 2, none⟩ (.int .i64 y0)).setCell ⟨g, k * 2 + 1, none⟩ (.int .i64 y1))) g (0 + j * 2) (mkO k0 j) := by
  obtain ⟨rfl, rfl⟩ := hy
  intro j hj
  show At (setN w g (k * 2) (mkO k0 k)) g (0 + j * 2) (mkO k0 j)
  by_cases e : j = k
  · subst e
    rw [Nat.zero_add]
    exact setN_at hw.1 (fun i hi => (hw.2 _ (by omega)).2)
  · exact (ha j (by omega)).setN (by omega)
theorem OOwn.wr {w : World} {lo hi g cap : Nat} {n : Nat} {xs : List V} (o : OOwn w lo hi (.slice (some ⟨g, 0, none⟩) n cap) xs) (hp : 0 < xs.length) : lo ≤ g ∧ g < hi ∧ Wr w g (xs.length * 2) ∧ ∀ j, j < xs.length → At w g (0 + j * 2) (xs.getD j oz) := by
  obtain ⟨hh, hr⟩ := o
  rcases hr with ⟨rfl, _⟩ | ⟨_, g', cap', hv, h1, h2, h3, h4⟩
  · simp at hp
  · simp only [Value.slice.injEq, Option.some.injEq, Addr.mk.injEq] at hv
    obtain ⟨⟨rfl, _⟩, _⟩ := hv
    refine ⟨h1, h2, ⟨by omega, fun o ho => ⟨h3 o ho, ?_⟩⟩, h4⟩
    have A := h4 (o / 2) (by omega)
    have := A.cellOf (o % 2) (Nat.mod_lt _ (by omega))
    exact ⟨_, by rw [← this]; congr 2; omega⟩
theorem OOwn.ofWr {w : World} {lo g cap : Nat} {xs : List V} (hp : 0 < xs.length) (h1 : lo ≤ g) (hw : Wr w g (xs.length * 2)) (ha : ∀ j, j < xs.length → At w g (0 + j * 2) (xs.getD j oz)) : OOwn w lo w.heap.size (.slice (some ⟨g, 0, none⟩) xs.length cap) xs :=
  ⟨Nat.le_refl _, .inr ⟨hp, g, cap, rfl, h1, hw.1, fun o ho => (hw.2 o ho).1, ha⟩⟩
theorem oown_slice {w : World} {lo hi : Nat} {v : Value} {xs : List V} (o : OOwn w lo hi v xs) (hp : 0 < xs.length) : ∃ g cap, v = .slice (some ⟨g, 0, none⟩) xs.length cap := by
  rcases o.2 with ⟨rfl, _⟩ | ⟨_, g, cap, hv, _⟩
  · simp at hp
  · exact ⟨g, cap, hv⟩


end Go.Proofs.Ytedajefapddekaa.mv
