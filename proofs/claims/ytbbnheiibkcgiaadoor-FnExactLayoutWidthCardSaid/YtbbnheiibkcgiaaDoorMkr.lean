/-
  markChart: writes into a chart of the call's own.
-/
import Derived.Test.YtbbnheiibkcgiaaDoorCt1
namespace Go.Proofs.YtbbnheiibkcgiaaDoor.ct
open Go.RowKit Go.Sort Go.Proofs.YtbbnheiibkcgiaaDoor.sl Go.Proofs.YtbbnheiibkcgiaaDoor.br
set_option linter.unusedVariables false
set_option linter.unusedSimpArgs false

/-- The cells of a block are there and may be written. -/
def WrM (w : World) (g m : Nat) : Prop := g < w.heap.size ∧ ∀ o, o < m → w.frozen? ⟨g, o, none⟩ = false ∧ ∃ u, w.cell? ⟨g, o, none⟩ = some u
theorem WrM.set {w : World} {g m : Nat} (h : WrM w g m) (i : Nat) (v : Value) (hi : i < m) : WrM (w.setCell ⟨g, i, none⟩ v) g m := by
  refine ⟨by simpa using h.1, fun o ho => ⟨by rw [World.frozen?_setCell]; exact (h.2 o ho).1, ?_⟩⟩
  obtain ⟨u, hu⟩ := (h.2 o ho).2
  by_cases e : o = i
  · subst e; exact ⟨v, ss.same_at hu⟩
  · exact ⟨u, by rw [ss.other_at e]; exact hu⟩
theorem WrM.blk {w w' : World} {g m : Nat} (h : WrM w g m) (hs : w.heap.size ≤ w'.heap.size) (hb : w'.heap[g]? = w.heap[g]?) : WrM w' g m := by
  refine ⟨Nat.lt_of_lt_of_le h.1 hs, fun o ho => ⟨?_, ?_⟩⟩
  · rw [World.frozen?_of_block (w := w) (w' := w') (a := ⟨g, o, none⟩) hb]; exact (h.2 o ho).1
  · rw [World.cell?_of_block (w := w) (w' := w') (a := ⟨g, o, none⟩) hb]; exact (h.2 o ho).2
theorem chg_setM {lo hi g i : Nat} {w w' : World} (h : Chg lo hi w w') (v : Value) (h1 : lo ≤ g) (h2 : g < hi) : Chg lo hi w (w'.setCell ⟨g, i, none⟩ v) := by
  have hb := (Below.refl g w').setCell (p := ⟨g, i, none⟩) (Nat.le_refl _) v
  refine ⟨hb.os.trans h.os, hb.tape.trans h.tape, hb.output.trans h.output, Nat.le_trans h.size hb.size, fun k hk hk' => ?_⟩
  rw [← h.block k hk hk']
  exact Below.heap_setCell w' ⟨g, i, none⟩ v k (by show k ≠ g; omega)


end Go.Proofs.YtbbnheiibkcgiaaDoor.ct
