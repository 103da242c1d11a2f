/-
  append of one int64 to a slice of the call's own, as one law of the walk; small laws on owned slices.
-/
import Derived.Test.YtbonccflocogbaaSl
namespace Go.Proofs.Ytbonccflocogbaa.sl
open Go.RowKit

theorem Own.nil (w : World) (lo : Nat) : Own w lo w.heap.size (.slice none 0 0) [] := Own.mk' (World.ownsRow_nil _ _ _ _)

/-- An empty slice that has just been built. -/
theorem Own.built (w : World) (cs : Array Value) (h : cs = #[]) : Own (w.alloc (.cells cs 2)) w.heap.size (w.alloc (.cells cs 2)).heap.size (.slice (some ⟨w.heap.size, 0, none⟩) 0 0) [] := by
  subst h
  exact Own.mk' (World.ownsRow_made w #[] 0 (Nat.le_refl _) (by unfold maxLen; omega) (by simp))

theorem Own.hi {w : World} {lo hi hi' : Nat} {v : Value} {xs : List Int} (o : Own w lo hi v xs) (h : hi ≤ hi') (h2 : hi' ≤ w.heap.size) : Own w lo hi' v xs :=
  ⟨o.1, fun g hg => Nat.lt_of_lt_of_le (o.2.1 g hg) h, h2⟩

/-- A cell of an owned slice. -/
theorem Own.at' {w : World} {lo hi : Nat} {g n cap : Nat} {xs : List Int} (o : Own w lo hi (.slice (some ⟨g, 0, none⟩) n cap) xs) (j : Nat) (hj : j < xs.length) : w.cell? ⟨g, j, none⟩ = some (.int .i64 (xs.getD j 0)) ∧ w.frozen? ⟨g, j, none⟩ = false := by
  have h := o.1
  have hn : n = xs.length := by
    rcases h.2 with ⟨h0, _⟩ | ⟨g', cap', cur, h0, _⟩
    · cases h0
    · simp only [Value.slice.injEq] at h0; exact h0.2.1
  subst hn
  refine ⟨?_, h.frozenAt j⟩
  rw [h.cellAt j (by omega)]
  simp [List.getD, List.getElem?_eq_getElem hj]

/-- A store into an owned slice. -/
theorem Own.set {w : World} {lo hi : Nat} {g n cap : Nat} {xs : List Int} (o : Own w lo hi (.slice (some ⟨g, 0, none⟩) n cap) xs) (j : Nat) (x : Int) :
    Own (w.setCell ⟨g, j, none⟩ (.int .i64 x)) lo hi (.slice (some ⟨g, 0, none⟩) n cap) (xs.set j x) ∧ Chg lo hi w (w.setCell ⟨g, j, none⟩ (.int .i64 x)) := by
  have h := o.1
  have hn : n = xs.length := by
    rcases h.2 with ⟨h0, _⟩ | ⟨g', cap', cur, h0, _⟩
    · cases h0
    · simp only [Value.slice.injEq] at h0; exact h0.2.1
  subst hn
  have hlt := o.2.1 g rfl
  have hlo := (h.lt g rfl).1
  have st := h.stored j (.int .i64 x)
  refine ⟨⟨?_, o.2.1, Nat.le_trans o.2.2 st.2.size⟩, ⟨st.2.os, st.2.tape, st.2.output, st.2.size, fun k hk hk' => st.2.block k hk (by intro e; cases e; exact hk' ⟨hlo, hlt⟩)⟩⟩
  have := st.1
  rw [← List.map_set] at this
  simpa using this

theorem Chg.refl (lo hi : Nat) (w : World) : Chg lo hi w w := ⟨rfl, rfl, rfl, Nat.le_refl _, fun _ _ _ => rfl⟩
theorem Chg.trans {lo hi : Nat} {a b c : World} (h : Chg lo hi a b) (k : Chg lo hi b c) : Chg lo hi a c :=
  ⟨k.os.trans h.os, k.tape.trans h.tape, k.output.trans h.output, Nat.le_trans h.size k.size, fun j hj hj' => (k.block j (Nat.lt_of_lt_of_le hj h.size) hj').trans (h.block j hj hj')⟩
theorem Chg.wide {lo hi lo' hi' : Nat} {a b : World} (h : Chg lo hi a b) (h1 : lo' ≤ lo) (h2 : hi ≤ hi') : Chg lo' hi' a b := ⟨h.os, h.tape, h.output, h.size, fun j hj hj' => h.block j hj (by omega)⟩
theorem Chg.drewN {lo hi : Nat} {a b : World} (h : Chg lo hi a b) (n : Nat) : Chg lo hi a (b.drewN n) := ⟨h.os, h.tape, h.output, h.size, h.block⟩
theorem Own.drewN {w : World} {lo hi : Nat} {v : Value} {xs : List Int} (o : Own w lo hi v xs) (n : Nat) : Own (w.drewN n) lo hi v xs := o

end Go.Proofs.Ytbonccflocogbaa.sl
