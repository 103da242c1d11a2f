/-
  append of one int64 to a slice of the call's own, as one law of the walk; small laws on owned slices.
-/
import Derived.Test.YtedajefapddekaaSl
namespace Go.Proofs.Ytedajefapddekaa.sl
open Go.RowKit

theorem Own.nil (w : World) (lo : Nat) : Own w lo w.heap.size (.slice none 0 0) [] := Own.mk' (World.ownsRow_nil _ _ _ _)

/-- An empty slice that has just been built. -/
theorem Own.built (w : World) (cs : Array Value) (h : cs = #[]) : Own (w.alloc (.cells cs 2)) w.heap.size (w.alloc (.cells cs 2)).heap.size (.slice (some ⟨w.heap.size, 0, none⟩) 0 0) [] := by
  subst h
  exact Own.mk' (World.ownsRow_made w #[] 0 (Nat.le_refl _) (by unfold maxLen; omega) (by simp))

theorem Own.hi {w : World} {lo hi hi' : Nat} {v : Value} {xs : List Int} (o : Own w lo hi v xs) (h : hi ≤ hi') (h2 : hi' ≤ w.heap.size) : Own w lo hi' v xs :=
  ⟨o.1, fun g hg => Nat.lt_of_lt_of_le (o.2.1 g hg) h, h2⟩

/-- A cell of an owned slice. -/
theorem Own.at' {w : World} {lo hi : Nat} {g n cap : Nat} {xs : List Int} (o : Own w lo hi (.slice (some ⟨g, 0, none⟩) n cap) xs) (j : Nat) (hj : j < xs.length) : w.cell? ⟨g, j, none⟩ = some (.int .i64 (xs.getD j 0)) ∧ w.frozen? ⟨g, j, none⟩ = false := by
  have h := o.1
  have hn : n = xs.length := by
    rcases h.2 with ⟨h0, _⟩ | ⟨g', cap', cur, h0, _⟩
    · cases h0
    · simp only [Value.slice.injEq] at h0; exact h0.2.1
  subst hn
  refine ⟨?_, h.frozenAt j⟩
  rw [h.cellAt j (by omega)]
  simp [List.getD, List.getElem?_eq_getElem hj]

/-- A store into an owned slice. -/
theorem Own.set {w : World} {lo hi : Nat} {g n cap : Nat} {xs : List Int} (o : Own w lo hi (.slice (some ⟨g, 0, none⟩) n cap) xs) (j : Nat) (x : Int) :
    Own (w.setCell ⟨g, j, none⟩ (.int .i64 x)) lo hi (.slice (some ⟨g, 0, none⟩) n cap) (xs.set j x) ∧ Chg lo hi w (w.setCell ⟨g, j, none⟩ (.int .i64 x)) := by
  have h := o.1
  have hn : n = xs.length := by
    rcases h.2 with ⟨h0, _⟩ | ⟨g', cap', cur, h0, _⟩
    · cases h0
    · simp only [Value.slice.injEq] at h0; exact h0.2.1
  subst hn
  have hlt := o.2.1 g rfl
  have hlo := (h.lt g rfl).1
  have st := h.stored j (.int .i64 x)
  refine ⟨⟨?_, o.2.1, Nat.le_trans o.2.2 st.2.size⟩, ⟨st.2.os, st.2.tape, st.2.output, st.2.size, fun k hk hk' => st.2.block k hk (by intro e; cases e; exact hk' ⟨hlo, hlt⟩)⟩⟩
  have := st.1
  rw [← List.map_set] at this
  simpa using this

theorem Chg.refl (lo hi : Nat) (w : World) : Chg lo hi w w := ⟨rfl, rfl, rfl, Nat.le_refl _, fun _ _ _ => rfl⟩
theorem Chg.trans {lo hi : Nat} {a b c : World} (h : Chg lo hi a b) (k : Chg lo hi b c) : Chg lo hi a c :=
  ⟨k.os.trans h.os, k.tape.trans h.tape, k.output.trans h.output, Nat.le_trans h.size k.size, fun j hj hj' => (k.block j (Nat.lt_of_lt_of_le hj h.size) hj').trans (h.block j hj hj')⟩
theorem Chg.wide {lo hi lo' hi' : Nat} {a b : World} (h : Chg lo hi a b) (h1 : lo' ≤ lo) (h2 : hi ≤ hi') : Chg lo' hi' a b := ⟨h.os, h.tape, h.output, h.size, fun j hj hj' => h.block j hj (by omega)⟩
theorem Chg.drewN {lo hi : Nat} {a b : World} (h : Chg lo hi a b) (n : Nat) : Chg lo hi a (b.drewN n) := ⟨h.os, h.tape, h.output, h.size, h.block⟩
theorem Own.drewN {w : World} {lo hi : Nat} {v : Value} {xs : List Int} (o : Own w lo hi v xs) (n : Nat) : Own (w.drewN n) lo hi v xs := o

/-- append(out, x), out the call's own: it may grow. -/
theorem wp_append {ops : Array Oper} {rest : List Oper} {o : Oper} {a : Act} {Q : Exit → Act → World → Prop} {w : World} (hgd : o.guard = none) (s x : Operand)
    (hop : o.op = .call { callee := .builtin .append, args := #[s, x], argTypes := #[30, 30] })
    (lo hi : Nat) (v : Value) (xs : List Int) (x0 : Int) (ho : Own w lo hi v xs) (hs : a.eval s = v) (hx : a.eval x = .slice (some ⟨w.heap.size, 0, none⟩) 1 1) (hlo : lo ≤ w.heap.size) (hn : xs.length ≤ 1099511627776)
    (hK : ∀ v' w', Own w' lo w'.heap.size v' (xs ++ [x0]) → Chg lo hi w w' → w.heap.size < w'.heap.size → wpList Try.prog ops Q rest (a.put o.dst v') w') : wpList Try.prog ops Q (o :: rest) a (w.alloc (.cells #[.int .i64 x0] 2)) := by
  obtain ⟨i0, hi', hz0, hz1, hz2⟩ := info_parts info64
  refine wpList_append_own _ hgd s x 30 hop lo 2 i0 (.int .i64 0) 1 8 Try.underlying30 hi' hz0 hz1 hz2 rfl (by decide) v xs.length (xs.map (Value.int .i64)) hs (ho.1.alloc _) ⟨w.heap.size, 0, none⟩ 1 1 [.int .i64 x0] hx rfl ?_ ?_ ?_ ?_ ?_ ?_
  · intro j u hj
    match j, hj with
    | 0, hj =>
      simp only [List.getElem?_cons_zero, Option.some.injEq] at hj
      subst hj
      rw [Addr.add_lit, World.cell?_alloc_at _ _ _ _ rfl]; rfl
  · intro u hu; simp at hu; subst hu; rfl
  · unfold maxLen; omega
  · omega
  · simp; omega
  · intro v' w' h1 h2 _
    have hsz : w.heap.size + 1 ≤ w'.heap.size := by have := h2.size; simpa using this
    refine hK v' w' (Own.mk' (by simpa using h1)) ⟨h2.os, h2.tape, h2.output, by omega, fun k hk hk' => ?_⟩ (by omega)
    rw [h2.block k (by simp; omega) (by intro e; have h3 := ho.2.1 k e.symm; have h4 := (ho.1.lt k e.symm).1; exact hk' ⟨h4, h3⟩)]
    exact Below.heap_alloc _ _ _ hk

end Go.Proofs.Ytedajefapddekaa.sl
