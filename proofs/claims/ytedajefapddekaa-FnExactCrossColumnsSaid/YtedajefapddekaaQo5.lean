/-
  Rows of Op that append grows.
-/
import Derived.Test.YtedajefapddekaaQo4
import Derived.Laws.AppendOwnNone
import Derived.WalkSpells
namespace Go.Proofs.Ytedajefapddekaa.qo
open Go.RowKit Go.Sort Go.Proofs.Ytedajefapddekaa.sl
set_option linter.unusedVariables false
set_option linter.unusedSimpArgs false

theorem OOwn.lo {w : World} {lo lo' hi : Nat} {v : Value} {xs : List V} (o : OOwn w lo hi v xs) (h : lo' ≤ lo) : OOwn w lo' hi v xs := by
  obtain ⟨hh, hr⟩ := o
  refine ⟨hh, ?_⟩
  rcases hr with hr | ⟨hp, g, cap, hv, e1, e2⟩
  · exact .inl hr
  · exact .inr ⟨hp, g, cap, hv, Nat.le_trans h e1, e2⟩
theorem cellsL_nil : cellsL [] = [] := rfl
theorem cellsL_append (xs ys : List V) : cellsL (xs ++ ys) = cellsL xs ++ cellsL ys := by
  apply List.ext_getElem?
  intro m
  by_cases h : m < xs.length * 8
  · rw [cellsL_at _ _ (by simp; omega), List.getElem?_append_left (by rw [cellsL_len]; exact h), cellsL_at _ _ h]
    have h2 : m / 8 < xs.length := by omega
    have e : (xs ++ ys).getD (m / 8) oz = xs.getD (m / 8) oz := by simp [List.getD, List.getElem?_append_left h2]
    rw [e]
  · by_cases h2 : m < (xs.length + ys.length) * 8
    · rw [cellsL_at _ _ (by simp; omega), List.getElem?_append_right (by rw [cellsL_len]; omega), cellsL_len, cellsL_at _ _ (by omega)]
      have h3 : xs.length ≤ m / 8 := by omega
      have e : (xs ++ ys).getD (m / 8) oz = ys.getD ((m - xs.length * 8) / 8) oz := by
        rw [show (m - xs.length * 8) / 8 = m / 8 - xs.length from by omega]
        simp [List.getD, List.getElem?_append_right h3]
      rw [e, show (m - xs.length * 8) % 8 = m % 8 from by omega]
    · rw [List.getElem?_eq_none (by rw [cellsL_len]; simp; omega), List.getElem?_eq_none (by simp [cellsL_len]; omega)]

/-- The value is a row of the call's own that append may grow, in a block from lo on and below hi. -/
def ROwn (w : World) (lo hi : Nat) (v : Value) (xs : List V) : Prop :=
  w.ownsRow lo 79 8 v xs.length (cellsL xs) ∧ (∀ g, v.ownBlock = some g → g < hi) ∧ hi ≤ w.heap.size
theorem ROwn.mk' {w : World} {lo : Nat} {v : Value} {xs : List V} (h : w.ownsRow lo 79 8 v xs.length (cellsL xs)) : ROwn w lo w.heap.size v xs :=
  ⟨h, fun g hg => (h.lt g hg).2, Nat.le_refl _⟩
theorem ROwn.chg {w w' : World} {lo hi l h : Nat} {v : Value} {xs : List V} (o : ROwn w lo hi v xs) (c : Chg l h w w') (h1 : hi ≤ l ∨ h ≤ lo ∨ h ≤ l) : ROwn w' lo hi v xs := by
  obtain ⟨hown, hlt, hhi⟩ := o
  refine ⟨⟨hown.1, ?_⟩, hlt, Nat.le_trans hhi c.size⟩
  rcases hown.2 with hn | ⟨g, cap, cur, rfl, hb, hg, rest⟩
  · exact .inl hn
  · have hgh := hlt g rfl
    refine .inr ⟨g, cap, cur, rfl, hb, ?_, rest⟩
    rw [c.block g (by omega) (by omega)]
    exact hg
theorem ROwn.below {w w' : World} {lo hi : Nat} {v : Value} {xs : List V} (o : ROwn w lo hi v xs) (b : Below w.heap.size w w') : ROwn w' lo hi v xs :=
  o.chg (Chg.ofBelow (lo := 0) b) (.inr (.inr (Nat.le_refl _)))
theorem ROwn.lo {w : World} {lo lo' hi : Nat} {v : Value} {xs : List V} (o : ROwn w lo hi v xs) (h : lo' ≤ lo) : ROwn w lo' hi v xs := by
  obtain ⟨hown, hlt, hhi⟩ := o
  refine ⟨⟨hown.1, ?_⟩, hlt, hhi⟩
  rcases hown.2 with hn | ⟨g, cap, cur, hv, hb, r⟩
  · exact .inl hn
  · exact .inr ⟨g, cap, cur, hv, Nat.le_trans h hb, r⟩
theorem ROwn.hi {w : World} {lo hi hi' : Nat} {v : Value} {xs : List V} (o : ROwn w lo hi v xs) (h : hi ≤ hi') (h2 : hi' ≤ w.heap.size) : ROwn w lo hi' v xs :=
  ⟨o.1, fun g hg => Nat.lt_of_lt_of_le (o.2.1 g hg) h, h2⟩
theorem ROwn.oown {w : World} {lo hi : Nat} {v : Value} {xs : List V} (o : ROwn w lo hi v xs) : OOwn w lo hi v xs := by
  obtain ⟨h1, hlt, hhi⟩ := o
  refine ⟨hhi, ?_⟩
  have hl : ∀ k, v.ownBlock = some k → lo ≤ k ∧ k < w.heap.size := h1.lt
  rcases h1.2 with ⟨rfl, h0⟩ | ⟨g, cap', cur, rfl, hg1, hg2, _⟩
  · exact .inl ⟨List.length_eq_zero_iff.1 h0, _, _, rfl, fun _ => rfl⟩
  · have hg := hl g rfl
    by_cases h0 : xs.length = 0
    · exact .inl ⟨List.length_eq_zero_iff.1 h0, _, _, by rw [h0], fun h => by cases h⟩
    · refine .inr ⟨by omega, g, cap', rfl, hg.1, hlt g rfl, fun o ho => h1.frozenAt o, fun j hj => ?_⟩
      refine at_of_cells hg.2 (fun i hi => ?_)
      rw [h1.cellAt _ (by omega), cellsL_at xs _ (by omega)]
      rw [show (0 + j * 8 + i) / 8 = j from by omega, show (0 + j * 8 + i) % 8 = i from by omega]
theorem rown_val {w : World} {lo hi : Nat} {v : Value} {xs : List V} (o : ROwn w lo hi v xs) : ∃ ao cap, v = .slice ao xs.length cap := by
  rcases o.1.2 with ⟨h, h0⟩ | ⟨g, c, cur, h, _⟩
  · exact ⟨none, 0, by rw [h, h0]⟩
  · exact ⟨_, _, h⟩
theorem ROwn.nil (w : World) (lo : Nat) : ROwn w lo w.heap.size (.slice none 0 0) [] := ROwn.mk' (World.ownsRow_nil _ _ _ _)
theorem ROwn.built (w : World) (cs : Array Value) (h : cs = #[]) : ROwn (w.alloc (.cells cs 79)) w.heap.size (w.alloc (.cells cs 79)).heap.size (.slice (some ⟨w.heap.size, 0, none⟩) 0 0) [] := by
  subst h
  exact ROwn.mk' (World.ownsRow_made w #[] 0 (Nat.le_refl _) (by unfold maxLen; omega) (by simp))

/-- append(out, x), out the call's own: it may grow. -/
theorem wp_append1 {ops : Array Oper} {rest : List Oper} {o : Oper} {a : Act} {Q : Exit → Act → World → Prop} {w : World} (hgd : o.guard = none) (s x : Operand)
    (hop : o.op = .call { callee := .builtin .append, args := #[s, x], argTypes := #[22, 22] })
    (lo hi : Nat) (v : Value) (xs : List V) (x0 : V) (ho : ROwn w lo hi v xs) (hs : a.eval s = v) (hx : a.eval x = .slice (some ⟨w.heap.size, 0, none⟩) 1 1) (hlo : lo ≤ w.heap.size) (hn : xs.length ≤ 1048576)
    (hK : ∀ v' w', ROwn w' lo w'.heap.size v' (xs ++ [x0]) → Chg lo hi w w' → w.heap.size < w'.heap.size → wpList Try.prog ops Q rest (a.put o.dst v') w') : wpList Try.prog ops Q (o :: rest) a (w.alloc (.cells #[.int .i64 x0.a0, .int .i64 x0.a1, .int .i64 x0.a2, .int .i64 x0.a3, .int .i64 x0.a4, .int .i64 x0.a5, .int .i64 x0.a6, .int .i64 x0.a7] 79)) := by
  obtain ⟨i0, hi', hz0, hz1, hz2⟩ := info_parts infoO
  have A := at_new x0 79 w
  refine wpList_append_own _ hgd s x 22 hop lo 79 i0 _ 8 64 Try.underlying22 hi' hz0 hz1 hz2 rfl (by decide) v xs.length (cellsL xs) hs (ho.1.alloc _) ⟨w.heap.size, 0, none⟩ 1 1 (cellsL [x0]) hx (by rw [cellsL_len]; rfl) ?_ ?_ ?_ ?_ ?_ ?_
  · intro j u hj
    have hj' : j < 8 := by
      have := (List.getElem?_eq_some_iff.1 hj).1
      simpa [cellsL_len] using this
    rw [cellsL_at [x0] j (by simpa using hj')] at hj
    rw [← hj, Addr.add_lit, show j / 8 = 0 from by omega, show j % 8 = j from by omega]
    exact A.cellOf j hj'
  · intro u hu
    simp only [cellsL, List.mem_map] at hu
    obtain ⟨m, _, rfl⟩ := hu
    exact cellOf_one _ _
  · unfold maxLen; omega
  · omega
  · simp; omega
  · intro v' w' h1 h2 _
    have hsz : w.heap.size + 1 ≤ w'.heap.size := by have := h2.size; simpa using this
    refine hK v' w' (ROwn.mk' (by rw [cellsL_append]; simpa using h1)) ⟨h2.os, h2.tape, h2.output, by omega, fun k hk hk' => ?_⟩ (by omega)
    rw [h2.block k (by simp; omega) (by intro e; have h3 := ho.2.1 k e.symm; have h4 := (ho.1.lt k e.symm).1; exact hk' ⟨h4, h3⟩)]
    exact Below.heap_alloc _ _ _ hk

/-- append(out, ys...), out the call's own, ys read. -/
theorem wp_appendS {ops : Array Oper} {rest : List Oper} {o : Oper} {a : Act} {Q : Exit → Act → World → Prop} {w : World} (hgd : o.guard = none) (s x : Operand)
    (hop : o.op = .call { callee := .builtin .append, args := #[s, x], argTypes := #[22, 22] })
    (lo hi : Nat) (v u : Value) (xs ys : List V) (C : Nat) (ho : ROwn w lo hi v xs) (hs : a.eval s = v) (hu : Ops w C u ys) (hx : a.eval x = u) (hlo : lo ≤ w.heap.size) (hn : xs.length ≤ 1048576) (hm : ys.length ≤ 1048576)
    (hK : ∀ v' w', ROwn w' lo w'.heap.size v' (xs ++ ys) → Chg lo hi w w' → wpList Try.prog ops Q rest (a.put o.dst v') w') : wpList Try.prog ops Q (o :: rest) a w := by
  obtain ⟨i0, hi', hz0, hz1, hz2⟩ := info_parts infoO
  have main : ∀ (ad : Addr) (cap : Nat), u = .slice (some ad) ys.length cap → (∀ m, m < ys.length * 8 → w.cell? (ad.add m) = some (cellOf (ys.getD (m / 8) oz) (m % 8))) → wpList Try.prog ops Q (o :: rest) a w := by
    intro ad cap hu' hc
    refine wpList_append_own _ hgd s x 22 hop lo 79 i0 _ 8 64 Try.underlying22 hi' hz0 hz1 hz2 rfl (by decide) v xs.length (cellsL xs) hs ho.1 ad ys.length cap (cellsL ys) (hx.trans hu') (cellsL_len ys) ?_ ?_ ?_ ?_ (by omega) ?_
    · intro j q hj
      have hj' : j < ys.length * 8 := by
        have := (List.getElem?_eq_some_iff.1 hj).1
        rwa [cellsL_len] at this
      rw [cellsL_at ys j hj'] at hj
      rw [hc j hj', hj]
    · intro q hq
      simp only [cellsL, List.mem_map] at hq
      obtain ⟨m, _, rfl⟩ := hq
      exact cellOf_one _ _
    · unfold maxLen; omega
    · omega
    · intro v' w' h1 h2 _
      refine hK v' w' (ROwn.mk' (by rw [cellsL_append]; simpa using h1)) ⟨h2.os, h2.tape, h2.output, h2.size, fun k hk hk' => ?_⟩
      exact h2.block k hk (by intro e; have h3 := ho.2.1 k e.symm; have h4 := (ho.1.lt k e.symm).1; exact hk' ⟨h4, h3⟩)
  rcases hu with ⟨rfl, ao, cap, rfl, hao⟩ | ⟨hp, b, off, cap, hv, hb, hc⟩
  · cases ao with
    | none =>
      obtain rfl := hao rfl
      refine wpList_append_own_none hgd s x 22 hop lo 79 i0 8 Try.underlying22 hi' _ xs.length (cellsL xs) hs ho.1 hx ?_
      exact hK _ _ (by rw [List.append_nil]; exact ho.hi ho.2.2 (Nat.le_refl _)) ⟨rfl, rfl, rfl, Nat.le_refl _, fun _ _ _ => rfl⟩
    | some ad => exact main ad cap rfl (fun m hm => by simp at hm)
  · refine main ⟨b, off, none⟩ cap hv (fun m hm => ?_)
    have hA := hc (m / 8) (by omega)
    have := hA.cellOf (m % 8) (Nat.mod_lt _ (by omega))
    rw [Addr.add_lit, show off + m = off + m / 8 * 8 + m % 8 from by omega]
    exact this

end Go.Proofs.Ytedajefapddekaa.qo
