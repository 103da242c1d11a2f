/-
  Slices of strings in memory: what a call reads (Strs), what it owns (SOwn); contracts of the laws' helpers eqStringS, markStringS, heldStringS, markText.
-/
import Derived.Test.YtbonccflocogbaaDoorAp
import Derived.Laws.BytesArg
import Derived.Lib.QuietBelow
namespace Go.Proofs.YtbonccflocogbaaDoor.sg
open Go.RowKit Go.Sort Go.Proofs.YtbonccflocogbaaDoor.sl
set_option linter.unusedVariables false
set_option linter.unusedSimpArgs false

theorem infoSt : (Tryd.prog.info? 9).map (fun i => (i.zero, i.size, i.bytes)) = some (some (.string ByteArray.empty), 1, 16) := by kernel_rfl

/-- The value reads as the list; its block lies below B. -/
def Strs (w : World) (B : Nat) (v : Value) (xs : List ByteArray) : Prop :=
  (xs = [] ∧ ∃ ao cap, v = .slice ao 0 cap) ∨
  (0 < xs.length ∧ ∃ b off cap, v = .slice (some ⟨b, off, none⟩) xs.length cap ∧ b < B ∧ ∀ j, j < xs.length → w.cell? ⟨b, off + j, none⟩ = some (.string (xs.getD j ByteArray.empty)))
/-- The value is a slice of the call's own, in a block from lo on and below hi. -/
def SOwn (w : World) (lo hi : Nat) (v : Value) (xs : List ByteArray) : Prop :=
  w.ownsRow lo 9 1 v xs.length (xs.map Value.string) ∧ (∀ g, v.ownBlock = some g → g < hi) ∧ hi ≤ w.heap.size
theorem SOwn.chg {w w' : World} {lo hi l h : Nat} {v : Value} {xs : List ByteArray} (o : SOwn w lo hi v xs) (c : Chg l h w w') (h1 : hi ≤ l ∨ h ≤ lo ∨ h ≤ l) : SOwn w' lo hi v xs := by
  obtain ⟨hown, hlt, hhi⟩ := o
  refine ⟨⟨hown.1, ?_⟩, hlt, Nat.le_trans hhi c.size⟩
  rcases hown.2 with hn | ⟨g, cap, cur, rfl, hb, hg, rest⟩
  · exact .inl hn
  · have hgh := hlt g rfl
    refine .inr ⟨g, cap, cur, rfl, hb, ?_, rest⟩
    rw [c.block g (by omega) (by omega)]
    exact hg
theorem SOwn.below {w w' : World} {lo hi : Nat} {v : Value} {xs : List ByteArray} (o : SOwn w lo hi v xs) (b : Below w.heap.size w w') : SOwn w' lo hi v xs :=
  o.chg (Chg.ofBelow (lo := 0) b) (.inr (.inr (Nat.zero_le _)))
theorem SOwn.hi {w : World} {lo hi hi' : Nat} {v : Value} {xs : List ByteArray} (o : SOwn w lo hi v xs) (h : hi ≤ hi') (h2 : hi' ≤ w.heap.size) : SOwn w lo hi' v xs :=
  ⟨o.1, fun g hg => Nat.lt_of_lt_of_le (o.2.1 g hg) h, h2⟩
theorem SOwn.strs {w : World} {lo hi : Nat} {v : Value} {xs : List ByteArray} (o : SOwn w lo hi v xs) : Strs w hi v xs := by
  obtain ⟨hown, hlt, hhi⟩ := o
  have hown0 := hown
  rcases hown.2 with ⟨hv, hn⟩ | ⟨g, cap, cur, hv, hb, hg, hc, _⟩
  · exact .inl ⟨List.length_eq_zero_iff.1 hn, none, 0, hv⟩
  · subst hv
    by_cases hx : xs = []
    · subst hx; exact .inl ⟨rfl, _, _, rfl⟩
    · have hp : 0 < xs.length := List.length_pos_iff.2 hx
      refine .inr ⟨hp, g, 0, cap, rfl, hlt g rfl, fun j hj => ?_⟩
      rw [Nat.zero_add, hown0.cellAt j (by omega)]
      simp [List.getD, List.getElem?_eq_getElem hj]
theorem SOwn.mk' {w : World} {lo : Nat} {v : Value} {xs : List ByteArray} (h : w.ownsRow lo 9 1 v xs.length (xs.map Value.string)) : SOwn w lo w.heap.size v xs :=
  ⟨h, fun g hg => (h.lt g hg).2, Nat.le_refl _⟩
theorem SOwn.lo {w : World} {lo lo' hi : Nat} {v : Value} {xs : List ByteArray} (o : SOwn w lo hi v xs) (h : lo' ≤ lo) : SOwn w lo' hi v xs := by
  obtain ⟨hown, hlt, hhi⟩ := o
  refine ⟨⟨hown.1, ?_⟩, hlt, hhi⟩
  rcases hown.2 with hn | ⟨g, cap, cur, hv, hb, r⟩
  · exact .inl hn
  · exact .inr ⟨g, cap, cur, hv, Nat.le_trans h hb, r⟩
theorem SOwn.val {w : World} {lo hi : Nat} {v : Value} {xs : List ByteArray} (o : SOwn w lo hi v xs) : ∃ ao cap, v = .slice ao xs.length cap := by
  rcases o.1.2 with ⟨h1, h2⟩ | ⟨g, c, cur, h1, _⟩
  · exact ⟨none, 0, by rw [h1, h2]⟩
  · exact ⟨_, c, h1⟩
theorem strs_val {w : World} {B : Nat} {v : Value} {xs : List ByteArray} (h : Strs w B v xs) : ∃ ao cap, v = .slice ao xs.length cap := by
  rcases h with ⟨rfl, ao, cap, rfl⟩ | ⟨hp, b, off, cap, rfl, _⟩ <;> exact ⟨_, _, rfl⟩


/-- append(rows, x): one string. -/
theorem wp_appS {ops : Array Oper} {rest : List Oper} {o : Oper} {a : Act} {Q : Exit → Act → World → Prop} {w : World} (hgd : o.guard = none) (s x : Operand)
    (hop : o.op = .call { callee := .builtin .append, args := #[s, x], argTypes := #[30, 30] })
    (lo hi : Nat) (v : Value) (xs : List ByteArray) (x0 : ByteArray) (ho : SOwn w lo hi v xs) (hs : a.eval s = v) (hx : a.eval x = .slice (some ⟨w.heap.size, 0, none⟩) 1 1) (hlo : lo ≤ w.heap.size) (hn : xs.length ≤ 1099511627776)
    (hK : ∀ v' w', SOwn w' lo w'.heap.size v' (xs ++ [x0]) → Chg lo hi w w' → w.heap.size < w'.heap.size → wpList Tryd.prog ops Q rest (a.put o.dst v') w') : wpList Tryd.prog ops Q (o :: rest) a (w.alloc (.cells #[.string x0] 9)) := by
  obtain ⟨i0, hi', hz0, hz1, hz2⟩ := info_parts infoSt
  refine wpList_append_own _ hgd s x 30 hop lo 9 i0 (.string ByteArray.empty) 1 16 Tryd.underlying30 hi' hz0 hz1 hz2 rfl (by decide) v xs.length (xs.map Value.string) hs (ho.1.alloc _) ⟨w.heap.size, 0, none⟩ 1 1 [.string x0] hx rfl ?_ ?_ ?_ ?_ ?_ ?_
  · intro j u hj
    match j, hj with
    | 0, hj =>
      simp only [List.getElem?_cons_zero, Option.some.injEq] at hj
      subst hj
      rw [Addr.add_lit, World.cell?_alloc_at _ _ _ _ rfl]; rfl
  · intro u hu; simp at hu; subst hu; rfl
  · unfold maxLen; omega
  · omega
  · simp; omega
  · intro v' w' h1 h2 _
    have hsz : w.heap.size + 1 ≤ w'.heap.size := by have := h2.size; simpa using this
    refine hK v' w' (SOwn.mk' (by simpa using h1)) ⟨h2.os, h2.tape, h2.output, by omega, fun k hk hk' => ?_⟩ (by omega)
    rw [h2.block k (by simp; omega) (by intro e; have h3 := ho.2.1 k e.symm; have h4 := (ho.1.lt k e.symm).1; exact hk' ⟨h4, h3⟩)]
    exact Below.heap_alloc _ _ _ hk
theorem SOwn.built (w : World) : SOwn (w.alloc (.cells #[] 9)) w.heap.size (w.alloc (.cells #[] 9)).heap.size (.slice (some ⟨w.heap.size, 0, none⟩) 0 0) [] :=
  SOwn.mk' (World.ownsRow_made w #[] 0 (Nat.le_refl _) (by unfold maxLen; omega) (by simp))


end Go.Proofs.YtbonccflocogbaaDoor.sg
