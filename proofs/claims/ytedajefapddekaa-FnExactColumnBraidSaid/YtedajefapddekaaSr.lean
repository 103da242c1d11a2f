/-
  Slices of slices of int64 that a call builds by append, row by row: what it owns.
-/
import Derived.Test.YtedajefapddekaaSs2
import Derived.Maps.AppendAt
namespace Go.Proofs.Ytedajefapddekaa.wk
open Go.RowKit Go.Proofs.Ytedajefapddekaa.sl Go.Proofs.Ytedajefapddekaa.br Go.Proofs.Ytedajefapddekaa.ss
set_option linter.unusedVariables false

structure SR (W : World) (lo : Nat) (v : Value) (vals : List Value) (L : List (List Int)) : Prop where
  len : vals.length = L.length
  row : W.ownsRow lo 30 1 v L.length vals
  els : ∃ Lo Hi : Nat → Nat, ∀ j, j < L.length → sl.Own W (Lo j) (Hi j) (vals.getD j (.bool false)) (L.getD j []) ∧ lo ≤ Lo j ∧ (∀ g, v.ownBlock = some g → g < Lo j ∨ Hi j ≤ g) ∧ ∀ i, i < j → Hi i ≤ Lo j ∨ Hi j ≤ Lo i

theorem grN {W W' : World} (b : Below W.heap.size W W') : W.grownBy W' none := ⟨b.os, b.tape, b.output, b.size, fun k hk _ => b.block k hk⟩
theorem SR.below {W W' : World} {lo : Nat} {v : Value} {vals : List Value} {L : List (List Int)} (h : SR W lo v vals L) (b : Below W.heap.size W W') : SR W' lo v vals L := by
  obtain ⟨Lo, Hi, he⟩ := h.els
  refine ⟨h.len, World.ownsRow.kept h.row (grN b) (by cases v.ownBlock <;> simp), Lo, Hi, fun j hj => ?_⟩
  obtain ⟨h1, h2⟩ := he j hj
  exact ⟨h1.chg (Chg.ofBelow (lo := 0) b) (.inr (.inr (Nat.zero_le _))), h2⟩
theorem SR.made (W : World) (lo : Nat) (hlo : lo ≤ W.heap.size) : SR (W.alloc (.cells #[] 30)) lo (.slice (some ⟨W.heap.size, 0, none⟩) 0 0) [] [] :=
  ⟨rfl, World.ownsRow_made W #[] 0 hlo (by unfold maxLen; omega) (by simp), fun _ => 0, fun _ => 0, fun j hj => by simp at hj⟩
/-- Only one block has changed, and it is not the slice's. -/
theorem own_by {W W' : World} {lo hi : Nat} {v : Value} {xs : List Int} {row : Option Nat} (h : sl.Own W lo hi v xs) (hg : W.grownBy W' row) (hs : ∀ k, row = some k → k < lo ∨ hi ≤ k) : sl.Own W' lo hi v xs := by
  cases row with
  | none => exact h.chg (l := 0) (h := 0) ⟨hg.os, hg.tape, hg.output, hg.size, fun k hk _ => hg.block k hk (by simp)⟩ (.inr (.inl (Nat.zero_le _)))
  | some g =>
    refine h.chg (l := g) (h := g + 1) ⟨hg.os, hg.tape, hg.output, hg.size, fun k hk hn => hg.block k hk ?_⟩ ?_
    · intro e
      simp only [Option.some.injEq] at e
      exact hn (by omega)
    · have := hs g rfl
      omega
theorem SR.app {Wr W1 W2 W' : World} {lo : Nat} {v v' y : Value} {vals : List Value} {L : List (List Int)} {r : List Int} (h : SR Wr lo v vals L) (b : Below Wr.heap.size Wr W1) (oy : sl.Own W1 Wr.heap.size W1.heap.size y r) (b2 : Below W1.heap.size W1 W2) (hlo : lo ≤ Wr.heap.size)
    (hr : W'.ownsRow lo 30 1 v' (L.length + 1) (vals ++ [y])) (hg : W2.grownBy W' v.ownBlock) (h5 : v'.ownBlock = v.ownBlock ∨ v'.ownBlock = some W2.heap.size) : SR W' lo v' (vals ++ [y]) (L ++ [r]) := by
  have hs1 := b.size
  have hs2 := b2.size
  have h2 := (h.below b).below b2
  have oy2 : sl.Own W2 Wr.heap.size W1.heap.size y r := oy.chg (Chg.ofBelow (lo := 0) b2) (.inr (.inr (Nat.zero_le _)))
  obtain ⟨Lo, Hi, he⟩ := h.els
  have hlt : ∀ k, v.ownBlock = some k → k < Wr.heap.size := fun k hk => (h.row.lt k hk).2
  refine ⟨by simp [h.len], by simpa using hr, fun j => if j < L.length then Lo j else Wr.heap.size, fun j => if j < L.length then Hi j else W1.heap.size, fun j hj => ?_⟩
  simp only [List.length_append, List.length_cons, List.length_nil, Nat.zero_add] at hj
  by_cases hl : j < L.length
  · have hl' : j < vals.length := by rw [h.len]; exact hl
    have e1 : (vals ++ [y]).getD j (.bool false) = vals.getD j (.bool false) := by simp [List.getD, List.getElem?_append_left hl']
    have e2 : (L ++ [r]).getD j [] = L.getD j [] := by simp [List.getD, List.getElem?_append_left hl]
    obtain ⟨a1, a2, a3, a4⟩ := he j hl
    have hh := a1.2.2
    have o2 : sl.Own W2 (Lo j) (Hi j) (vals.getD j (.bool false)) (L.getD j []) := (a1.chg (Chg.ofBelow (lo := 0) b) (.inr (.inr (Nat.zero_le _)))).chg (Chg.ofBelow (lo := 0) b2) (.inr (.inr (Nat.zero_le _)))
    rw [e1, e2]
    simp only [if_pos hl]
    refine ⟨own_by o2 hg a3, a2, fun g e => ?_, fun i hi => ?_⟩
    · rcases h5 with h5 | h5
      · exact a3 g (by rw [← h5]; exact e)
      · rw [h5] at e
        simp only [Option.some.injEq] at e
        omega
    · rw [if_pos (show i < L.length by omega)]
      rw [if_pos (show i < L.length by omega)]
      exact a4 i hi
  · obtain rfl : j = L.length := by omega
    have e1 : (vals ++ [y]).getD L.length (.bool false) = y := by rw [← h.len]; simp [List.getD]
    have e2 : (L ++ [r]).getD L.length [] = r := by simp [List.getD]
    rw [e1, e2]
    simp only [if_neg (Nat.lt_irrefl _)]
    refine ⟨own_by oy2 hg fun k hk => .inl (hlt k hk), hlo, fun g e => ?_, fun i hi => ?_⟩
    · rcases h5 with h5 | h5
      · exact .inl (hlt g (by rw [← h5]; exact e))
      · rw [h5] at e
        simp only [Option.some.injEq] at e
        omega
    · simp only [if_pos hi]
      have := (he i hi).1.2.2
      omega
/-- The rows as an answer. -/
theorem SR.rown {W : World} {lo : Nat} {v : Value} {vals : List Value} {L : List (List Int)} (h : SR W lo v vals L) : ss.ROwn W lo W.heap.size v L := by
  refine ⟨Nat.le_refl _, ?_⟩
  have hrow := h.row
  rcases h.row.2 with ⟨hv, hn⟩ | ⟨g, cap, cur, hv, hb, hg, hrest⟩
  · exact .inl ⟨List.length_eq_zero_iff.1 hn, none, 0, by rw [hv]⟩
  · by_cases hL : L = []
    · subst hL
      exact .inl ⟨rfl, _, _, hv⟩
    · have hp : 0 < L.length := List.length_pos_iff.2 hL
      obtain ⟨Lo, Hi, he⟩ := h.els
      have hown : v.ownBlock = some g := by rw [hv]; rfl
      have hlt := h.row.lt g hown
      refine .inr ⟨hp, g, 0, cap, fun j => vals.getD j (.bool false), Lo, Hi, hv, hb, hlt.2, fun j hj => ?_⟩
      obtain ⟨a1, a2, a3, a4⟩ := he j hj
      refine ⟨?_, a1, a2, a1.2.2, a3 g hown, a4⟩
      have h1 := h.row.cells hown j (vals.getD j (.bool false)) (by
        have hj' : j < vals.length := by rw [h.len]; exact hj
        simp [List.getD, List.getElem?_eq_getElem hj'])
      rw [Addr.add_lit] at h1
      simpa using h1
theorem SR.low {W : World} {lo lo' : Nat} {v : Value} {vals : List Value} {L : List (List Int)} (h : SR W lo v vals L) (hl : lo' ≤ lo) : SR W lo' v vals L := by
  obtain ⟨Lo, Hi, he⟩ := h.els
  refine ⟨h.len, ⟨h.row.1, ?_⟩, Lo, Hi, fun j hj => ?_⟩
  · rcases h.row.2 with h1 | ⟨g, c, cur, h1, h2, h3⟩
    · exact .inl h1
    · exact .inr ⟨g, c, cur, h1, by omega, h3⟩
  · obtain ⟨a1, a2, a3⟩ := he j hj
    exact ⟨a1, by omega, a3⟩
theorem SR.val {W : World} {lo : Nat} {v : Value} {vals : List Value} {L : List (List Int)} (h : SR W lo v vals L) : ∃ ao cap, v = .slice ao L.length cap := by
  rcases h.row.2 with ⟨h1, h2⟩ | ⟨g, c, cur, h1, _⟩
  · exact ⟨none, 0, by rw [h1, h2]⟩
  · exact ⟨_, c, h1⟩

/-- append(rows, row): the row of a new block. -/
theorem wp_appR {ops : Array Oper} {rest : List Oper} {o : Oper} {a : Act} {Q : Exit → Act → World → Prop} {Wr W1 : World} (hgd : o.guard = none) (s x : Operand)
    (hop : o.op = .call { callee := .builtin .append, args := #[s, x], argTypes := #[88, 88] })
    (lo : Nat) (v y : Value) (vals : List Value) (L : List (List Int)) (r : List Int) (h : SR Wr lo v vals L) (b : Below Wr.heap.size Wr W1) (oy : sl.Own W1 Wr.heap.size W1.heap.size y r) (hy1 : y.oneCell' = true) (hs : a.eval s = v) (hx : a.eval x = .slice (some ⟨W1.heap.size, 0, none⟩) 1 1) (hlo : lo ≤ Wr.heap.size) (hn : L.length ≤ 1048576)
    (hK : ∀ v' w', SR w' lo v' (vals ++ [y]) (L ++ [r]) → Below lo W1 w' → (W1.alloc (.cells #[y] 30)).grownBy w' v.ownBlock → (v'.ownBlock = v.ownBlock ∨ v'.ownBlock = some (W1.alloc (.cells #[y] 30)).heap.size) → wpList Try.prog ops Q rest (a.put o.dst v') w') : wpList Try.prog ops Q (o :: rest) a (W1.alloc (.cells #[y] 30)) := by
  obtain ⟨i0, hi', hz0, hz1, hz2⟩ := info_parts infoS
  have b2 : Below W1.heap.size W1 (W1.alloc (.cells #[y] 30)) := (Below.refl _ _).alloc (Nat.le_refl _) _
  have hs1 := b.size
  have ho := ((h.below b).below b2).row
  obtain ⟨v', w', hr, h2, h3, h4, h5⟩ := run_append_own_at (P := Try.prog) (W1.alloc (.cells #[y] 30)) lo 88 o.type 30 i0 (.slice none 0 0) 1 24 Try.underlying88 hi' hz0 hz1 hz2 rfl (by decide) v L.length vals ho ⟨W1.heap.size, 0, none⟩ 1 1 [y] (by simp)
    (fun j u hj => by
      match j, hj with
      | 0, hj =>
        simp only [List.getElem?_cons_zero, Option.some.injEq] at hj
        subst hj
        rw [Addr.add_lit, World.cell?_alloc_at _ _ _ _ rfl]; rfl)
    (fun u hu => by simp at hu; subst hu; exact hy1) (by unfold maxLen; omega) (by omega) (by simp; omega)
  refine wpList_plain hgd fun K hKK => ?_
  unfold Oper.wp execOp
  simp only [hop, resolve, invoke, builtin, Sem.run_bind, Sem.run_pure, Result.andThen_ok, List.map_toArray, List.map_cons, List.map_nil, hs, hx, hr]
  refine hKK _ _ (hK v' w' (h.app b oy b2 hlo h2 h3 h5) ⟨h3.os, h3.tape, h3.output, Nat.le_trans b2.size h3.size, fun k hk => ?_⟩ h3 h5)
  rw [h3.block k (by have := b2.size; omega) (by intro e; have := (h.row.lt k e.symm).1; omega)]
  exact b2.block k (by omega)
end Go.Proofs.Ytedajefapddekaa.wk
