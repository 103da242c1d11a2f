/-
  Rows built by append where other own memory below changes, too (as in Db2, without DoubleBraid).
-/
import Derived.Test.YtbbnheiibkcgiaaDoorSr
namespace Go.Proofs.YtbbnheiibkcgiaaDoor.srx
open Go.RowKit Go.Proofs.YtbbnheiibkcgiaaDoor.sl Go.Proofs.YtbbnheiibkcgiaaDoor.br Go.Proofs.YtbbnheiibkcgiaaDoor.wk
set_option linter.unusedVariables false

theorem sr_chg {W W' : World} {lo l h : Nat} {v : Value} {vals : List Value} {L : List (List Int)} (s : SR W lo v vals L) (c : Chg l h W W') (hh : h ≤ lo) : SR W' lo v vals L := by
  obtain ⟨Lo, Hi, he⟩ := s.els
  refine ⟨s.len, ⟨s.row.1, ?_⟩, Lo, Hi, fun j hj => ?_⟩
  · rcases s.row.2 with h1 | ⟨g, cap, cur, hv, hb, hg, hr⟩
    · exact .inl h1
    · have hlt := (s.row.lt g (by rw [hv]; rfl)).2
      exact .inr ⟨g, cap, cur, hv, hb, by rw [c.block g hlt (by omega)]; exact hg, hr⟩
  · obtain ⟨a1, a2, a3⟩ := he j hj
    exact ⟨a1.chg c (by omega), a2, a3⟩
/-- One row more; the world has changed below. -/
theorem sr_app {Wr W1 W2 W' : World} {lo l h : Nat} {v v' y : Value} {vals : List Value} {L : List (List Int)} {r : List Int} (s : SR Wr lo v vals L) (c : Chg l h Wr W1) (hh : h ≤ lo) (oy : sl.Own W1 Wr.heap.size W1.heap.size y r) (b2 : Below W1.heap.size W1 W2) (hlo : lo ≤ Wr.heap.size)
    (hr : W'.ownsRow lo 34 1 v' (L.length + 1) (vals ++ [y])) (hg : W2.grownBy W' v.ownBlock) (h5 : v'.ownBlock = v.ownBlock ∨ v'.ownBlock = some W2.heap.size) : SR W' lo v' (vals ++ [y]) (L ++ [r]) := by
  have hs1 := c.size
  have hs2 := b2.size
  have oy2 : sl.Own W2 Wr.heap.size W1.heap.size y r := oy.chg (Chg.ofBelow (lo := 0) b2) (.inr (.inr (Nat.zero_le _)))
  obtain ⟨Lo, Hi, he⟩ := s.els
  have hlt : ∀ k, v.ownBlock = some k → k < Wr.heap.size := fun k hk => (s.row.lt k hk).2
  refine ⟨by simp [s.len], by simpa using hr, fun j => if j < L.length then Lo j else Wr.heap.size, fun j => if j < L.length then Hi j else W1.heap.size, fun j hj => ?_⟩
  simp only [List.length_append, List.length_cons, List.length_nil, Nat.zero_add] at hj
  by_cases hl : j < L.length
  · have hl' : j < vals.length := by rw [s.len]; exact hl
    have e1 : (vals ++ [y]).getD j (.bool false) = vals.getD j (.bool false) := by simp [List.getD, List.getElem?_append_left hl']
    have e2 : (L ++ [r]).getD j [] = L.getD j [] := by simp [List.getD, List.getElem?_append_left hl]
    obtain ⟨a1, a2, a3, a4⟩ := he j hl
    have hh1 := a1.2.2
    have o2 : sl.Own W2 (Lo j) (Hi j) (vals.getD j (.bool false)) (L.getD j []) := (a1.chg c (by omega)).chg (Chg.ofBelow (lo := 0) b2) (.inr (.inr (Nat.zero_le _)))
    rw [e1, e2]
    simp only [if_pos hl]
    refine ⟨own_by o2 hg a3, a2, fun g e => ?_, fun i hi => ?_⟩
    · rcases h5 with h5 | h5
      · exact a3 g (by rw [← h5]; exact e)
      · rw [h5] at e
        simp only [Option.some.injEq] at e
        omega
    · rw [if_pos (show i < L.length by omega)]
      rw [if_pos (show i < L.length by omega)]
      exact a4 i hi
  · obtain rfl : j = L.length := by omega
    have e1 : (vals ++ [y]).getD L.length (.bool false) = y := by rw [← s.len]; simp [List.getD]
    have e2 : (L ++ [r]).getD L.length [] = r := by simp [List.getD]
    rw [e1, e2]
    simp only [if_neg (Nat.lt_irrefl _)]
    refine ⟨own_by oy2 hg fun k hk => .inl (hlt k hk), hlo, fun g e => ?_, fun i hi => ?_⟩
    · rcases h5 with h5 | h5
      · exact .inl (hlt g (by rw [← h5]; exact e))
      · rw [h5] at e
        simp only [Option.some.injEq] at e
        omega
    · simp only [if_pos hi]
      have := (he i hi).1.2.2
      omega
theorem wp_appRC {ops : Array Oper} {rest : List Oper} {o : Oper} {a : Act} {Q : Exit → Act → World → Prop} {Wr W1 : World} (hgd : o.guard = none) (s x : Operand)
    (hop : o.op = .call { callee := .builtin .append, args := #[s, x], argTypes := #[47, 47] })
    (lo l hh : Nat) (v y : Value) (vals : List Value) (L : List (List Int)) (r : List Int) (h : SR Wr lo v vals L) (c : Chg l hh Wr W1) (hhl : hh ≤ lo) (oy : sl.Own W1 Wr.heap.size W1.heap.size y r) (hy1 : y.oneCell' = true) (hs : a.eval s = v) (hx : a.eval x = .slice (some ⟨W1.heap.size, 0, none⟩) 1 1) (hlo : lo ≤ Wr.heap.size) (hn : L.length ≤ 1048576)
    (hK : ∀ v' w', SR w' lo v' (vals ++ [y]) (L ++ [r]) → Below lo W1 w' → wpList Tryd.prog ops Q rest (a.put o.dst v') w') : wpList Tryd.prog ops Q (o :: rest) a (W1.alloc (.cells #[y] 34)) := by
  obtain ⟨i0, hi', hz0, hz1, hz2⟩ := info_parts ss.infoS
  have b2 : Below W1.heap.size W1 (W1.alloc (.cells #[y] 34)) := (Below.refl _ _).alloc (Nat.le_refl _) _
  have hs1 := c.size
  have ho := ((sr_chg h c hhl).below b2).row
  obtain ⟨v', w', hr, h2, h3, h4, h5⟩ := run_append_own_at (P := Tryd.prog) (W1.alloc (.cells #[y] 34)) lo 47 o.type 34 i0 (.slice none 0 0) 1 24 Tryd.underlying47 hi' hz0 hz1 hz2 rfl (by decide) v L.length vals ho ⟨W1.heap.size, 0, none⟩ 1 1 [y] (by simp)
    (fun j u hj => by
      match j, hj with
      | 0, hj =>
        simp only [List.getElem?_cons_zero, Option.some.injEq] at hj
        subst hj
        rw [Addr.add_lit, World.cell?_alloc_at _ _ _ _ rfl]; rfl)
    (fun u hu => by simp at hu; subst hu; exact hy1) (by unfold maxLen; omega) (by omega) (by simp; omega)
  refine wpList_plain hgd fun K hKK => ?_
  unfold Oper.wp execOp
  simp only [hop, resolve, invoke, builtin, Sem.run_bind, Sem.run_pure, Result.andThen_ok, List.map_toArray, List.map_cons, List.map_nil, hs, hx, hr]
  refine hKK _ _ (hK v' w' (sr_app h c hhl oy b2 hlo h2 h3 h5) ⟨h3.os, h3.tape, h3.output, Nat.le_trans b2.size h3.size, fun k hk => ?_⟩)
  rw [h3.block k (by have := b2.size; omega) (by intro e; have := (h.row.lt k e.symm).1; omega)]
  exact b2.block k (by omega)
end Go.Proofs.YtbbnheiibkcgiaaDoor.srx
