/-
  Slices of slices of int64 that a call builds by append: what it owns of them; substitutionOf.
-/
import Derived.Test.YtfechjhngcmdpabP0
namespace Go.Proofs.Ytfechjhngcmdpab.rr
open Go.RowKit Go.Proofs.Ytfechjhngcmdpab.sl Go.Proofs.Ytfechjhngcmdpab.pm Go.Proofs.Ytfechjhngcmdpab.bw Go.Proofs.Ytfechjhngcmdpab.br Go.Proofs.Ytfechjhngcmdpab.fv Go.Proofs.Ytfechjhngcmdpab.fn Go.Proofs.Ytfechjhngcmdpab.fr Go.Proofs.Ytfechjhngcmdpab.ss Go.Proofs.Ytfechjhngcmdpab.ai Go.Proofs.Ytfechjhngcmdpab.ao Go.Proofs.Ytfechjhngcmdpab.pv Go.Proofs.Ytfechjhngcmdpab.ia Go.Proofs.Ytfechjhngcmdpab.aa
set_option linter.unusedVariables false

/-- The block is none of these slices'. -/
def Safe (g : Option Nat) (v : Value) (vals : List Value) : Prop := ∀ k, g = some k → v.ownBlock ≠ some k ∧ ∀ y ∈ vals, y.ownBlock ≠ some k
theorem safe_none (v : Value) (vals : List Value) : Safe none v vals := fun k h => by cases h

structure RR (W : World) (lo : Nat) (v : Value) (vals : List Value) (L : List (List Int)) : Prop where
  len : vals.length = L.length
  row : W.ownsRow lo 23 1 v L.length vals
  els : ∀ j, j < L.length → sl.Own W lo W.heap.size (vals.getD j (.bool false)) (L.getD j [])
  sep : ∀ g, v.ownBlock = some g → ∀ y ∈ vals, y.ownBlock ≠ some g

theorem own_kept {W W' : World} {lo hi : Nat} {v : Value} {xs : List Int} {row : Option Nat} (h : sl.Own W lo hi v xs) (hg : W.grownBy W' row) (hs : ∀ k, row = some k → v.ownBlock ≠ some k) : sl.Own W' lo W'.heap.size v xs :=
  sl.Own.mk' (World.ownsRow.kept h.1 hg (by
    cases row with
    | none => cases v.ownBlock <;> simp
    | some k => exact .inr (hs k rfl)))
theorem RR.kept {W W' : World} {lo : Nat} {v : Value} {vals : List Value} {L : List (List Int)} {row : Option Nat} (h : RR W lo v vals L) (hg : W.grownBy W' row) (hs : Safe row v vals) : RR W' lo v vals L := by
  refine ⟨h.len, World.ownsRow.kept h.row hg ?_, fun j hj => own_kept (h.els j hj) hg fun k hk => (hs k hk).2 _ ?_, h.sep⟩
  · cases row with
    | none => cases v.ownBlock <;> simp
    | some k => exact .inr (hs k rfl).1
  · have hj' : j < vals.length := by rw [h.len]; exact hj
    simp [List.getD, List.getElem?_eq_getElem hj']
theorem grown_below {W W' : World} {lo : Nat} (b : Below lo W W') (h : W.heap.size ≤ lo) : W.grownBy W' none := ⟨b.os, b.tape, b.output, b.size, fun k hk _ => b.block k (by omega)⟩
theorem grown_alloc (W : World) (o : Obj) : W.grownBy (W.alloc o) none := ⟨rfl, rfl, rfl, by simp, fun k hk _ => Below.heap_alloc W o k hk⟩
theorem grown_set (W : World) (g i : Nat) (u : Value) : W.grownBy (W.setCell ⟨g, i, none⟩ u) (some g) := ⟨rfl, rfl, rfl, by simp, fun k hk hne => by
  have h : ¬ g = k := fun e => hne (by rw [e])
  simp [World.setCell, Array.getElem?_modify, h]⟩
theorem RR.ge {W : World} {lo : Nat} {v : Value} {vals : List Value} {L : List (List Int)} (h : RR W lo v vals L) (k : Nat) (hk : k < lo) : Safe (some k) v vals := fun k' e => by
  cases e
  refine ⟨fun e => ?_, fun y hy e => ?_⟩
  · have := (h.row.lt k e).1; omega
  · obtain ⟨j, hj, rfl⟩ := List.getElem_of_mem hy
    have h1 := h.els j (by rw [← h.len]; exact hj)
    rw [show vals.getD j (.bool false) = vals[j] from by simp [List.getD, List.getElem?_eq_getElem hj]] at h1
    have := (h1.1.lt k e).1
    omega
theorem RR.lt {W : World} {lo : Nat} {v : Value} {vals : List Value} {L : List (List Int)} (h : RR W lo v vals L) (k : Nat) (hk : W.heap.size ≤ k) : Safe (some k) v vals := fun k' e => by
  cases e
  refine ⟨fun e => ?_, fun y hy e => ?_⟩
  · have := (h.row.lt k e).2; omega
  · obtain ⟨j, hj, rfl⟩ := List.getElem_of_mem hy
    have h1 := h.els j (by rw [← h.len]; exact hj)
    rw [show vals.getD j (.bool false) = vals[j] from by simp [List.getD, List.getElem?_eq_getElem hj]] at h1
    have := (h1.1.lt k e).2
    omega
theorem RR.nil (W : World) (lo : Nat) : RR W lo (.slice none 0 0) [] [] :=
  ⟨rfl, World.ownsRow_nil _ _ _ _, fun j hj => by simp at hj, fun g h => by cases h⟩
/-- A row more. -/
theorem RR.app {W W' : World} {lo : Nat} {v v' : Value} {vals : List Value} {L : List (List Int)} {y : Value} {r : List Int} (h : RR W lo v vals L) (hr : W'.ownsRow lo 23 1 v' (L.length + 1) (vals ++ [y])) (hg : W.grownBy W' v.ownBlock) (h5 : v'.ownBlock = v.ownBlock ∨ v'.ownBlock = some W.heap.size)
    (oy : sl.Own W lo W.heap.size y r) (hy : ∀ g, v.ownBlock = some g → y.ownBlock ≠ some g) : RR W' lo v' (vals ++ [y]) (L ++ [r]) := by
  refine ⟨by simp [h.len], by simpa using hr, fun j hj => ?_, fun g e z hz => ?_⟩
  · simp only [List.length_append, List.length_cons, List.length_nil, Nat.zero_add] at hj
    by_cases hl : j < L.length
    · have hl' : j < vals.length := by rw [h.len]; exact hl
      have e1 : (vals ++ [y]).getD j (.bool false) = vals.getD j (.bool false) := by simp [List.getD, List.getElem?_append_left hl']
      have e2 : (L ++ [r]).getD j [] = L.getD j [] := by simp [List.getD, List.getElem?_append_left hl]
      rw [e1, e2]
      refine own_kept (h.els j hl) hg fun k hk => h.sep k hk _ ?_
      simp [List.getD, List.getElem?_eq_getElem hl']
    · obtain rfl : j = L.length := by omega
      have e1 : (vals ++ [y]).getD L.length (.bool false) = y := by rw [← h.len]; simp [List.getD]
      have e2 : (L ++ [r]).getD L.length [] = r := by simp [List.getD]
      rw [e1, e2]
      exact own_kept oy hg hy
  · rw [List.mem_append] at hz
    have hlt : ∀ k, z.ownBlock = some k → k < W.heap.size := fun k hk => by
      rcases hz with hz | hz
      · obtain ⟨j, hj, rfl⟩ := List.getElem_of_mem hz
        have h1 := h.els j (by rw [← h.len]; exact hj)
        rw [show vals.getD j (.bool false) = vals[j] from by simp [List.getD, List.getElem?_eq_getElem hj]] at h1
        exact (h1.1.lt k hk).2
      · simp only [List.mem_singleton] at hz
        subst hz
        exact (oy.1.lt k hk).2
    rcases h5 with h5 | h5
    · rw [h5] at e
      rcases hz with hz | hz
      · exact h.sep g e z hz
      · simp only [List.mem_singleton] at hz
        subst hz
        exact hy g e
    · rw [h5] at e
      intro e2
      have := hlt g e2
      simp only [Option.some.injEq] at e
      omega
theorem RR.cell {W : World} {lo : Nat} {g n c : Nat} {vals : List Value} {L : List (List Int)} (h : RR W lo (.slice (some ⟨g, 0, none⟩) n c) vals L) (j : Nat) (hj : j < L.length) : W.cell? ⟨g, j, none⟩ = some (vals.getD j (.bool false)) := by
  have h1 := h.row.cells (g := g) rfl j (vals.getD j (.bool false)) (by
    have hj' : j < vals.length := by rw [h.len]; exact hj
    simp [List.getD, List.getElem?_eq_getElem hj'])
  rw [Addr.add_lit] at h1
  simpa using h1

/-- append(rows, x): one operation of a region. -/
theorem step_appR {ops : Array Oper} {o : Oper} {a : Act} {K : Act → World → Prop} {Q : Exit → Act → World → Prop} {E : Prop} {w : World} (hgd : o.guard = none) (s x : Operand)
    (hop : o.op = .call { callee := .builtin .append, args := #[s, x], argTypes := #[22, 22] })
    (lo : Nat) (v : Value) (n : Nat) (vals : List Value) (ho : w.ownsRow lo 23 1 v n vals) (hs : a.eval s = v) (ad : Addr) (c1 : Nat) (y : Value) (hx : a.eval x = .slice (some ad) 1 c1) (hc : w.cell? ad = some y) (hy1 : y.oneCell' = true) (hlo : lo ≤ w.heap.size) (hn : n ≤ 1048576)
    (hK : ∀ v' w', w'.ownsRow lo 23 1 v' (n + 1) (vals ++ [y]) → w.grownBy w' v.ownBlock → (v'.ownBlock = v.ownBlock ∨ v'.ownBlock = some w.heap.size) → K (a.put o.dst v') w') : if Region.wanted o (yielded ops a.tmps) = true then Oper.wp Try.prog o a w K Q else E := by
  have hw : Region.wanted o (yielded ops a.tmps) = true := by simp [Region.wanted, hgd]
  rw [if_pos hw]
  obtain ⟨i0, hi', hz0, hz1, hz2⟩ := info_parts infoS
  obtain ⟨v', w', hr, h2, h3, h4, h5⟩ := run_append_own_at (P := Try.prog) w lo 22 o.type 23 i0 (.slice none 0 0) 1 24 Try.underlying22 hi' hz0 hz1 hz2 rfl (by decide) v n vals ho ad 1 c1 [y] (by simp)
    (fun j u hj => by
      match j, hj with
      | 0, hj =>
        simp only [List.getElem?_cons_zero, Option.some.injEq] at hj
        subst hj
        have : ad.add 0 = ad := by cases ad; simp [Addr.add]
        rw [this]; exact hc)
    (fun u hu => by simp at hu; subst hu; exact hy1) (by unfold maxLen; omega) (by omega) hlo
  unfold Oper.wp execOp
  simp only [hop, resolve, invoke, builtin, Sem.run_bind, Sem.run_pure, Result.andThen_ok, List.map_toArray, List.map_cons, List.map_nil, hs, hx, hr]
  exact hK v' w' h2 h3 h5
end Go.Proofs.Ytfechjhngcmdpab.rr
