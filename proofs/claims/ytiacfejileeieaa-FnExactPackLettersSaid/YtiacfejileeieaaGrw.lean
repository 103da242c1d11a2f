/-
  A row of a slice of slices that a call owns grows by one element in its place.
-/
import Derived.Test.YtiacfejileeieaaSr
import Derived.Test.YtiacfejileeieaaNw1
namespace Go.Proofs.Ytiacfejileeieaa.wk
open Go.RowKit Go.Proofs.Ytiacfejileeieaa.sl Go.Proofs.Ytiacfejileeieaa.br Go.Proofs.Ytiacfejileeieaa.ss
set_option linter.unusedVariables false

theorem row_up {W : World} {lo lo' : Nat} {n : Nat} {v : Value} {xs : List Value} {b : Nat} (h : W.ownsRow lo 2 1 v n xs) (hb : v.ownBlock = some b) (hl : lo' ≤ b) : W.ownsRow lo' 2 1 v n xs := by
  refine ⟨h.1, ?_⟩
  rcases h.2 with ⟨h1, _⟩ | ⟨g, cap, cur, hv, h2, r⟩
  · subst h1; cases hb
  · have hg : v.ownBlock = some g := by rw [hv]; rfl
    rw [hb] at hg
    simp only [Option.some.injEq] at hg
    subst hg
    exact .inr ⟨b, cap, cur, hv, hl, r⟩

/-- What holds behind the store of a row that has grown. -/
structure Grown (W w' : World) (lo g k : Nat) (v y' : Value) (vals : List Value) (L : List (List Int)) (x : Int) : Prop where
  sr : SR (w'.setCell ⟨g, k, none⟩ y') lo v (vals.set k y') (L.set k (L.getD k [] ++ [x]))
  below : Below lo W (w'.setCell ⟨g, k, none⟩ y')
  cell : w'.cell? ⟨g, k, none⟩ = some (vals.getD k (.bool false))
  froz : w'.frozen? ⟨g, k, none⟩ = false
  size : W.heap.size < w'.heap.size

theorem SR.grow {W W1 w' : World} {lo g c k : Nat} {v y' : Value} {vals : List Value} {L : List (List Int)} {x : Int} (h : SR W lo v vals L) (hv : v = .slice (some ⟨g, 0, none⟩) L.length c) (hk : k < L.length) (hlo : lo ≤ W.heap.size) (b : Below W.heap.size W W1) (hs1 : W.heap.size < W1.heap.size)
    (Lo Hi : Nat → Nat) (he : ∀ j, j < L.length → sl.Own W (Lo j) (Hi j) (vals.getD j (.bool false)) (L.getD j []) ∧ lo ≤ Lo j ∧ (∀ g, v.ownBlock = some g → g < Lo j ∨ Hi j ≤ g) ∧ ∀ i, i < j → Hi i ≤ Lo j ∨ Hi j ≤ Lo i)
    (hr : w'.ownsRow (Lo k) 2 1 y' ((L.getD k []).length + 1) ((L.getD k [] ++ [x]).map (Value.int .i64))) (hg : W1.grownBy w' (vals.getD k (.bool false)).ownBlock) (h5 : y'.ownBlock = (vals.getD k (.bool false)).ownBlock ∨ y'.ownBlock = some W1.heap.size) : Grown W w' lo g k v y' vals L x := by
  subst hv
  have hown : (Value.slice (some ⟨g, 0, none⟩) L.length c).ownBlock = some g := rfl
  have hrow := h.row
  have hgl := h.row.lt g hown
  obtain ⟨k1, k2, k3, k4⟩ := he k hk
  -- the row's block, if there is one, is not the header's
  have hne : ∀ q, (vals.getD k (.bool false)).ownBlock = some q → Lo k ≤ q ∧ q < Hi k ∧ q ≠ g := by
    intro q hq
    have h1 := (k1.1.lt q hq).1
    have h2 := k1.2.1 q hq
    rcases k3 g hown with h3 | h3
    · exact ⟨h1, h2, by omega⟩
    · exact ⟨h1, h2, by omega⟩
  have hrow1 := (World.ownsRow.kept hrow (grN b) (by right; rw [hown]; simp))
  have hrow2 : w'.ownsRow lo 22 1 (.slice (some ⟨g, 0, none⟩) L.length c) L.length vals := World.ownsRow.kept hrow1 hg (by
    right; rw [hown]; intro e
    exact (hne g e.symm).2.2 rfl)
  have st := hrow2.stored k y'
  have hcell : w'.cell? ⟨g, k, none⟩ = some (vals.getD k (.bool false)) := by
    have h1 := hrow2.cells hown k (vals.getD k (.bool false)) (by
      have hj' : k < vals.length := by rw [h.len]; exact hk
      simp [List.getD, List.getElem?_eq_getElem hj'])
    rw [Addr.add_lit] at h1
    simpa using h1
  -- the other rows in the world of the append
  have hoth : ∀ j, j < L.length → j ≠ k → sl.Own w' (Lo j) (Hi j) (vals.getD j (.bool false)) (L.getD j []) := by
    intro j hj hjk
    obtain ⟨a1, a2, a3, a4⟩ := he j hj
    refine own_by (a1.chg (Chg.ofBelow (lo := 0) b) (.inr (.inr (Nat.zero_le _)))) hg (fun q hq => ?_)
    have hq' := hne q hq
    rcases Nat.lt_or_ge j k with hlt | hge
    · have := k4 j hlt; omega
    · have := a4 k (by omega); omega
  have hsz : W1.heap.size ≤ w'.heap.size := hg.size
  have hchg : ∀ q, q < lo → w'.heap[q]? = W.heap[q]? := by
    intro q hq
    rw [hg.block q (by omega) (by intro e; have := hne q e.symm; omega)]
    exact b.block q (by omega)
  have hlen1 : (L.getD k [] ++ [x]).length = (L.getD k []).length + 1 := by simp
  have hsz2 : (w'.setCell ⟨g, k, none⟩ y').heap.size = w'.heap.size := by simp
  have hbel : Below lo W (w'.setCell ⟨g, k, none⟩ y') := by
    refine ⟨st.2.os.trans (hg.os.trans b.os), st.2.tape.trans (hg.tape.trans b.tape), st.2.output.trans (hg.output.trans b.output), by omega, fun q hq => ?_⟩
    rw [st.2.block q (by omega) (by intro e; cases e; omega)]
    exact hchg q hq
  have hfro : w'.frozen? ⟨g, k, none⟩ = false := hrow2.frozenAt k
  refine ⟨?_, hbel, hcell, hfro, by omega⟩
  have hvl : (vals.set k y').length = (L.set k (L.getD k [] ++ [x])).length := by simp [h.len]
  have hLl : (L.set k (L.getD k [] ++ [x])).length = L.length := by simp
  have hrow3 := st.1
  rcases h5 with h5 | h5
  · refine ⟨hvl, by rw [hLl]; exact hrow3, Lo, Hi, fun j hj => ?_⟩
    rw [hLl] at hj
    obtain ⟨a1, a2, a3, a4⟩ := he j hj
    by_cases hjk : j = k
    · subst hjk
      have e1 : (vals.set j y').getD j (.bool false) = y' := by simp [List.getD, h.len, hj]
      have e2 : (L.set j (L.getD j [] ++ [x])).getD j [] = L.getD j [] ++ [x] := by simp [List.getD, hj]
      rw [e1, e2]
      refine ⟨br.own_other ⟨by rw [hlen1]; exact hr, fun q hq => (hne q (by rw [← h5]; exact hq)).2.1, by have := a1.2.2; omega⟩ g j y' (by have := a3 g hown; omega), a2, a3, a4⟩
    · have e1 : (vals.set k y').getD j (.bool false) = vals.getD j (.bool false) := by simp [List.getD, Ne.symm hjk]
      have e2 : (L.set k (L.getD k [] ++ [x])).getD j [] = L.getD j [] := by simp [List.getD, Ne.symm hjk]
      rw [e1, e2]
      exact ⟨br.own_other (hoth j hj hjk) g k y' (by have := a3 g hown; omega), a2, a3, a4⟩
  · refine ⟨hvl, by rw [hLl]; exact hrow3, fun j => if j = k then W1.heap.size else Lo j, fun j => if j = k then w'.heap.size else Hi j, fun j hj => ?_⟩
    rw [hLl] at hj
    obtain ⟨a1, a2, a3, a4⟩ := he j hj
    have hh := a1.2.2
    by_cases hjk : j = k
    · subst hjk
      have e1 : (vals.set j y').getD j (.bool false) = y' := by simp [List.getD, h.len, hj]
      have e2 : (L.set j (L.getD j [] ++ [x])).getD j [] = L.getD j [] ++ [x] := by simp [List.getD, hj]
      rw [e1, e2]
      simp only [if_true]
      have o1 : sl.Own w' W1.heap.size w'.heap.size y' (L.getD j [] ++ [x]) := sl.Own.mk' (by rw [hlen1]; exact row_up hr h5 (Nat.le_refl _)) |> fun o => o
      refine ⟨br.own_other o1 g j y' (.inl (by omega)), by omega, fun q hq => .inl (by rw [hown] at hq; simp only [Option.some.injEq] at hq; omega), fun i hi => ?_⟩
      rw [if_neg (by omega), if_neg (by omega)]
      have := (he i (by omega)).1.2.2
      omega
    · have e1 : (vals.set k y').getD j (.bool false) = vals.getD j (.bool false) := by simp [List.getD, Ne.symm hjk]
      have e2 : (L.set k (L.getD k [] ++ [x])).getD j [] = L.getD j [] := by simp [List.getD, Ne.symm hjk]
      rw [e1, e2]
      simp only [if_neg hjk]
      refine ⟨br.own_other (hoth j hj hjk) g k y' (by have := a3 g hown; omega), a2, a3, fun i hi => ?_⟩
      by_cases hik : i = k
      · rw [if_pos hik, if_pos hik]; omega
      · rw [if_neg hik, if_neg hik]; exact a4 i hi

/-- The run of append(rows[k], x). -/
theorem run_growR (o : Oper) (W : World) (lo g c k : Nat) (v : Value) (vals : List Value) (L : List (List Int)) (x : Int) (h : SR W lo v vals L) (hv : v = .slice (some ⟨g, 0, none⟩) L.length c) (hk : k < L.length) (hlo : lo ≤ W.heap.size) (hn : (L.getD k []).length ≤ 1048576) (hp : 0 < (L.getD k []).length) :
    ∃ y' w', (Builtin.append_ #[22, 22] o.type #[vals.getD k (.bool false), .slice (some ⟨W.heap.size, 0, none⟩) 1 1]).run Try.prog (W.alloc (.cells #[.int .i64 x] 2)) = .ok y' w' ∧ (∃ ao c', y' = .slice ao ((L.getD k []).length + 1) c') ∧ Grown W w' lo g k v y' vals L x := by
  obtain ⟨i0, hi', hz0, hz1, hz2⟩ := info_parts info64
  obtain ⟨Lo, Hi, he⟩ := h.els
  obtain ⟨k1, k2, k3, k4⟩ := he k hk
  have b : Below W.heap.size W (W.alloc (.cells #[.int .i64 x] 2)) := (Below.refl _ _).alloc (Nat.le_refl _) _
  have o1 := k1.1.alloc (.cells #[.int .i64 x] 2)
  have hlk : Lo k ≤ W.heap.size := by
    rcases k1.1.2 with ⟨_, h0⟩ | ⟨q, _, _, _, hq1, hq2, _⟩
    · omega
    · have := (Array.getElem?_eq_some_iff.1 hq2).1; omega
  obtain ⟨y', w', hr, h2, h3, h4, h5⟩ := run_append_own_at (P := Try.prog) (W.alloc (.cells #[.int .i64 x] 2)) (Lo k) 22 o.type 2 i0 (.int .i64 0) 1 8 Try.underlying22 hi' hz0 hz1 hz2 rfl (by decide) (vals.getD k (.bool false)) (L.getD k []).length ((L.getD k []).map (Value.int .i64)) o1 ⟨W.heap.size, 0, none⟩ 1 1 [.int .i64 x] (by simp)
    (fun j u hj => by
      match j, hj with
      | 0, hj =>
        simp only [List.getElem?_cons_zero, Option.some.injEq] at hj
        subst hj
        rw [Addr.add_lit, World.cell?_alloc_at _ _ _ _ rfl]; rfl)
    (fun u hu => by simp at hu; subst hu; rfl) (by unfold maxLen; omega) (by omega) (by simp; omega)
  have hsl : ∃ ao c', y' = .slice ao ((L.getD k []).length + 1) c' := by
    rcases h2.2 with ⟨h0, h1⟩ | ⟨q, c', cur, h0, _⟩
    · omega
    · exact ⟨_, _, h0⟩
  exact ⟨y', w', hr, hsl, h.grow hv hk hlo b (by simp) Lo Hi he (by simpa using h2) h3 h5⟩
/-- The step of append(rows[k], x) in a region that draws its order. -/
theorem step_growR {ops : Array Oper} {o : Oper} {a : Act} {K : Act → World → Prop} {Q : Exit → Act → World → Prop} {E : Prop} {W : World} (hgd : o.guard = none) (s z : Operand)
    (hop : o.op = .call { callee := .builtin .append, args := #[s, z], argTypes := #[22, 22] })
    (lo g c k : Nat) (v y : Value) (vals : List Value) (L : List (List Int)) (x : Int) (h : SR W lo v vals L) (hv : v = .slice (some ⟨g, 0, none⟩) L.length c) (hk : k < L.length) (hlo : lo ≤ W.heap.size) (hn : (L.getD k []).length ≤ 1048576) (hp : 0 < (L.getD k []).length)
    (hy : y = vals.getD k (.bool false)) (hs : a.eval s = y) (hx : a.eval z = .slice (some ⟨W.heap.size, 0, none⟩) 1 1)
    (hK : ∀ y' w', (∃ ao c', y' = .slice ao ((L.getD k []).length + 1) c') → Grown W w' lo g k v y' vals L x → K (a.put o.dst y') w') : if Region.wanted o (yielded ops a.tmps) = true then Oper.wp Try.prog o a (W.alloc (.cells #[.int .i64 x] 2)) K Q else E := by
  have hw : Region.wanted o (yielded ops a.tmps) = true := by simp [Region.wanted, hgd]
  rw [if_pos hw]
  subst hy
  obtain ⟨y', w', hr, hsl, G⟩ := run_growR o W lo g c k v vals L x h hv hk hlo hn hp
  unfold Oper.wp execOp
  simp only [hop, resolve, invoke, builtin, Sem.run_bind, Sem.run_pure, Result.andThen_ok, List.map_toArray, List.map_cons, List.map_nil, hs, hx, hr]
  exact hK y' w' hsl G
end Go.Proofs.Ytiacfejileeieaa.wk
