/-
  What each stitch of a row does: a slice of pairs of lists that a call builds by append.
-/
import Derived.Test.YtglkchcfggclaaaDoorSt2
import Derived.Test.YtglkchcfggclaaaDoorSr
namespace Go.Proofs.YtglkchcfggclaaaDoor.kn
open Go.RowKit Go.Proofs.YtglkchcfggclaaaDoor.sl Go.Proofs.YtglkchcfggclaaaDoor.br Go.Proofs.YtglkchcfggclaaaDoor.st
set_option linter.unusedVariables false

structure Kn where
  tv : Value
  mv : Value
  ts : List Int
  ms : List Int
def flatK (L : List Kn) : List Value := L.flatMap fun k => [k.tv, k.mv]
theorem flatK_snoc (L : List Kn) (k : Kn) : flatK (L ++ [k]) = flatK L ++ [k.tv, k.mv] := by simp [flatK]
theorem flatK_len (L : List Kn) : (flatK L).length = L.length * 2 := by
  induction L with
  | nil => rfl
  | cons k L ih => simp only [flatK, List.flatMap_cons, List.length_append, List.length_cons, List.length_nil] at ih ⊢; omega
theorem flatK_at : ∀ (L : List Kn) (j : Nat) (k : Kn), L[j]? = some k → (flatK L)[j * 2]? = some k.tv ∧ (flatK L)[j * 2 + 1]? = some k.mv
  | [], j, k, h => by simp at h
  | x :: L, 0, k, h => by
    simp only [List.getElem?_cons_zero, Option.some.injEq] at h
    subst h
    exact ⟨rfl, rfl⟩
  | x :: L, j + 1, k, h => by
    have := flatK_at L j k (by simpa using h)
    rw [show (j + 1) * 2 = j * 2 + 1 + 1 from by omega]
    exact this

structure KR (W : World) (lo B : Nat) (v : Value) (L : List Kn) : Prop where
  bl : B ≤ lo
  row : W.ownsRow lo 74 2 v L.length (flatK L)
  ts : ∀ k ∈ L, Ints W B k.tv k.ts
  ms : ∀ k ∈ L, ∃ Lo Hi : Nat, Own W Lo Hi k.mv k.ms ∧ lo ≤ Lo ∧ ∀ g, v.ownBlock = some g → g < Lo ∨ Hi ≤ g
theorem KR.below {W W' : World} {lo B : Nat} {v : Value} {L : List Kn} (h : KR W lo B v L) (b : Below W.heap.size W W') : KR W' lo B v L := by
  refine ⟨h.bl, World.ownsRow.kept h.row (wk.grN b) (by cases v.ownBlock <;> simp), fun k hk => (h.ts k hk).chg (Chg.ofBelow (lo := 0) b) (.inr (Nat.zero_le _)), fun k hk => ?_⟩
  obtain ⟨Lo, Hi, a1, a2, a3⟩ := h.ms k hk
  exact ⟨Lo, Hi, a1.chg (Chg.ofBelow (lo := 0) b) (.inr (.inr (Nat.zero_le _))), a2, a3⟩
theorem KR.val {W : World} {lo B : Nat} {v : Value} {L : List Kn} (h : KR W lo B v L) : ∃ ao cap, v = .slice ao L.length cap := by
  rcases h.row.2 with ⟨h1, h2⟩ | ⟨g, c, cur, h1, _⟩
  · exact ⟨none, 0, by rw [h1, h2]⟩
  · exact ⟨_, c, h1⟩
/-- One pair, read. -/
theorem KR.at {W : World} {lo B : Nat} {g n cap : Nat} {L : List Kn} (h : KR W lo B (.slice (some ⟨g, 0, none⟩) n cap) L) (j : Nat) (k : Kn) (hj : L[j]? = some k) :
    W.cell? ⟨g, j * 2, none⟩ = some k.tv ∧ W.cell? ⟨g, j * 2 + 1, none⟩ = some k.mv := by
  have hf := flatK_at L j k hj
  have h1 := h.row.cells (show (Value.slice (some ⟨g, 0, none⟩) n cap).ownBlock = some g from rfl) (j * 2) k.tv hf.1
  have h2 := h.row.cells (show (Value.slice (some ⟨g, 0, none⟩) n cap).ownBlock = some g from rfl) (j * 2 + 1) k.mv hf.2
  rw [Addr.add_lit] at h1 h2
  exact ⟨by simpa using h1, by simpa using h2⟩
theorem KR.addr {W : World} {lo B : Nat} {v : Value} {L : List Kn} (h : KR W lo B v L) (hp : 0 < L.length) : ∃ g cap, v = .slice (some ⟨g, 0, none⟩) L.length cap ∧ g < W.heap.size := by
  rcases h.row.2 with ⟨h1, h2⟩ | ⟨g, c, cur, h1, _⟩
  · omega
  · exact ⟨g, c, h1, (h.row.lt g (by rw [h1]; rfl)).2⟩
theorem KR.made {W : World} {lo B : Nat} {v : Value} (h : W.ownsRow lo 74 2 v 0 []) (hB : B ≤ lo) : KR W lo B v [] :=
  ⟨hB, h, fun k hk => by simp at hk, fun k hk => by simp at hk⟩

theorem infoK : (Tryd.prog.info? 74).map (fun i => (i.zero, i.size, i.bytes)) = some (some (.agg #[.slice none 0 0, .slice none 0 0]), 2, 48) := by kernel_rfl

/-- append(row, pair). -/
theorem wp_appK {ops : Array Oper} {rest : List Oper} {o : Oper} {a : Act} {Q : Exit → Act → World → Prop} {W1 : World} (hgd : o.guard = none) (s x : Operand)
    (hop : o.op = .call { callee := .builtin .append, args := #[s, x], argTypes := #[57, 57] })
    (lo B : Nat) (v : Value) (L : List Kn) (k : Kn) (h : KR W1 lo B v L) (ht : Ints W1 B k.tv k.ts) (Lo Hi : Nat) (hm : Own W1 Lo Hi k.mv k.ms) (hlo : lo ≤ Lo) (hv : ∀ g, v.ownBlock = some g → g < Lo ∨ Hi ≤ g)
    (hy1 : k.tv.oneCell' = true) (hy2 : k.mv.oneCell' = true) (hs : a.eval s = v) (hx : a.eval x = .slice (some ⟨W1.heap.size, 0, none⟩) 1 1) (hl1 : lo ≤ W1.heap.size) (hn : L.length ≤ 1048576)
    (hK : ∀ v' w', KR w' lo B v' (L ++ [k]) → Below lo W1 w' → wpList Tryd.prog ops Q rest (a.put o.dst v') w') : wpList Tryd.prog ops Q (o :: rest) a (W1.alloc (.cells #[k.tv, k.mv] 74)) := by
  obtain ⟨i0, hi', hz0, hz1, hz2⟩ := info_parts infoK
  have b2 : Below W1.heap.size W1 (W1.alloc (.cells #[k.tv, k.mv] 74)) := (Below.refl _ _).alloc (Nat.le_refl _) _
  have h2 := h.below b2
  obtain ⟨v', w', hr, e2, e3, e4, e5⟩ := run_append_own_at (P := Tryd.prog) (W1.alloc (.cells #[k.tv, k.mv] 74)) lo 57 o.type 74 i0 (.agg #[.slice none 0 0, .slice none 0 0]) 2 48 Tryd.underlying57 hi' hz0 hz1 hz2 rfl (by decide) v L.length (flatK L) h2.row ⟨W1.heap.size, 0, none⟩ 1 1 [k.tv, k.mv] (by simp)
    (fun j u hj => by
      match j, hj with
      | 0, hj =>
        simp only [List.getElem?_cons_zero, Option.some.injEq] at hj
        subst hj
        rw [Addr.add_lit, World.cell?_alloc_at _ _ _ _ rfl]; rfl
      | 1, hj =>
        simp only [List.getElem?_cons_succ, List.getElem?_cons_zero, Option.some.injEq] at hj
        subst hj
        rw [Addr.add_lit, World.cell?_alloc_at _ _ _ _ rfl]; rfl)
    (fun u hu => by
      simp at hu
      rcases hu with e | e
      · rw [e]; exact hy1
      · rw [e]; exact hy2) (by unfold maxLen; omega) (by omega) (by simp; omega)
  have hlt : ∀ g, v.ownBlock = some g → lo ≤ g ∧ g < W1.heap.size := fun g hg => h.row.lt g hg
  have hblk : ∀ q, q < W1.heap.size → some q ≠ v.ownBlock → w'.heap[q]? = W1.heap[q]? := fun q hq hne => (e3.block q (Nat.lt_of_lt_of_le hq b2.size) hne).trans (b2.block q hq)
  have hints : ∀ (u : Value) (xs : List Int), Ints W1 B u xs → Ints w' B u xs := fun u xs hi => by
    have hsz := e3.size
    refine hi.chg (lo := lo) (hi := W1.heap.size) ⟨e3.os.trans b2.os, e3.tape.trans b2.tape, e3.output.trans b2.output, Nat.le_trans b2.size hsz, fun q hq hne => hblk q hq (fun e => hne (hlt q e.symm))⟩ (.inl h.bl)
  have hown : ∀ (u : Value) (xs : List Int) (l r : Nat), Own W1 l r u xs → (∀ g, v.ownBlock = some g → g < l ∨ r ≤ g) → Own w' l r u xs := fun u xs l r ho hg =>
    wk.own_by (ho.chg (Chg.ofBelow (lo := 0) b2) (.inr (.inr (Nat.zero_le _)))) e3 hg
  have hnew : ∀ (l r : Nat), r ≤ W1.heap.size → (∀ g, v.ownBlock = some g → g < l ∨ r ≤ g) → ∀ g, v'.ownBlock = some g → g < l ∨ r ≤ g := fun l r hr hg g e => by
    rcases e5 with e5 | e5
    · exact hg g (by rw [← e5]; exact e)
    · rw [e5] at e
      simp only [Option.some.injEq] at e
      have := b2.size
      omega
  refine wpList_plain hgd fun K hKK => ?_
  unfold Oper.wp execOp
  simp only [hop, resolve, invoke, builtin, Sem.run_bind, Sem.run_pure, Result.andThen_ok, List.map_toArray, List.map_cons, List.map_nil, hs, hx, hr]
  refine hKK _ _ (hK v' w' ⟨h.bl, by rw [flatK_snoc, List.length_append]; exact e2, fun q hq => ?_, fun q hq => ?_⟩ ⟨e3.os.trans b2.os, e3.tape.trans b2.tape, e3.output.trans b2.output, Nat.le_trans b2.size e3.size, fun q hq => ?_⟩)
  · rcases List.mem_append.1 hq with hq | hq
    · exact hints _ _ (h.ts q hq)
    · simp at hq; subst hq; exact hints _ _ ht
  · rcases List.mem_append.1 hq with hq | hq
    · obtain ⟨l, r, a1, a2, a3⟩ := h.ms q hq
      exact ⟨l, r, hown _ _ _ _ a1 a3, a2, hnew l r a1.2.2 a3⟩
    · simp at hq
      subst hq
      exact ⟨Lo, Hi, hown _ _ _ _ hm hv, hlo, hnew Lo Hi hm.2.2 hv⟩
  · exact hblk q (by omega) (fun e => by have := (hlt q e.symm).1; omega)

/-- The pairs of the first i stitches. -/
structure KL (ss ks : List Int) (i : Nat) (L : List Kn) : Prop where
  len : L.length = i
  at_ : ∀ j k, L[j]? = some k → k.ts = tkn ss ks j ∧ k.ms = mdn ss ks j
theorem KL.zero (ss ks : List Int) : KL ss ks 0 [] := ⟨rfl, fun j k h => by simp at h⟩
theorem KL.succ {ss ks : List Int} {i : Nat} {L : List Kn} (h : KL ss ks i L) (tv mv : Value) : KL ss ks (i + 1) (L ++ [⟨tv, mv, tkn ss ks i, mdn ss ks i⟩]) := by
  refine ⟨by simp [h.len], fun j k hj => ?_⟩
  by_cases hl : j < L.length
  · rw [List.getElem?_append_left hl] at hj
    exact h.at_ j k hj
  · rw [List.getElem?_append_right (by omega)] at hj
    have : j - L.length = 0 := by
      rcases Nat.eq_zero_or_pos (j - L.length) with e | e
      · exact e
      · rw [List.getElem?_eq_none (by simp; omega)] at hj; cases hj
    rw [this] at hj
    simp only [List.getElem?_cons_zero, Option.some.injEq] at hj
    subst hj
    rw [show j = i from by have := h.len; omega]
    exact ⟨rfl, rfl⟩
end Go.Proofs.YtglkchcfggclaaaDoor.kn
