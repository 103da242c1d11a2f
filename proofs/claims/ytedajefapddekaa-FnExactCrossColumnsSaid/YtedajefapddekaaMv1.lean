/-
  Slices of Move: what a call reads (Ops), what it owns (OOwn); an argument opened.
-/
import Derived.Test.YtedajefapddekaaSa
import Derived.Test.YtedajefapddekaaSs
namespace Go.Proofs.Ytedajefapddekaa.mv
open Go.RowKit Go.Proofs.Ytedajefapddekaa.sl
set_option linter.unusedVariables false

structure V where
  a0 : Int
  a1 : Int
def V.val (x : V) : Value := .agg #[.int .i64 x.a0, .int .i64 x.a1]
def oz : V := ⟨0, 0⟩
structure At (w : World) (p o : Nat) (x : V) : Prop where
  lt : p < w.heap.size
  c0 : w.cell? ⟨p, o, none⟩ = some (.int .i64 x.a0)
  c1 : w.cell? ⟨p, o + 1, none⟩ = some (.int .i64 x.a1)
theorem At.blk {w w' : World} {p o : Nat} {x : V} (h : At w p o x) (hs : w.heap.size ≤ w'.heap.size) (hb : w'.heap[p]? = w.heap[p]?) : At w' p o x := by
  have e : ∀ q, w'.cell? ⟨p, q, none⟩ = w.cell? ⟨p, q, none⟩ := fun q => World.cell?_of_block (w := w) (w' := w') (a := ⟨p, q, none⟩) hb
  exact ⟨Nat.lt_of_lt_of_le h.lt hs, (e _).trans h.c0, (e _).trans h.c1⟩
theorem At.below {w w' : World} {p o : Nat} {x : V} (h : At w p o x) (b : Below w.heap.size w w') : At w' p o x := h.blk b.size (b.block p h.lt)
theorem at_new (x : V) (t : TypeId) (w : World) : At (w.alloc (.cells #[.int .i64 x.a0, .int .i64 x.a1] t)) w.heap.size 0 x :=
  ⟨by simp, World.cell?_alloc_at _ _ _ _ rfl, World.cell?_alloc_at _ _ _ _ rfl⟩

/-- The value reads as a list; its block lies below B. -/
def Ops (w : World) (B : Nat) (v : Value) (xs : List V) : Prop :=
  (xs = [] ∧ ∃ ao cap, v = .slice ao 0 cap ∧ (ao = none → cap = 0)) ∨
  (0 < xs.length ∧ ∃ (b off cap : Nat), v = .slice (some ⟨b, off, none⟩) xs.length cap ∧ b < B ∧ ∀ j, j < xs.length → At w b (off + j * 2) (xs.getD j oz))
theorem ops_val {w : World} {B : Nat} {v : Value} {xs : List V} (h : Ops w B v xs) : ∃ ao cap, v = .slice ao xs.length cap := by
  rcases h with ⟨rfl, ao, cap, rfl, hao⟩ | ⟨hp, b, off, cap, rfl, hb, hc⟩ <;> exact ⟨_, _, rfl⟩
theorem Ops.chg {w w' : World} {B lo hi : Nat} {v : Value} {xs : List V} (h : Ops w B v xs) (c : Chg lo hi w w') (h1 : B ≤ lo ∨ hi ≤ lo) : Ops w' B v xs := by
  rcases h with h | ⟨hp, b, off, cap, hv, hb, hc⟩
  · exact .inl h
  · exact .inr ⟨hp, b, off, cap, hv, hb, fun j hj => (hc j hj).blk c.size (c.block b (hc j hj).lt (by omega))⟩
theorem Ops.below {w w' : World} {B : Nat} {v : Value} {xs : List V} (h : Ops w B v xs) (b : Below w.heap.size w w') : Ops w' B v xs :=
  h.chg (Chg.ofBelow (lo := 0) b) (.inr (Nat.zero_le _))
theorem Ops.al {w : World} {B : Nat} {v : Value} {xs : List V} (h : Ops w B v xs) (o : Obj) : Ops (w.alloc o) B v xs :=
  h.below ((Below.refl w.heap.size w).alloc (Nat.le_refl _) o)
theorem Ops.mono {w : World} {B B' : Nat} {v : Value} {xs : List V} (h : Ops w B v xs) (hB : B ≤ B') : Ops w B' v xs := by
  rcases h with h | ⟨hp, b, off, cap, hv, hb, hc⟩
  · exact .inl h
  · exact .inr ⟨hp, b, off, cap, hv, by omega, hc⟩

/-- The value is a slice in a block of the call's own. -/
def OOwn (w : World) (lo hi : Nat) (v : Value) (xs : List V) : Prop :=
  hi ≤ w.heap.size ∧
  ((xs = [] ∧ ∃ ao cap, v = .slice ao 0 cap ∧ (ao = none → cap = 0)) ∨
   (0 < xs.length ∧ ∃ (g cap : Nat), v = .slice (some ⟨g, 0, none⟩) xs.length cap ∧ lo ≤ g ∧ g < hi ∧ (∀ o, o < xs.length * 2 → w.frozen? ⟨g, o, none⟩ = false) ∧ ∀ j, j < xs.length → At w g (0 + j * 2) (xs.getD j oz)))
theorem oown_val {w : World} {lo hi : Nat} {v : Value} {xs : List V} (h : OOwn w lo hi v xs) : ∃ ao cap, v = .slice ao xs.length cap := by
  rcases h.2 with ⟨rfl, ao, cap, rfl, hao⟩ | ⟨hp, g, cap, rfl, _⟩ <;> exact ⟨_, _, rfl⟩
theorem OOwn.ops {w : World} {lo hi : Nat} {v : Value} {xs : List V} (h : OOwn w lo hi v xs) : Ops w hi v xs := by
  rcases h.2 with h | ⟨hp, g, cap, hv, h1, h2, h3, h4⟩
  · exact .inl h
  · exact .inr ⟨hp, g, 0, cap, hv, h2, h4⟩
theorem OOwn.chg {w w' : World} {lo hi l h : Nat} {v : Value} {xs : List V} (o : OOwn w lo hi v xs) (c : Chg l h w w') (h1 : hi ≤ l ∨ h ≤ lo ∨ h ≤ l) : OOwn w' lo hi v xs := by
  obtain ⟨hh, hr⟩ := o
  refine ⟨Nat.le_trans hh c.size, ?_⟩
  rcases hr with hr | ⟨hp, g, cap, hv, e1, e2, e3, e4⟩
  · exact .inl hr
  · have hb := c.block g (by omega) (by omega)
    refine .inr ⟨hp, g, cap, hv, e1, e2, fun o ho => ?_, fun j hj => (e4 j hj).blk c.size hb⟩
    rw [World.frozen?_of_block (w := w) (w' := w') (a := ⟨g, o, none⟩) hb]
    exact e3 o ho

/-- How many there may be. -/
structure Small (xs : List V) : Prop where
  len : xs.length ≤ 1048576
theorem szL_pos {n : Nat} {left : Int} (h0 : 0 ≤ left) : br.szL left n = -1 ∨ 0 ≤ br.szL left n := by unfold br.szL; split <;> omega
theorem szL_bound {n : Nat} {left : Int} (h0 : 0 ≤ left) (h : 0 ≤ br.szL left n) : br.szL left n ≤ left ∧ (n : Int) ≤ left := by unfold br.szL at h ⊢; split at h <;> (split <;> omega)
theorem small_of {left : Int} {xs : List V} (h0 : 0 ≤ left) (h1 : left ≤ 1048576) (h : 0 ≤ br.szL left xs.length) : Small xs := ⟨by have := szL_bound h0 h; omega⟩

/-- What a law is told of an argument: its numbers fit, too. -/
def V.wf (x : V) : Prop := (Lit.int .i64 x.a0).wf = true ∧ (Lit.int .i64 x.a1).wf = true
structure OpsIn (w : World) (v : Value) (xs : List V) : Prop where
  rd : Ops w w.heap.size v xs
  len : xs.length ≤ 9223372036854775807
  wf : ∀ j, j < xs.length → (xs.getD j oz).wf

section
open Go.Joins Go.ChangeShapes Go.WideShapes Go.Deep Go.WideElems
variable {H : Type} {enc : TypeId × Value → H} {P : Program} {w : World} {base : Nat} {held : Bool}
theorem op_list {spare : Nat → Bool} {t : TypeId} {f0 f1 : Field} {fuel : Nat} {cs : List Value} {x : DataW H × List MemPlace} (hs : P.underlying t = some (.struct #[f0, f1]))
    (hone : oneCellFields P #[f0, f1] = true) (hC : P.cellsOf t = 2)
    (hi : P.underlying f0.type = some (.int .i64) ∧ P.underlying f1.type = some (.int .i64))
    (h : DataW.trod enc P w base spare held fuel t cs = some x) :
    ∃ y : V, cs = [.int .i64 y.a0, .int .i64 y.a1] ∧ y.wf := by
  obtain ⟨y0, y1, n, hx, hl, h0, h1⟩ := trod_struct2 hs h
  rw [hC] at hl
  obtain ⟨c0, c1, rfl⟩ : ∃ c0 c1, cs = [c0, c1] := by
    match cs, hl with
    | [c0, c1], _ => exact ⟨c0, c1, rfl⟩
  obtain ⟨i0, i1⟩ := hi
  obtain ⟨o0, k0⟩ := hone_of hone 0 f0 rfl
  simp [o0, k0] at h0
  obtain ⟨n0, e0, _, wf0⟩ := DataW.trod_int i0 h0
  obtain ⟨o1, k1⟩ := hone_of hone 1 f1 rfl
  simp [o1, k1] at h1
  obtain ⟨n1, e1, _, wf1⟩ := DataW.trod_int i1 h1
  simp at e0 e1
  subst e0 e1
  exact ⟨⟨n0, n1⟩, rfl, wf0, wf1⟩

theorem ops_open {s t : TypeId} {f0 f1 : Field} {fuel : Nat} {v : Value} {x : DataW H × List MemPlace} (hsl : P.underlying s = some (.slice t)) (hs : P.underlying t = some (.struct #[f0, f1]))
    (hone : oneCellFields P #[f0, f1] = true) (hC : P.cellsOf t = 2)
    (hi : P.underlying f0.type = some (.int .i64) ∧ P.underlying f1.type = some (.int .i64))
    (h : DataW.trod enc P w base (fun _ => true) held fuel s [v] = some x) : ∃ xs, OpsIn w v xs := by
  rcases open_slice hsl h with ⟨hcs, _⟩ | ⟨a, len, cap, m, n, D, Pl, hcs, hb, hl, hm, hmm, _, hr⟩
  · simp only [List.cons.injEq, and_true] at hcs
    subst hcs
    exact ⟨[], .inl ⟨rfl, _, _, rfl, fun _ => rfl⟩, by simp, fun j hj => by simp at hj⟩
  · simp only [List.cons.injEq, and_true] at hcs
    subst hcs
    simp only [if_true] at hmm
    subst hmm
    unfold maxLen at hm
    have hy : ∀ i, ∃ y : V, i < m → w.cells? base (a.add (i * P.cellsOf t)) (P.cellsOf t) = some [.int .i64 y.a0, .int .i64 y.a1] ∧ y.wf := by
      intro i
      by_cases him : i < m
      · obtain ⟨cs', h1, h2⟩ := hr i him
        obtain ⟨y, hy, hw⟩ := op_list hs hone hC hi h2
        exact ⟨y, fun _ => ⟨by rw [h1, hy], hw⟩⟩
      · exact ⟨oz, fun h => absurd h him⟩
    obtain ⟨Y, hY⟩ := Classical.axiomOfChoice hy
    have hlen : ((List.range len).map Y).length = len := by simp
    have hat : ∀ j, j < len → ((List.range len).map Y).getD j oz = Y j := fun j hj => by simp [List.getD, hj]
    refine ⟨(List.range len).map Y, ?_, by rw [hlen]; omega, fun j hj => by rw [hlen] at hj; rw [hat j hj]; exact (hY j (by omega)).2⟩
    by_cases h0 : len = 0
    · subst h0; exact .inl ⟨rfl, _, _, rfl, fun h => by cases h⟩
    · obtain ⟨b, off, spot⟩ := a
      have hall : ∀ j, j < len → ∀ i u, [Value.int .i64 (Y j).a0, .int .i64 (Y j).a1][i]? = some u → w.cell? ((Addr.mk b off spot).add (j * 2 + i)) = some u := by
        intro j hj i u hu
        have h1 := (hY j (by omega)).1
        rw [hC] at h1
        have hi8 : i < 2 := by
          have := (List.getElem?_eq_some_iff.1 hu).1
          simpa using this
        have h2 := (World.cells?_some h1)
        have h3 := h2.2.2 i hi8
        rw [hu] at h3
        rw [← Addr.add_add]; exact h3
      have hspot : spot = none := by
        have := World.cell?_spot (hall 0 (by omega) 0 _ rfl)
        simpa [Addr.add] using this
      subst hspot
      refine .inr ⟨by rw [hlen]; omega, b, off, m, by rw [hlen], ?_, fun j hj => ?_⟩
      · have := World.block_lt_of_cell? w _ (hall 0 (by omega) 0 _ rfl)
        simpa [Addr.add] using this
      · rw [hlen] at hj
        rw [hat j hj]
        have hlt := World.block_lt_of_cell? w _ (hall j hj 0 _ rfl)
        have hc := hall j hj
        simp only [Addr.add_lit, ← Nat.add_assoc] at hc
        exact ⟨by rw [Addr.add_lit] at hlt; exact hlt, hc 0 _ rfl, hc 1 _ rfl⟩
end
end Go.Proofs.Ytedajefapddekaa.mv
