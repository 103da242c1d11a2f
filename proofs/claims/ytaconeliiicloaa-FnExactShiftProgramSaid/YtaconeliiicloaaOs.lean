/-
  Slices of operations: what a call reads (Ops), what it owns (OOwn); an argument opened to its operations.
-/
import Derived.Test.YtaconeliiicloaaVv
import Derived.Test.YtaconeliiicloaaSa
import Derived.Test.YtaconeliiicloaaSs
namespace Go.Proofs.Ytaconeliiicloaa.os
open Go.RowKit Go.Proofs.Ytaconeliiicloaa.sl Go.Proofs.Ytaconeliiicloaa.vo Go.Proofs.Ytaconeliiicloaa.nd
set_option linter.unusedVariables false

/-- An operation's eight numbers. -/
structure OpV where
  k : Int
  d : Int
  fb : Int
  fa : Int
  tb : Int
  ta : Int
  c : Int
  r : Int
def OpV.val (x : OpV) : Value := .agg #[.int .i64 x.k, .int .i64 x.d, .int .i64 x.fb, .int .i64 x.fa, .int .i64 x.tb, .int .i64 x.ta, .int .i64 x.c, .int .i64 x.r]
def oz : OpV := ⟨0, 0, 0, 0, 0, 0, 0, 0⟩
def At (w : World) (p o : Nat) (x : OpV) : Prop := OpAt w p o x.k x.d x.fb x.fa x.tb x.ta x.c x.r
theorem At.blk {w w' : World} {p o : Nat} {x : OpV} (h : At w p o x) (hs : w.heap.size ≤ w'.heap.size) (hb : w'.heap[p]? = w.heap[p]?) : At w' p o x := by
  have e : ∀ q, w'.cell? ⟨p, q, none⟩ = w.cell? ⟨p, q, none⟩ := fun q => World.cell?_of_block (w := w) (w' := w') (a := ⟨p, q, none⟩) hb
  exact ⟨Nat.lt_of_lt_of_le h.lt hs, (e _).trans h.c0, (e _).trans h.c1, (e _).trans h.c2, (e _).trans h.c3, (e _).trans h.c4, (e _).trans h.c5, (e _).trans h.c6, (e _).trans h.c7⟩

theorem At.below {w w' : World} {p o : Nat} {x : OpV} (h : At w p o x) (b : Below w.heap.size w w') : At w' p o x := OpAt.below h b

/-- The value reads as a list of operations; its block lies below B. -/
def Ops (w : World) (B : Nat) (v : Value) (xs : List OpV) : Prop :=
  (xs = [] ∧ ∃ ao cap, v = .slice ao 0 cap ∧ (ao = none → cap = 0)) ∨
  (0 < xs.length ∧ ∃ (b off cap : Nat), v = .slice (some ⟨b, off, none⟩) xs.length cap ∧ b < B ∧ ∀ j, j < xs.length → At w b (off + j * 8) (xs.getD j oz))
theorem ops_val {w : World} {B : Nat} {v : Value} {xs : List OpV} (h : Ops w B v xs) : ∃ ao cap, v = .slice ao xs.length cap := by
  rcases h with ⟨rfl, ao, cap, rfl, hao⟩ | ⟨hp, b, off, cap, rfl, hb, hc⟩ <;> exact ⟨_, _, rfl⟩
theorem Ops.chg {w w' : World} {B lo hi : Nat} {v : Value} {xs : List OpV} (h : Ops w B v xs) (c : Chg lo hi w w') (h1 : B ≤ lo ∨ hi ≤ lo) : Ops w' B v xs := by
  rcases h with h | ⟨hp, b, off, cap, hv, hb, hc⟩
  · exact .inl h
  · exact .inr ⟨hp, b, off, cap, hv, hb, fun j hj => (hc j hj).blk c.size (c.block b (hc j hj).lt (by omega))⟩
theorem Ops.below {w w' : World} {B : Nat} {v : Value} {xs : List OpV} (h : Ops w B v xs) (b : Below w.heap.size w w') : Ops w' B v xs :=
  h.chg (Chg.ofBelow (lo := 0) b) (.inr (Nat.zero_le _))
theorem Ops.al {w : World} {B : Nat} {v : Value} {xs : List OpV} (h : Ops w B v xs) (o : Obj) : Ops (w.alloc o) B v xs :=
  h.below ((Below.refl w.heap.size w).alloc (Nat.le_refl _) o)
theorem Ops.mono {w : World} {B B' : Nat} {v : Value} {xs : List OpV} (h : Ops w B v xs) (hB : B ≤ B') : Ops w B' v xs := by
  rcases h with h | ⟨hp, b, off, cap, hv, hb, hc⟩
  · exact .inl h
  · exact .inr ⟨hp, b, off, cap, hv, by omega, hc⟩

/-- The value is a slice of operations in a block of the call's own. -/
def OOwn (w : World) (lo hi : Nat) (v : Value) (xs : List OpV) : Prop :=
  hi ≤ w.heap.size ∧
  ((xs = [] ∧ ∃ ao cap, v = .slice ao 0 cap ∧ (ao = none → cap = 0)) ∨
   (0 < xs.length ∧ ∃ (g cap : Nat), v = .slice (some ⟨g, 0, none⟩) xs.length cap ∧ lo ≤ g ∧ g < hi ∧ (∀ o, o < xs.length * 8 → w.frozen? ⟨g, o, none⟩ = false) ∧ ∀ j, j < xs.length → At w g (0 + j * 8) (xs.getD j oz)))
theorem oown_val {w : World} {lo hi : Nat} {v : Value} {xs : List OpV} (h : OOwn w lo hi v xs) : ∃ ao cap, v = .slice ao xs.length cap := by
  rcases h.2 with ⟨rfl, ao, cap, rfl, hao⟩ | ⟨hp, g, cap, rfl, _⟩ <;> exact ⟨_, _, rfl⟩
theorem OOwn.ops {w : World} {lo hi : Nat} {v : Value} {xs : List OpV} (h : OOwn w lo hi v xs) : Ops w hi v xs := by
  rcases h.2 with h | ⟨hp, g, cap, hv, h1, h2, h3, h4⟩
  · exact .inl h
  · exact .inr ⟨hp, g, 0, cap, hv, h2, h4⟩
theorem OOwn.chg {w w' : World} {lo hi l h : Nat} {v : Value} {xs : List OpV} (o : OOwn w lo hi v xs) (c : Chg l h w w') (h1 : hi ≤ l ∨ h ≤ lo ∨ h ≤ l) : OOwn w' lo hi v xs := by
  obtain ⟨hh, hr⟩ := o
  refine ⟨Nat.le_trans hh c.size, ?_⟩
  rcases hr with hr | ⟨hp, g, cap, hv, e1, e2, e3, e4⟩
  · exact .inl hr
  · have hb := c.block g (by omega) (by omega)
    refine .inr ⟨hp, g, cap, hv, e1, e2, fun o ho => ?_, fun j hj => (e4 j hj).blk c.size hb⟩
    rw [World.frozen?_of_block (w := w) (w' := w') (a := ⟨g, o, none⟩) hb]
    exact e3 o ho

/-- How many there may be. -/
structure Small (xs : List OpV) : Prop where
  len : xs.length ≤ 1048576
theorem szL_pos {n : Nat} {left : Int} (h0 : 0 ≤ left) : br.szL left n = -1 ∨ 0 ≤ br.szL left n := by unfold br.szL; split <;> omega
theorem szL_bound {n : Nat} {left : Int} (h0 : 0 ≤ left) (h : 0 ≤ br.szL left n) : br.szL left n ≤ left ∧ (n : Int) ≤ left := by unfold br.szL at h ⊢; split at h <;> (split <;> omega)
theorem small_of {left : Int} {xs : List OpV} (h0 : 0 ≤ left) (h1 : left ≤ 1048576) (h : 0 ≤ br.szL left xs.length) : Small xs := ⟨by have := szL_bound h0 h; omega⟩

/-- What a law is told of an argument. -/
structure OpsIn (w : World) (v : Value) (xs : List OpV) : Prop where
  rd : Ops w w.heap.size v xs
  len : xs.length ≤ 9223372036854775807

section
open Go.Joins Go.ChangeShapes Go.WideShapes Go.Deep Go.WideElems
variable {H : Type} {enc : TypeId × Value → H} {P : Program} {w : World} {base : Nat} {held : Bool}
theorem op_list {spare : Nat → Bool} {t : TypeId} {f0 f1 f2 f3 f4 f5 g0 g1 : Field} {fuel : Nat} {cs : List Value} {x : DataW H × List MemPlace} (hs : P.underlying t = some (.struct #[f0, f1, f2, f3, f4, f5]))
    (ho : (f0.offset, f1.offset, f2.offset, f3.offset, f4.offset, f5.offset) = (0, 1, 2, 4, 6, 7)) (hc : (P.cellsOf f0.type, P.cellsOf f1.type, P.cellsOf f2.type, P.cellsOf f3.type, P.cellsOf f4.type, P.cellsOf f5.type) = (1, 1, 2, 2, 1, 1)) (hC : P.cellsOf t = 8)
    (h32 : f3.type = f2.type) (hn : P.underlying f2.type = some (.struct #[g0, g1])) (hone : oneCellFields P #[g0, g1] = true)
    (hi : P.underlying f0.type = some (.int .i64) ∧ P.underlying f1.type = some (.int .i64) ∧ P.underlying g0.type = some (.int .i64) ∧ P.underlying g1.type = some (.int .i64) ∧ P.underlying f4.type = some (.int .i64) ∧ P.underlying f5.type = some (.int .i64))
    (h : DataW.trod enc P w base spare held fuel t cs = some x) :
    ∃ y : OpV, cs = [.int .i64 y.k, .int .i64 y.d, .int .i64 y.fb, .int .i64 y.fa, .int .i64 y.tb, .int .i64 y.ta, .int .i64 y.c, .int .i64 y.r] := by
  obtain ⟨y0, y1, y2, y3, y4, y5, n, hx, hl, h0, h1, h2, h3, h4, h5⟩ := sa.trod_struct6 hs h
  rw [hC] at hl
  obtain ⟨c0, c1, c2, c3, c4, c5, c6, c7, rfl⟩ : ∃ c0 c1 c2 c3 c4 c5 c6 c7, cs = [c0, c1, c2, c3, c4, c5, c6, c7] := by
    match cs, hl with
    | [c0, c1, c2, c3, c4, c5, c6, c7], _ => exact ⟨c0, c1, c2, c3, c4, c5, c6, c7, rfl⟩
  simp only [Prod.mk.injEq] at ho hc
  obtain ⟨o0, o1, o2, o3, o4, o5⟩ := ho
  obtain ⟨k0, k1, k2, k3, k4, k5⟩ := hc
  obtain ⟨i0, i1, i2, i3, i4, i5⟩ := hi
  simp [o0, k0] at h0
  simp [o1, k1] at h1
  simp [o2, k2] at h2
  simp [o3, k3] at h3
  simp [o4, k4] at h4
  simp [o5, k5] at h5
  rw [h32] at h3
  obtain ⟨z0, z1, m, hz, _, a0, a1⟩ := trod_struct2 hn h2
  obtain ⟨u0, u1, m', hu, _, b0, b1⟩ := trod_struct2 hn h3
  obtain ⟨p0, q0⟩ := hone_of hone 0 g0 rfl
  obtain ⟨p1, q1⟩ := hone_of hone 1 g1 rfl
  simp [p0, q0] at a0 b0
  simp [p1, q1] at a1 b1
  obtain ⟨n0, e0, _, _⟩ := DataW.trod_int i0 h0
  obtain ⟨n1, e1, _, _⟩ := DataW.trod_int i1 h1
  obtain ⟨n2, e2, _, _⟩ := DataW.trod_int i2 a0
  obtain ⟨n3, e3, _, _⟩ := DataW.trod_int i3 a1
  obtain ⟨n4, e4, _, _⟩ := DataW.trod_int i2 b0
  obtain ⟨n5, e5, _, _⟩ := DataW.trod_int i3 b1
  obtain ⟨n6, e6, _, _⟩ := DataW.trod_int i4 h4
  obtain ⟨n7, e7, _, _⟩ := DataW.trod_int i5 h5
  simp at e0 e1 e2 e3 e4 e5 e6 e7
  subst e0 e1 e2 e3 e4 e5 e6 e7
  exact ⟨⟨n0, n1, n2, n3, n4, n5, n6, n7⟩, rfl⟩

theorem ops_open {s t : TypeId} {f0 f1 f2 f3 f4 f5 g0 g1 : Field} {fuel : Nat} {v : Value} {x : DataW H × List MemPlace} (hsl : P.underlying s = some (.slice t)) (hs : P.underlying t = some (.struct #[f0, f1, f2, f3, f4, f5]))
    (ho : (f0.offset, f1.offset, f2.offset, f3.offset, f4.offset, f5.offset) = (0, 1, 2, 4, 6, 7)) (hc : (P.cellsOf f0.type, P.cellsOf f1.type, P.cellsOf f2.type, P.cellsOf f3.type, P.cellsOf f4.type, P.cellsOf f5.type) = (1, 1, 2, 2, 1, 1)) (hC : P.cellsOf t = 8)
    (h32 : f3.type = f2.type) (hn : P.underlying f2.type = some (.struct #[g0, g1])) (hone : oneCellFields P #[g0, g1] = true)
    (hi : P.underlying f0.type = some (.int .i64) ∧ P.underlying f1.type = some (.int .i64) ∧ P.underlying g0.type = some (.int .i64) ∧ P.underlying g1.type = some (.int .i64) ∧ P.underlying f4.type = some (.int .i64) ∧ P.underlying f5.type = some (.int .i64))
    (h : DataW.trod enc P w base (fun _ => true) held fuel s [v] = some x) : ∃ xs, OpsIn w v xs := by
  rcases open_slice hsl h with ⟨hcs, _⟩ | ⟨a, len, cap, m, n, D, Pl, hcs, hb, hl, hm, hmm, _, hr⟩
  · simp only [List.cons.injEq, and_true] at hcs
    subst hcs
    exact ⟨[], .inl ⟨rfl, _, _, rfl, fun _ => rfl⟩, by simp⟩
  · simp only [List.cons.injEq, and_true] at hcs
    subst hcs
    simp only [if_true] at hmm
    subst hmm
    unfold maxLen at hm
    have hy : ∀ i, ∃ y : OpV, i < m → w.cells? base (a.add (i * P.cellsOf t)) (P.cellsOf t) = some [.int .i64 y.k, .int .i64 y.d, .int .i64 y.fb, .int .i64 y.fa, .int .i64 y.tb, .int .i64 y.ta, .int .i64 y.c, .int .i64 y.r] := by
      intro i
      by_cases him : i < m
      · obtain ⟨cs', h1, h2⟩ := hr i him
        obtain ⟨y, hy⟩ := op_list hs ho hc hC h32 hn hone hi h2
        exact ⟨y, fun _ => by rw [h1, hy]⟩
      · exact ⟨oz, fun h => absurd h him⟩
    obtain ⟨Y, hY⟩ := Classical.axiomOfChoice hy
    have hlen : ((List.range len).map Y).length = len := by simp
    have hat : ∀ j, j < len → ((List.range len).map Y).getD j oz = Y j := fun j hj => by simp [List.getD, hj]
    refine ⟨(List.range len).map Y, ?_, by rw [hlen]; omega⟩
    by_cases h0 : len = 0
    · subst h0; exact .inl ⟨rfl, _, _, rfl, fun h => by cases h⟩
    · obtain ⟨b, off, spot⟩ := a
      have hall : ∀ j, j < len → ∀ i u, [Value.int .i64 (Y j).k, .int .i64 (Y j).d, .int .i64 (Y j).fb, .int .i64 (Y j).fa, .int .i64 (Y j).tb, .int .i64 (Y j).ta, .int .i64 (Y j).c, .int .i64 (Y j).r][i]? = some u → w.cell? ((Addr.mk b off spot).add (j * 8 + i)) = some u := by
        intro j hj i u hu
        have h1 := hY j (by omega)
        rw [hC] at h1
        have hi8 : i < 8 := by
          have := (List.getElem?_eq_some_iff.1 hu).1
          simpa using this
        have h2 := (World.cells?_some h1)
        have h3 := h2.2.2 i hi8
        rw [hu] at h3
        rw [← Addr.add_add]; exact h3
      have hspot : spot = none := by
        have := World.cell?_spot (hall 0 (by omega) 0 _ rfl)
        simpa [Addr.add] using this
      subst hspot
      refine .inr ⟨by rw [hlen]; omega, b, off, m, by rw [hlen], ?_, fun j hj => ?_⟩
      · have := World.block_lt_of_cell? w _ (hall 0 (by omega) 0 _ rfl)
        simpa [Addr.add] using this
      · rw [hlen] at hj
        rw [hat j hj]
        have hlt := World.block_lt_of_cell? w _ (hall j hj 0 _ rfl)
        have hc := hall j hj
        simp only [Addr.add_lit, ← Nat.add_assoc] at hc
        exact ⟨by rw [Addr.add_lit] at hlt; exact hlt, hc 0 _ rfl, hc 1 _ rfl, hc 2 _ rfl, hc 3 _ rfl, hc 4 _ rfl, hc 5 _ rfl, hc 6 _ rfl, hc 7 _ rfl⟩
end
end Go.Proofs.Ytaconeliiicloaa.os
