/-
  Slices of operations in a seat that has no valid operations: what a call reads (Ops), what it owns (OOwn).
-/
import Derived.Test.YtedajefapddekaaSa
import Derived.Test.YtedajefapddekaaSs
namespace Go.Proofs.Ytedajefapddekaa.qo
open Go.RowKit Go.Proofs.Ytedajefapddekaa.sl
set_option linter.unusedVariables false

structure V where
  a0 : Int
  a1 : Int
  a2 : Int
  a3 : Int
  a4 : Int
  a5 : Int
  a6 : Int
  a7 : Int
def V.val (x : V) : Value := .agg #[.int .i64 x.a0, .int .i64 x.a1, .int .i64 x.a2, .int .i64 x.a3, .int .i64 x.a4, .int .i64 x.a5, .int .i64 x.a6, .int .i64 x.a7]
def oz : V := ⟨0, 0, 0, 0, 0, 0, 0, 0⟩
structure At (w : World) (p o : Nat) (x : V) : Prop where
  lt : p < w.heap.size
  c0 : w.cell? ⟨p, o, none⟩ = some (.int .i64 x.a0)
  c1 : w.cell? ⟨p, o + 1, none⟩ = some (.int .i64 x.a1)
  c2 : w.cell? ⟨p, o + 2, none⟩ = some (.int .i64 x.a2)
  c3 : w.cell? ⟨p, o + 3, none⟩ = some (.int .i64 x.a3)
  c4 : w.cell? ⟨p, o + 4, none⟩ = some (.int .i64 x.a4)
  c5 : w.cell? ⟨p, o + 5, none⟩ = some (.int .i64 x.a5)
  c6 : w.cell? ⟨p, o + 6, none⟩ = some (.int .i64 x.a6)
  c7 : w.cell? ⟨p, o + 7, none⟩ = some (.int .i64 x.a7)
theorem At.blk {w w' : World} {p o : Nat} {x : V} (h : At w p o x) (hs : w.heap.size ≤ w'.heap.size) (hb : w'.heap[p]? = w.heap[p]?) : At w' p o x := by
  have e : ∀ q, w'.cell? ⟨p, q, none⟩ = w.cell? ⟨p, q, none⟩ := fun q => World.cell?_of_block (w := w) (w' := w') (a := ⟨p, q, none⟩) hb
  exact ⟨Nat.lt_of_lt_of_le h.lt hs, (e _).trans h.c0, (e _).trans h.c1, (e _).trans h.c2, (e _).trans h.c3, (e _).trans h.c4, (e _).trans h.c5, (e _).trans h.c6, (e _).trans h.c7⟩
theorem At.below {w w' : World} {p o : Nat} {x : V} (h : At w p o x) (b : Below w.heap.size w w') : At w' p o x := h.blk b.size (b.block p h.lt)
theorem at_new (x : V) (t : TypeId) (w : World) : At (w.alloc (.cells #[.int .i64 x.a0, .int .i64 x.a1, .int .i64 x.a2, .int .i64 x.a3, .int .i64 x.a4, .int .i64 x.a5, .int .i64 x.a6, .int .i64 x.a7] t)) w.heap.size 0 x :=
  ⟨by simp, World.cell?_alloc_at _ _ _ _ rfl, World.cell?_alloc_at _ _ _ _ rfl, World.cell?_alloc_at _ _ _ _ rfl, World.cell?_alloc_at _ _ _ _ rfl, World.cell?_alloc_at _ _ _ _ rfl, World.cell?_alloc_at _ _ _ _ rfl, World.cell?_alloc_at _ _ _ _ rfl, World.cell?_alloc_at _ _ _ _ rfl⟩

/-- The value reads as a list; its block lies below B. -/
def Ops (w : World) (B : Nat) (v : Value) (xs : List V) : Prop :=
  (xs = [] ∧ ∃ ao cap, v = .slice ao 0 cap ∧ (ao = none → cap = 0)) ∨
  (0 < xs.length ∧ ∃ (b off cap : Nat), v = .slice (some ⟨b, off, none⟩) xs.length cap ∧ b < B ∧ ∀ j, j < xs.length → At w b (off + j * 8) (xs.getD j oz))
theorem ops_val {w : World} {B : Nat} {v : Value} {xs : List V} (h : Ops w B v xs) : ∃ ao cap, v = .slice ao xs.length cap := by
  rcases h with ⟨rfl, ao, cap, rfl, hao⟩ | ⟨hp, b, off, cap, rfl, hb, hc⟩ <;> exact ⟨_, _, rfl⟩
theorem Ops.chg {w w' : World} {B lo hi : Nat} {v : Value} {xs : List V} (h : Ops w B v xs) (c : Chg lo hi w w') (h1 : B ≤ lo ∨ hi ≤ lo) : Ops w' B v xs := by
  rcases h with h | ⟨hp, b, off, cap, hv, hb, hc⟩
  · exact .inl h
  · exact .inr ⟨hp, b, off, cap, hv, hb, fun j hj => (hc j hj).blk c.size (c.block b (hc j hj).lt (by omega))⟩
theorem Ops.below {w w' : World} {B : Nat} {v : Value} {xs : List V} (h : Ops w B v xs) (b : Below w.heap.size w w') : Ops w' B v xs :=
  h.chg (Chg.ofBelow (lo := 0) b) (.inr (Nat.zero_le _))
theorem Ops.al {w : World} {B : Nat} {v : Value} {xs : List V} (h : Ops w B v xs) (o : Obj) : Ops (w.alloc o) B v xs :=
  h.below ((Below.refl w.heap.size w).alloc (Nat.le_refl _) o)
theorem Ops.mono {w : World} {B B' : Nat} {v : Value} {xs : List V} (h : Ops w B v xs) (hB : B ≤ B') : Ops w B' v xs := by
  rcases h with h | ⟨hp, b, off, cap, hv, hb, hc⟩
  · exact .inl h
  · exact .inr ⟨hp, b, off, cap, hv, by omega, hc⟩

/-- The value is a slice in a block of the call's own. -/
def OOwn (w : World) (lo hi : Nat) (v : Value) (xs : List V) : Prop :=
  hi ≤ w.heap.size ∧
  ((xs = [] ∧ ∃ ao cap, v = .slice ao 0 cap ∧ (ao = none → cap = 0)) ∨
   (0 < xs.length ∧ ∃ (g cap : Nat), v = .slice (some ⟨g, 0, none⟩) xs.length cap ∧ lo ≤ g ∧ g < hi ∧ (∀ o, o < xs.length * 8 → w.frozen? ⟨g, o, none⟩ = false) ∧ ∀ j, j < xs.length → At w g (0 + j * 8) (xs.getD j oz)))
theorem oown_val {w : World} {lo hi : Nat} {v : Value} {xs : List V} (h : OOwn w lo hi v xs) : ∃ ao cap, v = .slice ao xs.length cap := by
  rcases h.2 with ⟨rfl, ao, cap, rfl, hao⟩ | ⟨hp, g, cap, rfl, _⟩ <;> exact ⟨_, _, rfl⟩
theorem OOwn.ops {w : World} {lo hi : Nat} {v : Value} {xs : List V} (h : OOwn w lo hi v xs) : Ops w hi v xs := by
  rcases h.2 with h | ⟨hp, g, cap, hv, h1, h2, h3, h4⟩
  · exact .inl h
  · exact .inr ⟨hp, g, 0, cap, hv, h2, h4⟩
theorem OOwn.chg {w w' : World} {lo hi l h : Nat} {v : Value} {xs : List V} (o : OOwn w lo hi v xs) (c : Chg l h w w') (h1 : hi ≤ l ∨ h ≤ lo ∨ h ≤ l) : OOwn w' lo hi v xs := by
  obtain ⟨hh, hr⟩ := o
  refine ⟨Nat.le_trans hh c.size, ?_⟩
  rcases hr with hr | ⟨hp, g, cap, hv, e1, e2, e3, e4⟩
  · exact .inl hr
  · have hb := c.block g (by omega) (by omega)
    refine .inr ⟨hp, g, cap, hv, e1, e2, fun o ho => ?_, fun j hj => (e4 j hj).blk c.size hb⟩
    rw [World.frozen?_of_block (w := w) (w' := w') (a := ⟨g, o, none⟩) hb]
    exact e3 o ho

/-- How many there may be. -/
structure Small (xs : List V) : Prop where
  len : xs.length ≤ 1048576
theorem szL_pos {n : Nat} {left : Int} (h0 : 0 ≤ left) : br.szL left n = -1 ∨ 0 ≤ br.szL left n := by unfold br.szL; split <;> omega
theorem szL_bound {n : Nat} {left : Int} (h0 : 0 ≤ left) (h : 0 ≤ br.szL left n) : br.szL left n ≤ left ∧ (n : Int) ≤ left := by unfold br.szL at h ⊢; split at h <;> (split <;> omega)
theorem small_of {left : Int} {xs : List V} (h0 : 0 ≤ left) (h1 : left ≤ 1048576) (h : 0 ≤ br.szL left xs.length) : Small xs := ⟨by have := szL_bound h0 h; omega⟩

end Go.Proofs.Ytedajefapddekaa.qo
