/-
  Slices of rows of charts (Row): what a call reads (Infs), what it owns (IOwn); szInfoS.
-/
import Derived.Test.YtedajefapddekaaSs2
namespace Go.Proofs.Ytedajefapddekaa.ro
open Go.RowKit Go.Proofs.Ytedajefapddekaa.sl Go.Proofs.Ytedajefapddekaa.br Go.Proofs.Ytedajefapddekaa.ss
set_option linter.unusedVariables false
set_option linter.unusedSimpArgs false

structure V where
  a0 : Int
  a1 : Int
  ps : List Int
def iz : V := ⟨0, 0, []⟩
def V.val (x : V) (f : Value) : Value := .agg #[.int .i64 x.a0, .int .i64 x.a1, f]
/-- The cells of a row; f is its list of stitches. -/
structure At (w : World) (p o : Nat) (x : V) (f : Value) : Prop where
  lt : p < w.heap.size
  c0 : w.cell? ⟨p, o, none⟩ = some (.int .i64 x.a0)
  c1 : w.cell? ⟨p, o + 1, none⟩ = some (.int .i64 x.a1)
  c2 : w.cell? ⟨p, o + 2, none⟩ = some f
theorem At.blk {w w' : World} {p o : Nat} {x : V} {f : Value} (h : At w p o x f) (hs : w.heap.size ≤ w'.heap.size) (hb : w'.heap[p]? = w.heap[p]?) : At w' p o x f := by
  have e : ∀ q, w'.cell? ⟨p, q, none⟩ = w.cell? ⟨p, q, none⟩ := fun q => World.cell?_of_block (w := w) (w' := w') (a := ⟨p, q, none⟩) hb
  exact ⟨Nat.lt_of_lt_of_le h.lt hs, (e _).trans h.c0, (e _).trans h.c1, (e _).trans h.c2⟩
theorem At.below {w w' : World} {p o : Nat} {x : V} {f : Value} (h : At w p o x f) (b : Below w.heap.size w w') : At w' p o x f := h.blk b.size (b.block p h.lt)

def Infs (w : World) (B : Nat) (v : Value) (xs : List V) : Prop :=
  (xs = [] ∧ ∃ ao cap, v = .slice ao 0 cap) ∨
  (0 < xs.length ∧ ∃ (b off cap : Nat) (F : Nat → Value), v = .slice (some ⟨b, off, none⟩) xs.length cap ∧ b < B ∧ ∀ j, j < xs.length → At w b (off + j * 3) (xs.getD j iz) (F j) ∧ Ints w B (F j) (xs.getD j iz).ps)
theorem infs_val {w : World} {B : Nat} {v : Value} {xs : List V} (h : Infs w B v xs) : ∃ ao cap, v = .slice ao xs.length cap := by
  rcases h with ⟨rfl, ao, cap, rfl⟩ | ⟨hp, b, off, cap, F, rfl, hb, hc⟩ <;> exact ⟨_, _, rfl⟩
theorem Infs.chg {w w' : World} {B lo hi : Nat} {v : Value} {xs : List V} (h : Infs w B v xs) (c : Chg lo hi w w') (h1 : B ≤ lo ∨ hi ≤ lo) : Infs w' B v xs := by
  rcases h with h | ⟨hp, b, off, cap, F, hv, hb, hc⟩
  · exact .inl h
  · exact .inr ⟨hp, b, off, cap, F, hv, hb, fun j hj => ⟨(hc j hj).1.blk c.size (c.block b (hc j hj).1.lt (by omega)), (hc j hj).2.chg c h1⟩⟩
theorem Infs.below {w w' : World} {B : Nat} {v : Value} {xs : List V} (h : Infs w B v xs) (b : Below w.heap.size w w') : Infs w' B v xs :=
  h.chg (Chg.ofBelow (lo := 0) b) (.inr (Nat.zero_le _))
theorem Infs.al {w : World} {B : Nat} {v : Value} {xs : List V} (h : Infs w B v xs) (o : Obj) : Infs (w.alloc o) B v xs :=
  h.below ((Below.refl w.heap.size w).alloc (Nat.le_refl _) o)
theorem Infs.mono {w : World} {B B' : Nat} {v : Value} {xs : List V} (h : Infs w B v xs) (hB : B ≤ B') : Infs w B' v xs := by
  rcases h with h | ⟨hp, b, off, cap, F, hv, hb, hc⟩
  · exact .inl h
  · exact .inr ⟨hp, b, off, cap, F, hv, by omega, fun j hj => ⟨(hc j hj).1, (hc j hj).2.mono hB⟩⟩

/-- Rows of the call's own: no two of their lists share a block. -/
def IOwn (w : World) (lo hi : Nat) (v : Value) (xs : List V) : Prop :=
  hi ≤ w.heap.size ∧
  ((xs = [] ∧ ∃ ao cap, v = .slice ao 0 cap) ∨
   (0 < xs.length ∧ ∃ (g cap : Nat) (F : Nat → Value) (Lo Hi : Nat → Nat), v = .slice (some ⟨g, 0, none⟩) xs.length cap ∧ lo ≤ g ∧ g < hi ∧ (∀ o, o < xs.length * 3 → w.frozen? ⟨g, o, none⟩ = false) ∧
     ∀ j, j < xs.length → At w g (0 + j * 3) (xs.getD j iz) (F j) ∧ Own w (Lo j) (Hi j) (F j) (xs.getD j iz).ps ∧ lo ≤ Lo j ∧ Hi j ≤ hi ∧ (g < Lo j ∨ Hi j ≤ g) ∧ ∀ i, i < j → Hi i ≤ Lo j ∨ Hi j ≤ Lo i))
theorem iown_val {w : World} {lo hi : Nat} {v : Value} {xs : List V} (h : IOwn w lo hi v xs) : ∃ ao cap, v = .slice ao xs.length cap := by
  rcases h.2 with ⟨rfl, ao, cap, rfl⟩ | ⟨hp, b, cap, F, L, H, rfl, _⟩ <;> exact ⟨_, _, rfl⟩
theorem IOwn.infs {w : World} {lo hi : Nat} {v : Value} {xs : List V} (h : IOwn w lo hi v xs) : Infs w hi v xs := by
  rcases h.2 with h | ⟨hp, g, cap, F, L, H, hv, h1, h2, h3, h4⟩
  · exact .inl h
  · exact .inr ⟨hp, g, 0, cap, F, hv, h2, fun j hj => ⟨(h4 j hj).1, (h4 j hj).2.1.ints.mono (h4 j hj).2.2.2.1⟩⟩
theorem IOwn.chg {w w' : World} {lo hi l h : Nat} {v : Value} {xs : List V} (o : IOwn w lo hi v xs) (c : Chg l h w w') (h1 : hi ≤ l ∨ h ≤ lo ∨ h ≤ l) : IOwn w' lo hi v xs := by
  obtain ⟨hh, hr⟩ := o
  refine ⟨Nat.le_trans hh c.size, ?_⟩
  rcases hr with hr | ⟨hp, g, cap, F, L, H, hv, e1, e2, e3, e4⟩
  · exact .inl hr
  · have hb := c.block g (by omega) (by omega)
    refine .inr ⟨hp, g, cap, F, L, H, hv, e1, e2, fun o ho => ?_, fun j hj => ?_⟩
    · rw [World.frozen?_of_block (w := w) (w' := w') (a := ⟨g, o, none⟩) hb]
      exact e3 o ho
    · obtain ⟨a1, a2, a3, a4, a5⟩ := e4 j hj
      exact ⟨a1.blk c.size hb, a2.chg c (by omega), a3, a4, a5⟩
theorem IOwn.lo {w : World} {lo lo' hi : Nat} {v : Value} {xs : List V} (o : IOwn w lo hi v xs) (h : lo' ≤ lo) : IOwn w lo' hi v xs := by
  obtain ⟨hh, hr⟩ := o
  refine ⟨hh, ?_⟩
  rcases hr with hr | ⟨hp, g, cap, F, L, H, hv, e1, e2, e3, e4⟩
  · exact .inl hr
  · exact .inr ⟨hp, g, cap, F, L, H, hv, by omega, e2, e3, fun j hj => ⟨(e4 j hj).1, (e4 j hj).2.1, by have := (e4 j hj).2.2.1; omega, (e4 j hj).2.2.2⟩⟩
theorem IOwn.hi {w : World} {lo hi hi' : Nat} {v : Value} {xs : List V} (o : IOwn w lo hi v xs) (h : hi ≤ hi') (h2 : hi' ≤ w.heap.size) : IOwn w lo hi' v xs := by
  obtain ⟨hh, hr⟩ := o
  refine ⟨h2, ?_⟩
  rcases hr with hr | ⟨hp, g, cap, F, L, H, hv, e1, e2, e3, e4⟩
  · exact .inl hr
  · exact .inr ⟨hp, g, cap, F, L, H, hv, e1, by omega, e3, fun j hj => ⟨(e4 j hj).1, (e4 j hj).2.1, (e4 j hj).2.2.1, by have := (e4 j hj).2.2.2.1; omega, (e4 j hj).2.2.2.2⟩⟩

/-- The lists of stitches. -/
def prs (xs : List V) : List (List Int) := xs.map V.ps
theorem prs_len (xs : List V) : (prs xs).length = xs.length := by simp [prs]
theorem prs_at (xs : List V) (j : Nat) (h : j < xs.length) : (prs xs).getD j [] = (xs.getD j iz).ps := by simp [prs, List.getD, List.getElem?_eq_getElem h]
/-- Lists that a law looks at. -/
structure Small (xs : List V) : Prop where
  len : xs.length ≤ 1048576
  short : ∀ j, j < xs.length → (xs.getD j iz).ps.length ≤ 1048576
theorem small_of {left : Int} {xs : List V} (h0 : 0 ≤ left) (h1 : left ≤ 1048576) (h : 0 ≤ szR left (prs xs)) : Small xs := by
  obtain ⟨_, h2, h3⟩ := szR_bound h0 h
  rw [prs_len] at h2 h3
  exact ⟨by omega, fun j hj => by have := h3 j hj; rw [prs_at xs j hj] at this; omega⟩

end Go.Proofs.Ytedajefapddekaa.ro
