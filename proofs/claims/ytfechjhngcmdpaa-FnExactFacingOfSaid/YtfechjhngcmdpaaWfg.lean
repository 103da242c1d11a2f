/-
  What the walk of FacingOf's law carries through regions that allocate while calls are open.
-/
import Derived.Test.YtfechjhngcmdpaaVmi
namespace Go.Proofs.Ytfechjhngcmdpaa.mc
open Go.RowKit Go.Sort Go.Proofs.Ytfechjhngcmdpaa.sl Go.Proofs.Ytfechjhngcmdpaa.br
set_option linter.unusedVariables false
set_option linter.unusedSimpArgs false

/-- A machine's box, a needle's box, and a condition on memory that growth keeps. -/
structure FK (J : World → Prop) (Wn X : World) (gm gd : Nat) (a p : Int) (f0 f1 f2 f3 f4 : Value) (b t : Int) : Prop where
  c0 : X.cell? ⟨gm, 0, none⟩ = some (.int .i64 a)
  c1 : X.cell? ⟨gm, 1, none⟩ = some (.int .i64 p)
  c2 : X.cell? ⟨gm, 2, none⟩ = some f0
  c3 : X.cell? ⟨gm, 3, none⟩ = some f1
  c4 : X.cell? ⟨gm, 4, none⟩ = some f2
  c5 : X.cell? ⟨gm, 5, none⟩ = some f3
  c6 : X.cell? ⟨gm, 6, none⟩ = some f4
  d0 : X.cell? ⟨gd, 0, none⟩ = some (.int .i64 b)
  d1 : X.cell? ⟨gd, 1, none⟩ = some (.int .i64 t)
  lm : gm < X.heap.size
  ld : gd < X.heap.size
  ls : Wn.heap.size ≤ X.heap.size
  j : J X
  st : ∀ X X' : World, J X → Below X.heap.size X X' → J X'
  bl : Below Wn.heap.size Wn X
theorem FK.below {J : World → Prop} {Wn X X' : World} {gm gd : Nat} {a p : Int} {f0 f1 f2 f3 f4 : Value} {b t : Int} (h : FK J Wn X gm gd a p f0 f1 f2 f3 f4 b t) (k : Below X.heap.size X X') : FK J Wn X' gm gd a p f0 f1 f2 f3 f4 b t := by
  have e : ∀ g i, g < X.heap.size → X'.cell? ⟨g, i, none⟩ = X.cell? ⟨g, i, none⟩ := fun g i hg => k.cell (p := ⟨g, i, none⟩) hg
  exact ⟨(e _ _ h.lm).trans h.c0, (e _ _ h.lm).trans h.c1, (e _ _ h.lm).trans h.c2, (e _ _ h.lm).trans h.c3, (e _ _ h.lm).trans h.c4, (e _ _ h.lm).trans h.c5, (e _ _ h.lm).trans h.c6, (e _ _ h.ld).trans h.d0, (e _ _ h.ld).trans h.d1,
    Nat.lt_of_lt_of_le h.lm k.size, Nat.lt_of_lt_of_le h.ld k.size, Nat.le_trans h.ls k.size, h.st _ _ h.j k, h.st, h.bl.trans (k.mono h.ls)⟩
theorem FK.alloc {J : World → Prop} {Wn X : World} {gm gd : Nat} {a p : Int} {f0 f1 f2 f3 f4 : Value} {b t : Int} (h : FK J Wn X gm gd a p f0 f1 f2 f3 f4 b t) (o : Obj) : FK J Wn (X.alloc o) gm gd a p f0 f1 f2 f3 f4 b t := h.below ((Below.refl _ _).alloc (Nat.le_refl _) o)
theorem FK.drew {J : World → Prop} {Wn X : World} {gm gd : Nat} {a p : Int} {f0 f1 f2 f3 f4 : Value} {b t : Int} (h : FK J Wn X gm gd a p f0 f1 f2 f3 f4 b t) : FK J Wn X.drew gm gd a p f0 f1 f2 f3 f4 b t := h.below (Below.refl _ _).drew

/-- A machine of some call's own. -/
def Cq (X : World) (g0 g1 g2 g3 g4 : Value) (m : Mch) : Prop := ∃ B, B ≤ X.heap.size ∧ MInC X B g0 g1 g2 g3 g4 m
theorem Cq.below {X X' : World} {g0 g1 g2 g3 g4 : Value} {m : Mch} (h : Cq X g0 g1 g2 g3 g4 m) (k : Below X.heap.size X X') : Cq X' g0 g1 g2 g3 g4 m := by
  obtain ⟨B, h1, h2⟩ := h
  exact ⟨B, Nat.le_trans h1 k.size, h2.below k⟩
theorem Cq.alloc {X : World} {g0 g1 g2 g3 g4 : Value} {m : Mch} (h : Cq X g0 g1 g2 g3 g4 m) (o : Obj) : Cq (X.alloc o) g0 g1 g2 g3 g4 m := h.below ((Below.refl _ _).alloc (Nat.le_refl _) o)
theorem Cq.drew {X : World} {g0 g1 g2 g3 g4 : Value} {m : Mch} (h : Cq X g0 g1 g2 g3 g4 m) : Cq X.drew g0 g1 g2 g3 g4 m := h.below (Below.refl _ _).drew

/-- The answer in a box of its own. -/
def Rf (Wn : World) (q0 q1 : Int) (g : Nat) (X : World) : Prop :=
  X.cell? ⟨g, 0, none⟩ = some (.int .i64 q0) ∧ X.cell? ⟨g, 1, none⟩ = some (.int .i64 q1) ∧ Wn.heap.size ≤ g ∧ g < X.heap.size ∧ Below Wn.heap.size Wn X
theorem rfA {Wn Y : World} {q0 q1 : Int} {T : TypeId} (hb : Below Wn.heap.size Wn Y) : Rf Wn q0 q1 Y.heap.size (Y.alloc (.cells #[.int .i64 q0, .int .i64 q1] T)) :=
  ⟨World.cell?_alloc_at _ _ _ _ rfl, World.cell?_alloc_at _ _ _ _ rfl, hb.size, by simp, hb.alloc hb.size _⟩
theorem rfB {Wn Y : World} {q0 q1 : Int} (hb : Below Wn.heap.size Wn Y) (g : Nat) (hg1 : Wn.heap.size ≤ g) (hg3 : g < Y.heap.size) {x0 x1 : Value} (c0 : Y.cell? ⟨g, 0, none⟩ = some x0) (c1 : Y.cell? ⟨g, 1, none⟩ = some x1) :
    Rf Wn q0 q1 g ((Y.setCell ⟨g, 0, none⟩ (.int .i64 q0)).setCell ⟨g, 1, none⟩ (.int .i64 q1)) :=
  ⟨(World.cell?_setCell_other _ _ _ _ (by simp)).trans (World.cell?_setCell_same _ _ _ c0), World.cell?_setCell_same _ _ _ ((World.cell?_setCell_other _ _ _ _ (by simp)).trans c1), hg1, by simpa using hg3, (hb.setCell hg1 _).setCell hg1 _⟩
theorem bcellM {W W' : World} (b : Below W.heap.size W W') : (∀ g i, g < W.heap.size → W'.cell? ⟨g, i, none⟩ = W.cell? ⟨g, i, none⟩) ∧ (∀ g i, g < W.heap.size → W'.frozen? ⟨g, i, none⟩ = W.frozen? ⟨g, i, none⟩) :=
  ⟨fun g i hg => b.cell (p := ⟨g, i, none⟩) hg, fun g i hg => b.frozen (p := ⟨g, i, none⟩) hg⟩

theorem eqD (a b : Int) (w : World) :
    Calls Try.prog 16 #[.agg #[.int .i64 a, .int .i64 b], .agg #[.int .i64 a, .int .i64 b]] w fun e w' => e = .returned (.bool true) ∧ Below w.heap.size w w' := by
  go_enter Try.func16, Try.ntmps16
  go_wp2
  go_ret
  exact ⟨rfl, ((Below.refl w.heap.size w).alloc (Nat.le_refl _) _).alloc (by simp) _⟩
end Go.Proofs.Ytfechjhngcmdpaa.mc
