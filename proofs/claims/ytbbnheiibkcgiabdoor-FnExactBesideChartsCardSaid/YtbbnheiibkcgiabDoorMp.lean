/-
  Words whose letters are changed one by one: contracts of impl.word.mapped, of the functions that it is given, and of the model's loops.
-/
import Derived.Test.YtbbnheiibkcgiabDoorBv
import Derived.Test.YtbbnheiibkcgiabDoorIds
namespace Go.Proofs.YtbbnheiibkcgiabDoor.br
open Go.RowKit Go.Proofs.YtbbnheiibkcgiabDoor.sl Go.Proofs.YtbbnheiibkcgiabDoor.pm Go.Proofs.YtbbnheiibkcgiabDoor.bw Go.Proofs.YtbbnheiibkcgiabDoor.fn

theorem two_old (w : World) (cs : Array Value) (T : TypeId) (o : Obj) (j : Nat) : ((w.alloc (.cells cs T)).alloc o).cell? ⟨w.heap.size, j, none⟩ = cs[j]? :=
  (((Below.refl _ (w.alloc (.cells cs T))).alloc (Nat.le_refl _) o).cell (p := ⟨w.heap.size, j, none⟩) (by simp)).trans (World.cell?_alloc_at _ _ _ _ rfl)
theorem two_new (w : World) (o : Obj) (cs : Array Value) (T : TypeId) (j : Nat) : ((w.alloc o).alloc (.cells cs T)).cell? ⟨w.heap.size + 1, j, none⟩ = cs[j]? :=
  (by simp : (w.alloc o).heap.size = w.heap.size + 1) ▸ (World.cell?_alloc_at (w := w.alloc o) _ _ _ _ rfl)
theorem two_newF (w : World) (o : Obj) (cs : Array Value) (T : TypeId) (j : Nat) : ((w.alloc o).alloc (.cells cs T)).frozen? ⟨w.heap.size + 1, j, none⟩ = false :=
  (by simp : (w.alloc o).heap.size = w.heap.size + 1) ▸ (World.frozen?_alloc_at (w := w.alloc o) _ _ _ _ rfl)
/-- What a call leaves of two boxes that were laid ahead of it. -/
theorem box2 {w w1 : World} {c0 c1 : Array Value} {T0 T1 : TypeId} (h : Below ((w.alloc (.cells c0 T0)).alloc (.cells c1 T1)).heap.size ((w.alloc (.cells c0 T0)).alloc (.cells c1 T1)) w1) :
    (∀ j, w1.cell? ⟨w.heap.size, j, none⟩ = c0[j]?) ∧ (∀ j, w1.cell? ⟨w.heap.size + 1, j, none⟩ = c1[j]? ∧ w1.frozen? ⟨w.heap.size + 1, j, none⟩ = false) ∧ Below w.heap.size w w1 ∧ w.heap.size + 2 ≤ w1.heap.size := by
  have hz := h.size
  simp at hz
  refine ⟨fun j => (h.cell (p := ⟨w.heap.size, j, none⟩) (by simp; omega)).trans (two_old _ _ _ _ _), fun j => ⟨(h.cell (p := ⟨w.heap.size + 1, j, none⟩) (by simp)).trans (two_new _ _ _ _ _), (h.frozen (p := ⟨w.heap.size + 1, j, none⟩) (by simp)).trans (two_newF _ _ _ _ _)⟩, ?_, by omega⟩
  exact (((Below.refl w.heap.size w).alloc (Nat.le_refl _) _).alloc (by simp) _).trans (h.mono (by simp; omega))
theorem box1 {w w1 : World} {c0 : Array Value} {T0 : TypeId} (h : Below (w.alloc (.cells c0 T0)).heap.size (w.alloc (.cells c0 T0)) w1) :
    (∀ j, w1.cell? ⟨w.heap.size, j, none⟩ = c0[j]?) ∧ Below w.heap.size w w1 ∧ w.heap.size + 1 ≤ w1.heap.size := by
  have hz := h.size
  simp at hz
  refine ⟨fun j => (h.cell (p := ⟨w.heap.size, j, none⟩) (by simp)).trans (World.cell?_alloc_at _ _ _ _ rfl), ?_, by omega⟩
  exact ((Below.refl w.heap.size w).alloc (Nat.le_refl _) _).trans (h.mono (by simp))
theorem below_grown {w w' : World} (h : w.grownBy w' none) : Below w.heap.size w w' := (Below.refl _ _).grown h (Nat.le_refl _) (fun k hk => by cases hk)
theorem made_own' {w1 : World} {lo g n : Nat} (h : w1.ownsRow lo 2 1 (.slice (some ⟨g, 0, none⟩) n n) n (madeCells (Value.int .i64 0).cells (n * 1)).toList) :
    Own w1 lo w1.heap.size (.slice (some ⟨g, 0, none⟩) n n) (List.replicate n 0) := by
  rw [zeros_list] at h
  refine Own.mk' ?_
  rw [List.length_replicate]
  exact h

end Go.Proofs.YtbbnheiibkcgiabDoor.br
