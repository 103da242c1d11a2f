/-
  Valid operations: the small functions, and the model's l07Op.
-/
import Derived.Test.YtbbnheiibkcgiabDoorNeedle
import Derived.Shelf.SlSortCmp.QuietGrown
import Derived.Laws.StructEq
import Derived.Test.YtbbnheiibkcgiabDoorSl
namespace Go.Proofs.YtbbnheiibkcgiabDoor.vo
open Go.RowKit Go.Sort Go.Proofs.YtbbnheiibkcgiabDoor.nd Go.Proofs.YtbbnheiibkcgiabDoor.sl
set_option linter.unusedVariables false

def dirB (d : Int) : Bool := d == 1 || d == -1
def carB (c : Int) : Bool := decide (1 ≤ c ∧ c ≤ 4)

theorem implDir (d : Int) (w : World) : Calls Tryd.prog 75 #[.int .i64 d] w fun e w' => e = .returned (.bool (dirB d)) ∧ w = w' := by
  by_cases h1 : d = 1
  · subst h1
    go_enter Tryd.func75, Tryd.ntmps75
    go_wp2
    go_ret
    exact ⟨by simp [dirB], rfl⟩
  · have h1' : (d == 1) = false := by simpa using h1
    go_enter Tryd.func75, Tryd.ntmps75
    go_wp2
    go_ret
    exact ⟨by simp [dirB, h1], rfl⟩
theorem implCar (c : Int) (w : World) : Calls Tryd.prog 76 #[.int .i64 c] w fun e w' => e = .returned (.bool (carB c)) ∧ w = w' := by
  go_enter Tryd.func76, Tryd.ntmps76
  go_wp2_with (go_at_call 21; refine (nd.within64 _ _ _ _).mono ?_; rintro e w' ⟨rfl, rfl⟩)
  go_ret
  exact ⟨by simp [carB, Bool.decide_and], rfl⟩

/-- An operation in memory. -/
structure OpAt (w : World) (p o : Nat) (k d fb fa tb ta c r : Int) : Prop where
  lt : p < w.heap.size
  c0 : w.cell? ⟨p, o, none⟩ = some (.int .i64 k)
  c1 : w.cell? ⟨p, o + 1, none⟩ = some (.int .i64 d)
  c2 : w.cell? ⟨p, o + 2, none⟩ = some (.int .i64 fb)
  c3 : w.cell? ⟨p, o + 3, none⟩ = some (.int .i64 fa)
  c4 : w.cell? ⟨p, o + 4, none⟩ = some (.int .i64 tb)
  c5 : w.cell? ⟨p, o + 5, none⟩ = some (.int .i64 ta)
  c6 : w.cell? ⟨p, o + 6, none⟩ = some (.int .i64 c)
  c7 : w.cell? ⟨p, o + 7, none⟩ = some (.int .i64 r)
theorem OpAt.z {w : World} {p : Nat} {k d fb fa tb ta c r : Int} (h : OpAt w p 0 k d fb fa tb ta c r) : w.cell? ⟨p, 0, none⟩ = some (.int .i64 k) ∧ w.cell? ⟨p, 1, none⟩ = some (.int .i64 d) ∧ w.cell? ⟨p, 2, none⟩ = some (.int .i64 fb) ∧ w.cell? ⟨p, 3, none⟩ = some (.int .i64 fa) ∧
    w.cell? ⟨p, 4, none⟩ = some (.int .i64 tb) ∧ w.cell? ⟨p, 5, none⟩ = some (.int .i64 ta) ∧ w.cell? ⟨p, 6, none⟩ = some (.int .i64 c) ∧ w.cell? ⟨p, 7, none⟩ = some (.int .i64 r) :=
  ⟨h.c0, h.c1, h.c2, h.c3, h.c4, h.c5, h.c6, h.c7⟩
theorem OpAt.below {w w' : World} {p o : Nat} {k d fb fa tb ta c r : Int} (h : OpAt w p o k d fb fa tb ta c r) (b : Below w.heap.size w w') : OpAt w' p o k d fb fa tb ta c r := by
  refine ⟨Nat.lt_of_lt_of_le h.lt b.size, ?_, ?_, ?_, ?_, ?_, ?_, ?_, ?_⟩ <;>
    exact (b.cell (by exact h.lt)).trans (by first | exact h.c0 | exact h.c1 | exact h.c2 | exact h.c3 | exact h.c4 | exact h.c5 | exact h.c6 | exact h.c7)

theorem cellG {w : World} {p q : Nat} {v : Value} (hp : p < w.heap.size) (h : w.cell? ⟨p, q, none⟩ = some v) (n : Nat) (os : Array Obj) : (grow (w.drewN n) os).cell? ⟨p, q, none⟩ = some v := cell_grown (a := ⟨p, q, none⟩) hp h n os
theorem below_grow (w : World) (n : Nat) (os : Array Obj) : Below w.heap.size w (grow (w.drewN n) os) :=
  ⟨rfl, rfl, rfl, by simp, fun k hk => Go.Sort.heap_grow_old (w.drewN n) os hk⟩
theorem _root_.Go.Calls.toG {P : Program} {f : FuncId} {args : Array Value} {w : World} {v : Value} (h : Calls P f args w fun e w' => e = .returned v ∧ w = w') : Calls P f args w fun e w' => e = .returned v ∧ ∃ q os, w' = grow (w.drewN q) os :=
  h.mono fun _ _ ⟨he, hw⟩ => ⟨he, 0, #[], by subst hw; simp [World.drewN]⟩
end Go.Proofs.YtbbnheiibkcgiabDoor.vo
