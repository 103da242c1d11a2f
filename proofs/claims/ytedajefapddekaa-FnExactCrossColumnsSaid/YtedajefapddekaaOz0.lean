/-
  The operations of a move: MoveOps of both sides.
-/
import Derived.Test.YtedajefapddekaaMz0
import Derived.Test.YtedajefapddekaaQo5
namespace Go.Proofs.Ytedajefapddekaa.mo
open Go.RowKit Go.Sort Go.Proofs.Ytedajefapddekaa.sl Go.Proofs.Ytedajefapddekaa.pm
set_option linter.unusedVariables false

/-- A literal list of operations. -/
theorem made (w : World) (lo : Nat) (hlo : lo ≤ w.heap.size) (xs : List qo.V) (cs : Array Value) (hcs : cs.toList = qo.cellsL xs) (hn : xs.length ≤ 1000) :
    qo.ROwn (w.alloc (.cells cs 79)) lo (w.alloc (.cells cs 79)).heap.size (.slice (some ⟨w.heap.size, 0, none⟩) xs.length xs.length) xs :=
  qo.ROwn.mk' ⟨by rw [qo.cellsL_len], .inr ⟨w.heap.size, xs.length, cs, rfl, hlo, heap_alloc_new w _, Nat.le_refl _, by unfold maxLen; omega, by rw [← Array.length_toList, hcs, qo.cellsL_len], by rw [hcs, ← qo.cellsL_len xs, List.take_length]⟩⟩

def opL (a b : Int) : List qo.V := [⟨4, 0, 1, a, 2, a, 0, 0⟩, ⟨7, 0, 0, 0, 0, 0, 0, b - a⟩, ⟨4, 0, 2, a, 1, b, 0, 0⟩, ⟨7, 0, 0, 0, 0, 0, 0, 0⟩]
def moW (a b : Int) : List qo.V := if mvB a b = true then opL a b else []
def moC (a b : Int) : Int := if mvB a b = true then 0 else 1
theorem moW_len (a b : Int) : (moW a b).length ≤ 20000 := by unfold moW; split <;> simp [opL]

theorem cells1 (x : qo.V) : qo.cellsL [x] = [.int .i64 x.a0, .int .i64 x.a1, .int .i64 x.a2, .int .i64 x.a3, .int .i64 x.a4, .int .i64 x.a5, .int .i64 x.a6, .int .i64 x.a7] := by
  simp [qo.cellsL, List.range_succ, qo.cellOf, List.getD]
theorem opMade (a b : Int) (w : World) (lo g : Nat) (hlo : lo ≤ w.heap.size) (hg : g = w.heap.size) :
    qo.ROwn (w.alloc (.cells #[.int .i64 4, .int .i64 0, .int .i64 1, .int .i64 a, .int .i64 2, .int .i64 a, .int .i64 0, .int .i64 0, .int .i64 7, .int .i64 0, .int .i64 0, .int .i64 0, .int .i64 0, .int .i64 0, .int .i64 0, .int .i64 (b - a), .int .i64 4, .int .i64 0, .int .i64 2, .int .i64 a, .int .i64 1, .int .i64 b, .int .i64 0, .int .i64 0, .int .i64 7, .int .i64 0, .int .i64 0, .int .i64 0, .int .i64 0, .int .i64 0, .int .i64 0, .int .i64 0] 79)) lo (w.alloc (.cells #[.int .i64 4, .int .i64 0, .int .i64 1, .int .i64 a, .int .i64 2, .int .i64 a, .int .i64 0, .int .i64 0, .int .i64 7, .int .i64 0, .int .i64 0, .int .i64 0, .int .i64 0, .int .i64 0, .int .i64 0, .int .i64 (b - a), .int .i64 4, .int .i64 0, .int .i64 2, .int .i64 a, .int .i64 1, .int .i64 b, .int .i64 0, .int .i64 0, .int .i64 7, .int .i64 0, .int .i64 0, .int .i64 0, .int .i64 0, .int .i64 0, .int .i64 0, .int .i64 0] 79)).heap.size (.slice (some ⟨g, 0, none⟩) 4 4) (opL a b) := by
  subst hg
  exact made w lo hlo (opL a b) #[.int .i64 4, .int .i64 0, .int .i64 1, .int .i64 a, .int .i64 2, .int .i64 a, .int .i64 0, .int .i64 0, .int .i64 7, .int .i64 0, .int .i64 0, .int .i64 0, .int .i64 0, .int .i64 0, .int .i64 0, .int .i64 (b - a), .int .i64 4, .int .i64 0, .int .i64 2, .int .i64 a, .int .i64 1, .int .i64 b, .int .i64 0, .int .i64 0, .int .i64 7, .int .i64 0, .int .i64 0, .int .i64 0, .int .i64 0, .int .i64 0, .int .i64 0, .int .i64 0] (by show _ = qo.cellsL ([⟨4, 0, 1, a, 2, a, 0, 0⟩] ++ ([⟨7, 0, 0, 0, 0, 0, 0, b - a⟩] ++ ([⟨4, 0, 2, a, 1, b, 0, 0⟩] ++ [⟨7, 0, 0, 0, 0, 0, 0, 0⟩]))); rw [qo.cellsL_append [_] _, qo.cellsL_append [_] _, qo.cellsL_append [_] _, cells1, cells1, cells1, cells1]; rfl) (by simp [opL])

theorem implOps (a b : Int) (h : (0 ≤ a ∧ a ≤ 23) ∧ (0 ≤ b ∧ b ≤ 23)) (w : World) : Calls Try.prog 57 #[.agg #[.int .i64 a, .int .i64 b]] w fun e w' => ∃ v', e = .returned v' ∧ qo.ROwn w' w.heap.size w'.heap.size v' (opL a b) ∧ Below w.heap.size w w' := by
  have e1 : IntKind.i64.wrap (b - a) = b - a := IntWalk.i64_in _ (by omega)
  clear h
  go_enter Try.func57, Try.ntmps57
  go_wp2
  go_ret
  refine ⟨.slice (some ⟨w.heap.size + 1 + 1, 0, none⟩) 4 4, rfl, opMade a b _ _ _ ?_ ?_, ?_⟩
  · simp; try omega
  · simp
  repeat (first | exact Below.refl _ _ | refine Below.setCell ?_ (by simp) _ | refine Below.alloc ?_ (by simp; try omega) _)

theorem specOv (a b : Int) (h : (0 ≤ a ∧ a ≤ 23) ∧ (0 ≤ b ∧ b ≤ 23)) (w : World) : Calls Try.prog 54 #[.int .i64 a, .int .i64 b] w fun e w' => ∃ v', e = .returned v' ∧ qo.ROwn w' w.heap.size w'.heap.size v' (opL a b) ∧ Below w.heap.size w w' := by
  have e1 : IntKind.i64.wrap (b - a) = b - a := IntWalk.i64_in _ (by omega)
  clear h
  go_enter Try.func54, Try.ntmps54
  go_wp2
  go_ret
  refine ⟨.slice (some ⟨w.heap.size + 1 + 1 + 1, 0, none⟩) 4 4, rfl, opMade a b _ _ _ ?_ ?_, ?_⟩
  · simp; try omega
  · simp
  repeat (first | exact Below.refl _ _ | refine Below.setCell ?_ (by simp) _ | refine Below.alloc ?_ (by simp; try omega) _)

end Go.Proofs.Ytedajefapddekaa.mo
