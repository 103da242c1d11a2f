/-
  The operations of a move: MoveOps of both sides.
-/
import Derived.Test.YtbbnheiibkcgiaaMz0
import Derived.Test.YtbbnheiibkcgiaaQo5
namespace Go.Proofs.Ytbbnheiibkcgiaa.mo
open Go.RowKit Go.Sort Go.Proofs.Ytbbnheiibkcgiaa.sl Go.Proofs.Ytbbnheiibkcgiaa.pm
set_option linter.unusedVariables false

/-- A literal list of operations. -/
theorem made (w : World) (lo : Nat) (hlo : lo ≤ w.heap.size) (xs : List qo.V) (cs : Array Value) (hcs : cs.toList = qo.cellsL xs) (hn : xs.length ≤ 1000) :
    qo.ROwn (w.alloc (.cells cs 65)) lo (w.alloc (.cells cs 65)).heap.size (.slice (some ⟨w.heap.size, 0, none⟩) xs.length xs.length) xs :=
  qo.ROwn.mk' ⟨by rw [qo.cellsL_len], .inr ⟨w.heap.size, xs.length, cs, rfl, hlo, heap_alloc_new w _, Nat.le_refl _, by unfold maxLen; omega, by rw [← Array.length_toList, hcs, qo.cellsL_len], by rw [hcs, ← qo.cellsL_len xs, List.take_length]⟩⟩

def opL (a b : Int) : List qo.V := [⟨4, 0, 1, a, 2, a, 0, 0⟩, ⟨7, 0, 0, 0, 0, 0, 0, b - a⟩, ⟨4, 0, 2, a, 1, b, 0, 0⟩, ⟨7, 0, 0, 0, 0, 0, 0, 0⟩]
def moW (a b : Int) : List qo.V := if mvB a b = true then opL a b else []
def moC (a b : Int) : Int := if mvB a b = true then 0 else 1
theorem moW_len (a b : Int) : (moW a b).length ≤ 20000 := by unfold moW; split <;> simp [opL]

theorem cells1 (x : qo.V) : qo.cellsL [x] = [.int .i64 x.a0, .int .i64 x.a1, .int .i64 x.a2, .int .i64 x.a3, .int .i64 x.a4, .int .i64 x.a5, .int .i64 x.a6, .int .i64 x.a7] := by
  simp [qo.cellsL, List.range_succ, qo.cellOf, List.getD]
theorem opMade (a b : Int) (w : World) (lo g : Nat) (hlo : lo ≤ w.heap.size) (hg : g = w.heap.size) :
    qo.ROwn (w.alloc (.cells #[.int .i64 4, .int .i64 0, .int .i64 1, .int .i64 a, .int .i64 2, .int .i64 a, .int .i64 0, .int .i64 0, .int .i64 7, .int .i64 0, .int .i64 0, .int .i64 0, .int .i64 0, .int .i64 0, .int .i64 0, .int .i64 (b - a), .int .i64 4, .int .i64 0, .int .i64 2, .int .i64 a, .int .i64 1, .int .i64 b, .int .i64 0, .int .i64 0, .int .i64 7, .int .i64 0, .int .i64 0, .int .i64 0, .int .i64 0, .int .i64 0, .int .i64 0, .int .i64 0] 65)) lo (w.alloc (.cells #[.int .i64 4, .int .i64 0, .int .i64 1, .int .i64 a, .int .i64 2, .int .i64 a, .int .i64 0, .int .i64 0, .int .i64 7, .int .i64 0, .int .i64 0, .int .i64 0, .int .i64 0, .int .i64 0, .int .i64 0, .int .i64 (b - a), .int .i64 4, .int .i64 0, .int .i64 2, .int .i64 a, .int .i64 1, .int .i64 b, .int .i64 0, .int .i64 0, .int .i64 7, .int .i64 0, .int .i64 0, .int .i64 0, .int .i64 0, .int .i64 0, .int .i64 0, .int .i64 0] 65)).heap.size (.slice (some ⟨g, 0, none⟩) 4 4) (opL a b) := by
  subst hg
  exact made w lo hlo (opL a b) #[.int .i64 4, .int .i64 0, .int .i64 1, .int .i64 a, .int .i64 2, .int .i64 a, .int .i64 0, .int .i64 0, .int .i64 7, .int .i64 0, .int .i64 0, .int .i64 0, .int .i64 0, .int .i64 0, .int .i64 0, .int .i64 (b - a), .int .i64 4, .int .i64 0, .int .i64 2, .int .i64 a, .int .i64 1, .int .i64 b, .int .i64 0, .int .i64 0, .int .i64 7, .int .i64 0, .int .i64 0, .int .i64 0, .int .i64 0, .int .i64 0, .int .i64 0, .int .i64 0] (by show _ = qo.cellsL ([⟨4, 0, 1, a, 2, a, 0, 0⟩] ++ ([⟨7, 0, 0, 0, 0, 0, 0, b - a⟩] ++ ([⟨4, 0, 2, a, 1, b, 0, 0⟩] ++ [⟨7, 0, 0, 0, 0, 0, 0, 0⟩]))); rw [qo.cellsL_append [_] _, qo.cellsL_append [_] _, qo.cellsL_append [_] _, cells1, cells1, cells1, cells1]; rfl) (by simp [opL])

theorem implOps (a b : Int) (h : (0 ≤ a ∧ a ≤ 23) ∧ (0 ≤ b ∧ b ≤ 23)) (w : World) : Calls Try.prog 50 #[.agg #[.int .i64 a, .int .i64 b]] w fun e w' => ∃ v', e = .returned v' ∧ qo.ROwn w' w.heap.size w'.heap.size v' (opL a b) ∧ Below w.heap.size w w' := by
  have e1 : IntKind.i64.wrap (b - a) = b - a := IntWalk.i64_in _ (by omega)
  clear h
  go_enter Try.func50, Try.ntmps50
  go_wp2
  go_ret
  refine ⟨.slice (some ⟨w.heap.size + 1 + 1, 0, none⟩) 4 4, rfl, opMade a b _ _ _ ?_ ?_, ?_⟩
  · simp; try omega
  · simp
  repeat (first | exact Below.refl _ _ | refine Below.setCell ?_ (by simp) _ | refine Below.alloc ?_ (by simp; try omega) _)

theorem specOv (a b : Int) (h : (0 ≤ a ∧ a ≤ 23) ∧ (0 ≤ b ∧ b ≤ 23)) (w : World) : Calls Try.prog 49 #[.int .i64 a, .int .i64 b] w fun e w' => ∃ v', e = .returned v' ∧ qo.ROwn w' w.heap.size w'.heap.size v' (opL a b) ∧ Below w.heap.size w w' := by
  have e1 : IntKind.i64.wrap (b - a) = b - a := IntWalk.i64_in _ (by omega)
  clear h
  go_enter Try.func49, Try.ntmps49
  go_wp2
  go_ret
  refine ⟨.slice (some ⟨w.heap.size + 1 + 1 + 1, 0, none⟩) 4 4, rfl, opMade a b _ _ _ ?_ ?_, ?_⟩
  · simp; try omega
  · simp
  repeat (first | exact Below.refl _ _ | refine Below.setCell ?_ (by simp) _ | refine Below.alloc ?_ (by simp; try omega) _)

theorem implMO (a b : Int) (w : World) : Calls Try.prog 24 #[.agg #[.int .i64 a, .int .i64 b]] w fun e w' => ∃ v', e = .returned (.tuple #[v', .int .i64 (moC a b)]) ∧ qo.OOwn w' w.heap.size w'.heap.size v' (moW a b) ∧ Below w.heap.size w w' := by
  have bE := (Below.refl w.heap.size w).alloc (Nat.le_refl _) (.cells #[.int .i64 a, .int .i64 b] 33)
  have c0 : (w.alloc (.cells #[.int .i64 a, .int .i64 b] 33)).cell? ⟨w.heap.size, 0, none⟩ = some (.int .i64 a) := World.cell?_alloc_at _ _ _ _ rfl
  have c1 : (w.alloc (.cells #[.int .i64 a, .int .i64 b] 33)).cell? ⟨w.heap.size, 1, none⟩ = some (.int .i64 b) := World.cell?_alloc_at _ _ _ _ rfl
  have hz0 : w.heap.size < (w.alloc (.cells #[.int .i64 a, .int .i64 b] 33)).heap.size := by simp
  have HV := hid (isVal a b)
  have HE := hid bE
  clear bE
  cases hm : mvB a b
  · have HW : Hid (moW a b = []) := hid (by rw [moW, hm]; rfl)
    have HC : Hid (moC a b = 1) := hid (by rw [moC, hm]; rfl)
    rw [hm] at HV
    clear hm
    go_enter Try.func24, Try.ntmps24
    go_wp2_with fail
    generalize w.alloc (.cells #[.int .i64 a, .int .i64 b] 33) = W0 at *
    refine (HV.out _).mono ?_
    rintro e w1 ⟨rfl, b1⟩
    have HB1 := hid (HE.out.trans (b1.mono (by omega)))
    clear b1
    go_wp2
    go_ret2
    exact ⟨.slice none 0 0, by rw [HC.out]; rfl, by rw [HW.out]; exact (qo.ROwn.nil _ _).oown, HB1.out⟩
  · have HW : Hid (moW a b = opL a b) := hid (by rw [moW, hm]; rfl)
    have HC : Hid (moC a b = 0) := hid (by rw [moC, hm]; rfl)
    have hr := mv_iff.1 hm
    have HO := hid (implOps a b ⟨hr.1, hr.2.1⟩)
    rw [hm] at HV
    clear hm hr
    go_enter Try.func24, Try.ntmps24
    go_wp2_with fail
    generalize w.alloc (.cells #[.int .i64 a, .int .i64 b] 33) = W0 at *
    refine (HV.out _).mono ?_
    rintro e w1 ⟨rfl, b1⟩
    have HB1 := hid (HE.out.trans (b1.mono (by omega)))
    have d0 := (b1.cell (p := ⟨w.heap.size, 0, none⟩) hz0).trans c0
    have d1 := (b1.cell (p := ⟨w.heap.size, 1, none⟩) hz0).trans c1
    clear b1 c0 c1
    go_wp2_with fail
    refine (HO.out _).mono ?_
    rintro e w2 ⟨v2, rfl, o2, b2⟩
    have HO2 := hid ((o2.lo HB1.out.size).oown)
    have HB2 := hid (HB1.out.trans (b2.mono HB1.out.size))
    clear b2 o2 d0 d1
    go_wp2
    go_ret2
    exact ⟨v2, by rw [HC.out]; rfl, by rw [HW.out]; exact HO2.out, HB2.out⟩

theorem specMO (a b : Int) (w : World) : Calls Try.prog 23 #[.agg #[.int .i64 a, .int .i64 b]] w fun e w' => ∃ v', e = .returned (.tuple #[v', .int .i64 (moC a b)]) ∧ qo.OOwn w' w.heap.size w'.heap.size v' (moW a b) ∧ Below w.heap.size w w' := by
  have bE := (Below.refl w.heap.size w).alloc (Nat.le_refl _) (.cells #[.int .i64 a, .int .i64 b] 33)
  have c0 : (w.alloc (.cells #[.int .i64 a, .int .i64 b] 33)).cell? ⟨w.heap.size, 0, none⟩ = some (.int .i64 a) := World.cell?_alloc_at _ _ _ _ rfl
  have c1 : (w.alloc (.cells #[.int .i64 a, .int .i64 b] 33)).cell? ⟨w.heap.size, 1, none⟩ = some (.int .i64 b) := World.cell?_alloc_at _ _ _ _ rfl
  have hz0 : w.heap.size < (w.alloc (.cells #[.int .i64 a, .int .i64 b] 33)).heap.size := by simp
  have HV := hid (specMv a b)
  have HE := hid bE
  clear bE
  cases hm : mvB a b
  · have HW : Hid (moW a b = []) := hid (by rw [moW, hm]; rfl)
    have HC : Hid (moC a b = 1) := hid (by rw [moC, hm]; rfl)
    rw [hm] at HV
    clear hm
    go_enter Try.func23, Try.ntmps23
    go_wp2_with fail
    generalize w.alloc (.cells #[.int .i64 a, .int .i64 b] 33) = W0 at *
    refine (HV.out _).mono ?_
    rintro e w1 ⟨rfl, b1⟩
    have HB1 := hid (HE.out.trans (b1.mono (by omega)))
    clear b1
    go_wp2
    go_ret2
    exact ⟨.slice none 0 0, by rw [HC.out]; rfl, by rw [HW.out]; exact (qo.ROwn.nil _ _).oown, HB1.out⟩
  · have HW : Hid (moW a b = opL a b) := hid (by rw [moW, hm]; rfl)
    have HC : Hid (moC a b = 0) := hid (by rw [moC, hm]; rfl)
    have hr := mv_iff.1 hm
    have HO := hid (specOv a b ⟨hr.1, hr.2.1⟩)
    rw [hm] at HV
    clear hm hr
    go_enter Try.func23, Try.ntmps23
    go_wp2_with fail
    generalize w.alloc (.cells #[.int .i64 a, .int .i64 b] 33) = W0 at *
    refine (HV.out _).mono ?_
    rintro e w1 ⟨rfl, b1⟩
    have HB1 := hid (HE.out.trans (b1.mono (by omega)))
    have d0 := (b1.cell (p := ⟨w.heap.size, 0, none⟩) hz0).trans c0
    have d1 := (b1.cell (p := ⟨w.heap.size, 1, none⟩) hz0).trans c1
    clear b1 c0 c1
    go_wp2_with fail
    refine (HO.out _).mono ?_
    rintro e w2 ⟨v2, rfl, o2, b2⟩
    have HO2 := hid ((o2.lo HB1.out.size).oown)
    have HB2 := hid (HB1.out.trans (b2.mono HB1.out.size))
    clear b2 o2 d0 d1
    go_wp2
    go_ret2
    exact ⟨v2, by rw [HC.out]; rfl, by rw [HW.out]; exact HO2.out, HB2.out⟩

theorem toMv (a c : Int) (w : World) :
    Calls Try.prog 19 #[.agg #[.int .i64 a, .int .i64 c]] w fun e w' => e = .returned (.agg #[.int .i64 a, .int .i64 c]) ∧ Below w.heap.size w w' := by
  go_enter Try.func19, Try.ntmps19
  go_wp2
  refine bodyPost_ret (v := .agg #[.int .i64 a, .int .i64 c]) (by simp [results, Try.results19, go_sem]) rfl ⟨rfl, ?_⟩
  repeat (first | exact Below.refl _ _ | refine Below.setCell ?_ (by simp) _ | refine Below.alloc ?_ (by simp; try omega) _)
end Go.Proofs.Ytbbnheiibkcgiaa.mo
