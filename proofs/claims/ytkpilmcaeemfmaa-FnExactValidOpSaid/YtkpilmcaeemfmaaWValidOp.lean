/-
  The walk of the law of ValidOp.
-/
import Derived.Test.YtkpilmcaeemfmaaVv
import Derived.Test.YtkpilmcaeemfmaaSa
import Derived.Deep.RegionHeld3
namespace Go.Proofs.Ytkpilmcaeemfmaa.wvalidOp
open Go.RowKit
set_option linter.unusedVariables false

set_option maxRecDepth 100000 in
set_option maxHeartbeats 20000000 in
theorem law (a0 c0 e0 g0 i0 t0 u0 z0 : Int) (w : World) (ha0 : -9223372036854775808 ≤ a0 ∧ a0 ≤ 9223372036854775807) (hc0 : -9223372036854775808 ≤ c0 ∧ c0 ≤ 9223372036854775807) (he0 : -9223372036854775808 ≤ e0 ∧ e0 ≤ 9223372036854775807) (hg0 : -9223372036854775808 ≤ g0 ∧ g0 ≤ 9223372036854775807) (hi0 : -9223372036854775808 ≤ i0 ∧ i0 ≤ 9223372036854775807) (ht0 : -9223372036854775808 ≤ t0 ∧ t0 ≤ 9223372036854775807) (hu0 : -9223372036854775808 ≤ u0 ∧ u0 ≤ 9223372036854775807) (hz0 : -9223372036854775808 ≤ z0 ∧ z0 ≤ 9223372036854775807) :
    Calls Try.prog 8 #[.agg #[.int .i64 a0, .int .i64 c0, .int .i64 e0, .int .i64 g0, .int .i64 i0, .int .i64 t0, .int .i64 u0, .int .i64 z0]] w fun e w' => e = .returned (.bool true) ∧ Below w.heap.size w w' := by
  have SP : Hid (∀  (W : World) , Calls Try.prog 44 #[.agg #[.int .i64 a0, .int .i64 c0, .int .i64 e0, .int .i64 g0, .int .i64 i0, .int .i64 t0, .int .i64 u0, .int .i64 z0]] W fun e w' => e = .returned (.bool (vo.opB a0 c0 e0 g0 i0 t0 u0 z0)) ∧ Below W.heap.size W w') := sl.hid (fun  W   => vo.specVO a0 c0 e0 g0 i0 t0 u0 z0   W   )
  have IP : Hid (∀  (W : World) , Calls Try.prog 46 #[.agg #[.int .i64 a0, .int .i64 c0, .int .i64 e0, .int .i64 g0, .int .i64 i0, .int .i64 t0, .int .i64 u0, .int .i64 z0]] W fun e w' => e = .returned (.bool (vo.opB a0 c0 e0 g0 i0 t0 u0 z0)) ∧ Below W.heap.size W w') := sl.hid (fun  W   => vo.implVO a0 c0 e0 g0 i0 t0 u0 z0   W   )
  generalize vo.opB a0 c0 e0 g0 i0 t0 u0 z0 = q0 at *
  clear  ha0 hc0 he0 hg0 hi0 ht0 hu0 hz0
  go_enter Try.func8, Try.ntmps8
  go_wp2_with fail
  have bE : Below w.heap.size w (w.alloc (.cells #[.int .i64 a0, .int .i64 c0, .int .i64 e0, .int .i64 g0, .int .i64 i0, .int .i64 t0, .int .i64 u0, .int .i64 z0] 66)) := ((Below.refl w.heap.size w).alloc (by simp) _)
  have hzW0 : w.heap.size + 1 ≤ (w.alloc (.cells #[.int .i64 a0, .int .i64 c0, .int .i64 e0, .int .i64 g0, .int .i64 i0, .int .i64 t0, .int .i64 u0, .int .i64 z0] 66)).heap.size := by simp
  have kp0_0W0 : (w.alloc (.cells #[.int .i64 a0, .int .i64 c0, .int .i64 e0, .int .i64 g0, .int .i64 i0, .int .i64 t0, .int .i64 u0, .int .i64 z0] 66)).cell? ⟨w.heap.size, 0, none⟩ = some (.int .i64 a0) := World.cell?_alloc_at _ _ _ _ (by simp)
  have kp0_1W0 : (w.alloc (.cells #[.int .i64 a0, .int .i64 c0, .int .i64 e0, .int .i64 g0, .int .i64 i0, .int .i64 t0, .int .i64 u0, .int .i64 z0] 66)).cell? ⟨w.heap.size, 1, none⟩ = some (.int .i64 c0) := World.cell?_alloc_at _ _ _ _ (by simp)
  have kp0_2W0 : (w.alloc (.cells #[.int .i64 a0, .int .i64 c0, .int .i64 e0, .int .i64 g0, .int .i64 i0, .int .i64 t0, .int .i64 u0, .int .i64 z0] 66)).cell? ⟨w.heap.size, 2, none⟩ = some (.int .i64 e0) := World.cell?_alloc_at _ _ _ _ (by simp)
  have kp0_3W0 : (w.alloc (.cells #[.int .i64 a0, .int .i64 c0, .int .i64 e0, .int .i64 g0, .int .i64 i0, .int .i64 t0, .int .i64 u0, .int .i64 z0] 66)).cell? ⟨w.heap.size, 3, none⟩ = some (.int .i64 g0) := World.cell?_alloc_at _ _ _ _ (by simp)
  have kp0_4W0 : (w.alloc (.cells #[.int .i64 a0, .int .i64 c0, .int .i64 e0, .int .i64 g0, .int .i64 i0, .int .i64 t0, .int .i64 u0, .int .i64 z0] 66)).cell? ⟨w.heap.size, 4, none⟩ = some (.int .i64 i0) := World.cell?_alloc_at _ _ _ _ (by simp)
  have kp0_5W0 : (w.alloc (.cells #[.int .i64 a0, .int .i64 c0, .int .i64 e0, .int .i64 g0, .int .i64 i0, .int .i64 t0, .int .i64 u0, .int .i64 z0] 66)).cell? ⟨w.heap.size, 5, none⟩ = some (.int .i64 t0) := World.cell?_alloc_at _ _ _ _ (by simp)
  have kp0_6W0 : (w.alloc (.cells #[.int .i64 a0, .int .i64 c0, .int .i64 e0, .int .i64 g0, .int .i64 i0, .int .i64 t0, .int .i64 u0, .int .i64 z0] 66)).cell? ⟨w.heap.size, 6, none⟩ = some (.int .i64 u0) := World.cell?_alloc_at _ _ _ _ (by simp)
  have kp0_7W0 : (w.alloc (.cells #[.int .i64 a0, .int .i64 c0, .int .i64 e0, .int .i64 g0, .int .i64 i0, .int .i64 t0, .int .i64 u0, .int .i64 z0] 66)).cell? ⟨w.heap.size, 7, none⟩ = some (.int .i64 z0) := World.cell?_alloc_at _ _ _ _ (by simp)
  have CW0 := sl.hid bE
  clear bE 
  generalize (w.alloc (.cells #[.int .i64 a0, .int .i64 c0, .int .i64 e0, .int .i64 g0, .int .i64 i0, .int .i64 t0, .int .i64 u0, .int .i64 z0] 66)) = W0 at *
  go_wp2_with fail
  refine (vo.toO a0 c0 e0 g0 i0 t0 u0 z0 W0).mono ?_
  rintro e W1 ⟨rfl, b1⟩
  have hzW1 : W0.heap.size ≤ W1.heap.size := b1.size
  have kp0_0W1 := (b1.cell (p := ⟨w.heap.size, 0, none⟩) (by show w.heap.size < W0.heap.size; omega)).trans kp0_0W0
  have kp0_1W1 := (b1.cell (p := ⟨w.heap.size, 1, none⟩) (by show w.heap.size < W0.heap.size; omega)).trans kp0_1W0
  have kp0_2W1 := (b1.cell (p := ⟨w.heap.size, 2, none⟩) (by show w.heap.size < W0.heap.size; omega)).trans kp0_2W0
  have kp0_3W1 := (b1.cell (p := ⟨w.heap.size, 3, none⟩) (by show w.heap.size < W0.heap.size; omega)).trans kp0_3W0
  have kp0_4W1 := (b1.cell (p := ⟨w.heap.size, 4, none⟩) (by show w.heap.size < W0.heap.size; omega)).trans kp0_4W0
  have kp0_5W1 := (b1.cell (p := ⟨w.heap.size, 5, none⟩) (by show w.heap.size < W0.heap.size; omega)).trans kp0_5W0
  have kp0_6W1 := (b1.cell (p := ⟨w.heap.size, 6, none⟩) (by show w.heap.size < W0.heap.size; omega)).trans kp0_6W0
  have kp0_7W1 := (b1.cell (p := ⟨w.heap.size, 7, none⟩) (by show w.heap.size < W0.heap.size; omega)).trans kp0_7W0
  have CW1 := sl.hid (CW0.out.trans (b1.mono (by show w.heap.size ≤ W0.heap.size; omega)))
  clear b1 kp0_0W0 kp0_1W0 kp0_2W0 kp0_3W0 kp0_4W0 kp0_5W0 kp0_6W0 kp0_7W0 CW0
  go_wp2_with fail
  refine (SP.out  W1  ).mono ?_
  rintro e W2 ⟨rfl, b2⟩
  have hzW2 : W1.heap.size ≤ W2.heap.size := b2.size
  have kp0_0W2 := (b2.cell (p := ⟨w.heap.size, 0, none⟩) (by show w.heap.size < W1.heap.size; omega)).trans kp0_0W1
  have kp0_1W2 := (b2.cell (p := ⟨w.heap.size, 1, none⟩) (by show w.heap.size < W1.heap.size; omega)).trans kp0_1W1
  have kp0_2W2 := (b2.cell (p := ⟨w.heap.size, 2, none⟩) (by show w.heap.size < W1.heap.size; omega)).trans kp0_2W1
  have kp0_3W2 := (b2.cell (p := ⟨w.heap.size, 3, none⟩) (by show w.heap.size < W1.heap.size; omega)).trans kp0_3W1
  have kp0_4W2 := (b2.cell (p := ⟨w.heap.size, 4, none⟩) (by show w.heap.size < W1.heap.size; omega)).trans kp0_4W1
  have kp0_5W2 := (b2.cell (p := ⟨w.heap.size, 5, none⟩) (by show w.heap.size < W1.heap.size; omega)).trans kp0_5W1
  have kp0_6W2 := (b2.cell (p := ⟨w.heap.size, 6, none⟩) (by show w.heap.size < W1.heap.size; omega)).trans kp0_6W1
  have kp0_7W2 := (b2.cell (p := ⟨w.heap.size, 7, none⟩) (by show w.heap.size < W1.heap.size; omega)).trans kp0_7W1
  have CW2 := sl.hid (CW1.out.trans (b2.mono (by show w.heap.size ≤ W1.heap.size; omega)))
  clear b2 kp0_0W1 kp0_1W1 kp0_2W1 kp0_3W1 kp0_4W1 kp0_5W1 kp0_6W1 kp0_7W1 CW1
  go_wp2_with fail
  refine (vo.toO a0 c0 e0 g0 i0 t0 u0 z0 W2).mono ?_
  rintro e W3 ⟨rfl, b3⟩
  have hzW3 : W2.heap.size ≤ W3.heap.size := b3.size
  have kp0_0W3 := (b3.cell (p := ⟨w.heap.size, 0, none⟩) (by show w.heap.size < W2.heap.size; omega)).trans kp0_0W2
  have kp0_1W3 := (b3.cell (p := ⟨w.heap.size, 1, none⟩) (by show w.heap.size < W2.heap.size; omega)).trans kp0_1W2
  have kp0_2W3 := (b3.cell (p := ⟨w.heap.size, 2, none⟩) (by show w.heap.size < W2.heap.size; omega)).trans kp0_2W2
  have kp0_3W3 := (b3.cell (p := ⟨w.heap.size, 3, none⟩) (by show w.heap.size < W2.heap.size; omega)).trans kp0_3W2
  have kp0_4W3 := (b3.cell (p := ⟨w.heap.size, 4, none⟩) (by show w.heap.size < W2.heap.size; omega)).trans kp0_4W2
  have kp0_5W3 := (b3.cell (p := ⟨w.heap.size, 5, none⟩) (by show w.heap.size < W2.heap.size; omega)).trans kp0_5W2
  have kp0_6W3 := (b3.cell (p := ⟨w.heap.size, 6, none⟩) (by show w.heap.size < W2.heap.size; omega)).trans kp0_6W2
  have kp0_7W3 := (b3.cell (p := ⟨w.heap.size, 7, none⟩) (by show w.heap.size < W2.heap.size; omega)).trans kp0_7W2
  have CW3 := sl.hid (CW2.out.trans (b3.mono (by show w.heap.size ≤ W2.heap.size; omega)))
  clear b3 kp0_0W2 kp0_1W2 kp0_2W2 kp0_3W2 kp0_4W2 kp0_5W2 kp0_6W2 kp0_7W2 CW2
  go_wp2_with fail
  refine (IP.out  W3  ).mono ?_
  rintro e W4 ⟨rfl, b4⟩
  have hzW4 : W3.heap.size ≤ W4.heap.size := b4.size
  have kp0_0W4 := (b4.cell (p := ⟨w.heap.size, 0, none⟩) (by show w.heap.size < W3.heap.size; omega)).trans kp0_0W3
  have kp0_1W4 := (b4.cell (p := ⟨w.heap.size, 1, none⟩) (by show w.heap.size < W3.heap.size; omega)).trans kp0_1W3
  have kp0_2W4 := (b4.cell (p := ⟨w.heap.size, 2, none⟩) (by show w.heap.size < W3.heap.size; omega)).trans kp0_2W3
  have kp0_3W4 := (b4.cell (p := ⟨w.heap.size, 3, none⟩) (by show w.heap.size < W3.heap.size; omega)).trans kp0_3W3
  have kp0_4W4 := (b4.cell (p := ⟨w.heap.size, 4, none⟩) (by show w.heap.size < W3.heap.size; omega)).trans kp0_4W3
  have kp0_5W4 := (b4.cell (p := ⟨w.heap.size, 5, none⟩) (by show w.heap.size < W3.heap.size; omega)).trans kp0_5W3
  have kp0_6W4 := (b4.cell (p := ⟨w.heap.size, 6, none⟩) (by show w.heap.size < W3.heap.size; omega)).trans kp0_6W3
  have kp0_7W4 := (b4.cell (p := ⟨w.heap.size, 7, none⟩) (by show w.heap.size < W3.heap.size; omega)).trans kp0_7W3
  have CW4 := sl.hid (CW3.out.trans (b4.mono (by show w.heap.size ≤ W3.heap.size; omega)))
  clear b4 kp0_0W3 kp0_1W3 kp0_2W3 kp0_3W3 kp0_4W3 kp0_5W3 kp0_6W3 kp0_7W3 CW3
  go_wp2
  go_ret
  exact ⟨rfl, CW4.out⟩
end Go.Proofs.Ytkpilmcaeemfmaa.wvalidOp
