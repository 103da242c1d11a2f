/-
  The program's operationOf: each kind's own type.
-/
import Derived.Test.YtkpilmcaeemfmaaVo
import Derived.Laws.EntriesVeiled
namespace Go.Proofs.Ytkpilmcaeemfmaa.vo
open Go.RowKit Go.Sort Go.Proofs.Ytkpilmcaeemfmaa.nd Go.Proofs.Ytkpilmcaeemfmaa.sl
set_option linter.unusedVariables false
set_option linter.unusedSimpArgs false
def fns : Array Value := #[.nilFunc, .func (.func 182) #[] #[], .func (.func 183) #[] #[], .func (.func 184) #[] #[], .func (.func 185) #[] #[], .func (.func 186) #[] #[], .func (.func 187) #[] #[], .func (.func 188) #[] #[], .func (.func 189) #[] #[], .func (.func 190) #[] #[]]
theorem opAt_new (k d fb fa tb ta c r : Int) (w : World) : OpAt (w.alloc (.cells #[.int .i64 k, .int .i64 d, .int .i64 fb, .int .i64 fa, .int .i64 tb, .int .i64 ta, .int .i64 c, .int .i64 r] 70)) w.heap.size 0 k d fb fa tb ta c r :=
  ⟨by simp, World.cell?_alloc_at _ _ _ _ rfl, World.cell?_alloc_at _ _ _ _ rfl, World.cell?_alloc_at _ _ _ _ rfl, World.cell?_alloc_at _ _ _ _ rfl, World.cell?_alloc_at _ _ _ _ rfl, World.cell?_alloc_at _ _ _ _ rfl, World.cell?_alloc_at _ _ _ _ rfl, World.cell?_alloc_at _ _ _ _ rfl⟩
theorem clo1 (k d fb fa tb ta c r : Int) (w : World) : Calls Try.prog 182 #[.agg #[.int .i64 k, .int .i64 d, .int .i64 fb, .int .i64 fa, .int .i64 tb, .int .i64 ta, .int .i64 c, .int .i64 r]] w fun e w' => e = .returned (.iface 135 (.agg #[.int .i64 k, .int .i64 d, .int .i64 fb, .int .i64 fa, .int .i64 tb, .int .i64 ta, .int .i64 c, .int .i64 r])) ∧ ∃ q os, w' = grow (w.drewN q) os := by
  go_enter Try.func182, Try.ntmps182
  go_wp2
  go_ret
  refine ⟨by simp, 0, #[.cells #[.int .i64 k, .int .i64 d, .int .i64 fb, .int .i64 fa, .int .i64 tb, .int .i64 ta, .int .i64 c, .int .i64 r] 70], ?_⟩
  rw [alloc_eq_grow]; rfl
theorem clo2 (k d fb fa tb ta c r : Int) (w : World) : Calls Try.prog 183 #[.agg #[.int .i64 k, .int .i64 d, .int .i64 fb, .int .i64 fa, .int .i64 tb, .int .i64 ta, .int .i64 c, .int .i64 r]] w fun e w' => e = .returned (.iface 136 (.agg #[.int .i64 k, .int .i64 d, .int .i64 fb, .int .i64 fa, .int .i64 tb, .int .i64 ta, .int .i64 c, .int .i64 r])) ∧ ∃ q os, w' = grow (w.drewN q) os := by
  go_enter Try.func183, Try.ntmps183
  go_wp2
  go_ret
  refine ⟨by simp, 0, #[.cells #[.int .i64 k, .int .i64 d, .int .i64 fb, .int .i64 fa, .int .i64 tb, .int .i64 ta, .int .i64 c, .int .i64 r] 70], ?_⟩
  rw [alloc_eq_grow]; rfl
theorem clo3 (k d fb fa tb ta c r : Int) (w : World) : Calls Try.prog 184 #[.agg #[.int .i64 k, .int .i64 d, .int .i64 fb, .int .i64 fa, .int .i64 tb, .int .i64 ta, .int .i64 c, .int .i64 r]] w fun e w' => e = .returned (.iface 137 (.agg #[.int .i64 k, .int .i64 d, .int .i64 fb, .int .i64 fa, .int .i64 tb, .int .i64 ta, .int .i64 c, .int .i64 r])) ∧ ∃ q os, w' = grow (w.drewN q) os := by
  go_enter Try.func184, Try.ntmps184
  go_wp2
  go_ret
  refine ⟨by simp, 0, #[.cells #[.int .i64 k, .int .i64 d, .int .i64 fb, .int .i64 fa, .int .i64 tb, .int .i64 ta, .int .i64 c, .int .i64 r] 70], ?_⟩
  rw [alloc_eq_grow]; rfl
theorem clo4 (k d fb fa tb ta c r : Int) (w : World) : Calls Try.prog 185 #[.agg #[.int .i64 k, .int .i64 d, .int .i64 fb, .int .i64 fa, .int .i64 tb, .int .i64 ta, .int .i64 c, .int .i64 r]] w fun e w' => e = .returned (.iface 138 (.agg #[.int .i64 k, .int .i64 d, .int .i64 fb, .int .i64 fa, .int .i64 tb, .int .i64 ta, .int .i64 c, .int .i64 r])) ∧ ∃ q os, w' = grow (w.drewN q) os := by
  go_enter Try.func185, Try.ntmps185
  go_wp2
  go_ret
  refine ⟨by simp, 0, #[.cells #[.int .i64 k, .int .i64 d, .int .i64 fb, .int .i64 fa, .int .i64 tb, .int .i64 ta, .int .i64 c, .int .i64 r] 70], ?_⟩
  rw [alloc_eq_grow]; rfl
theorem clo5 (k d fb fa tb ta c r : Int) (w : World) : Calls Try.prog 186 #[.agg #[.int .i64 k, .int .i64 d, .int .i64 fb, .int .i64 fa, .int .i64 tb, .int .i64 ta, .int .i64 c, .int .i64 r]] w fun e w' => e = .returned (.iface 139 (.agg #[.int .i64 k, .int .i64 d, .int .i64 fb, .int .i64 fa, .int .i64 tb, .int .i64 ta, .int .i64 c, .int .i64 r])) ∧ ∃ q os, w' = grow (w.drewN q) os := by
  go_enter Try.func186, Try.ntmps186
  go_wp2
  go_ret
  refine ⟨by simp, 0, #[.cells #[.int .i64 k, .int .i64 d, .int .i64 fb, .int .i64 fa, .int .i64 tb, .int .i64 ta, .int .i64 c, .int .i64 r] 70], ?_⟩
  rw [alloc_eq_grow]; rfl
theorem clo6 (k d fb fa tb ta c r : Int) (w : World) : Calls Try.prog 187 #[.agg #[.int .i64 k, .int .i64 d, .int .i64 fb, .int .i64 fa, .int .i64 tb, .int .i64 ta, .int .i64 c, .int .i64 r]] w fun e w' => e = .returned (.iface 140 (.agg #[.int .i64 k, .int .i64 d, .int .i64 fb, .int .i64 fa, .int .i64 tb, .int .i64 ta, .int .i64 c, .int .i64 r])) ∧ ∃ q os, w' = grow (w.drewN q) os := by
  go_enter Try.func187, Try.ntmps187
  go_wp2
  go_ret
  refine ⟨by simp, 0, #[.cells #[.int .i64 k, .int .i64 d, .int .i64 fb, .int .i64 fa, .int .i64 tb, .int .i64 ta, .int .i64 c, .int .i64 r] 70], ?_⟩
  rw [alloc_eq_grow]; rfl
theorem clo7 (k d fb fa tb ta c r : Int) (w : World) : Calls Try.prog 188 #[.agg #[.int .i64 k, .int .i64 d, .int .i64 fb, .int .i64 fa, .int .i64 tb, .int .i64 ta, .int .i64 c, .int .i64 r]] w fun e w' => e = .returned (.iface 142 (.agg #[.int .i64 k, .int .i64 d, .int .i64 fb, .int .i64 fa, .int .i64 tb, .int .i64 ta, .int .i64 c, .int .i64 r])) ∧ ∃ q os, w' = grow (w.drewN q) os := by
  go_enter Try.func188, Try.ntmps188
  go_wp2
  go_ret
  refine ⟨by simp, 0, #[.cells #[.int .i64 k, .int .i64 d, .int .i64 fb, .int .i64 fa, .int .i64 tb, .int .i64 ta, .int .i64 c, .int .i64 r] 70], ?_⟩
  rw [alloc_eq_grow]; rfl
theorem clo8 (k d fb fa tb ta c r : Int) (w : World) : Calls Try.prog 189 #[.agg #[.int .i64 k, .int .i64 d, .int .i64 fb, .int .i64 fa, .int .i64 tb, .int .i64 ta, .int .i64 c, .int .i64 r]] w fun e w' => e = .returned (.iface 143 (.agg #[.int .i64 k, .int .i64 d, .int .i64 fb, .int .i64 fa, .int .i64 tb, .int .i64 ta, .int .i64 c, .int .i64 r])) ∧ ∃ q os, w' = grow (w.drewN q) os := by
  go_enter Try.func189, Try.ntmps189
  go_wp2
  go_ret
  refine ⟨by simp, 0, #[.cells #[.int .i64 k, .int .i64 d, .int .i64 fb, .int .i64 fa, .int .i64 tb, .int .i64 ta, .int .i64 c, .int .i64 r] 70], ?_⟩
  rw [alloc_eq_grow]; rfl
theorem clo9 (k d fb fa tb ta c r : Int) (w : World) : Calls Try.prog 190 #[.agg #[.int .i64 k, .int .i64 d, .int .i64 fb, .int .i64 fa, .int .i64 tb, .int .i64 ta, .int .i64 c, .int .i64 r]] w fun e w' => e = .returned (.iface 144 (.agg #[.int .i64 k, .int .i64 d, .int .i64 fb, .int .i64 fa, .int .i64 tb, .int .i64 ta, .int .i64 c, .int .i64 r])) ∧ ∃ q os, w' = grow (w.drewN q) os := by
  go_enter Try.func190, Try.ntmps190
  go_wp2
  go_ret
  refine ⟨by simp, 0, #[.cells #[.int .i64 k, .int .i64 d, .int .i64 fb, .int .i64 fa, .int .i64 tb, .int .i64 ta, .int .i64 c, .int .i64 r] 70], ?_⟩
  rw [alloc_eq_grow]; rfl
set_option maxRecDepth 100000 in
set_option maxHeartbeats 2000000 in
theorem opOf1 (d fb fa tb ta c r : Int) (w : World) : Calls Try.prog 112 #[.agg #[.int .i64 1, .int .i64 d, .int .i64 fb, .int .i64 fa, .int .i64 tb, .int .i64 ta, .int .i64 c, .int .i64 r]] w fun e w' => e = .returned (.iface 135 (.agg #[.int .i64 1, .int .i64 d, .int .i64 fb, .int .i64 fa, .int .i64 tb, .int .i64 ta, .int .i64 c, .int .i64 r])) ∧ Below w.heap.size w w' := by
  have mixed : Try.prog.follows .mixedOrders = true := by kernel_rfl
  go_enter Try.func112, Try.ntmps112
  go_wp2_with (go_at_call 67; refine (nd.within64 _ _ _ _).mono ?_; rintro e w' ⟨rfl, rfl⟩)
  have H1 := opAt_new 1 d fb fa tb ta c r w
  have b1 : Below w.heap.size w (w.alloc (.cells #[.int .i64 1, .int .i64 d, .int .i64 fb, .int .i64 fa, .int .i64 tb, .int .i64 ta, .int .i64 c, .int .i64 r] 70)) := (Below.refl _ _).alloc (Nat.le_refl _) _
  have hs : (w.alloc (.cells #[.int .i64 1, .int .i64 d, .int .i64 fb, .int .i64 fa, .int .i64 tb, .int .i64 ta, .int .i64 c, .int .i64 r] 70)).heap.size = w.heap.size + 1 := by simp
  generalize w.alloc (.cells #[.int .i64 1, .int .i64 d, .int .i64 fb, .int .i64 fa, .int .i64 tb, .int .i64 ta, .int .i64 c, .int .i64 r] 70) = W1 at *
  have b2 : Below W1.heap.size W1 (W1.alloc (.cells #[.nilFunc, .func (.func 182) #[] #[], .func (.func 183) #[] #[], .func (.func 184) #[] #[], .func (.func 185) #[] #[], .func (.func 186) #[] #[], .func (.func 187) #[] #[], .func (.func 188) #[] #[], .func (.func 189) #[] #[], .func (.func 190) #[] #[]] 189)) := (Below.refl _ _).alloc (Nat.le_refl _) _
  have H2 := H1.below b2
  have f0 : (W1.alloc (.cells #[.nilFunc, .func (.func 182) #[] #[], .func (.func 183) #[] #[], .func (.func 184) #[] #[], .func (.func 185) #[] #[], .func (.func 186) #[] #[], .func (.func 187) #[] #[], .func (.func 188) #[] #[], .func (.func 189) #[] #[], .func (.func 190) #[] #[]] 189)).cell? ⟨w.heap.size + 1, 1, none⟩ = some (.func (.func 182) #[] #[]) := by rw [← hs]; exact World.cell?_alloc_at _ _ _ _ rfl
  have flt : w.heap.size + 1 < (W1.alloc (.cells #[.nilFunc, .func (.func 182) #[] #[], .func (.func 183) #[] #[], .func (.func 184) #[] #[], .func (.func 185) #[] #[], .func (.func 186) #[] #[], .func (.func 187) #[] #[], .func (.func 188) #[] #[], .func (.func 189) #[] #[], .func (.func 190) #[] #[]] 189)).heap.size := by rw [← hs]; simp
  have BE : Hid (Below w.heap.size w (W1.alloc (.cells #[.nilFunc, .func (.func 182) #[] #[], .func (.func 183) #[] #[], .func (.func 184) #[] #[], .func (.func 185) #[] #[], .func (.func 186) #[] #[], .func (.func 187) #[] #[], .func (.func 188) #[] #[], .func (.func 189) #[] #[], .func (.func 190) #[] #[]] 189))) := hid (b1.trans (b2.mono (by omega)))
  generalize W1.alloc (.cells #[.nilFunc, .func (.func 182) #[] #[], .func (.func 183) #[] #[], .func (.func 184) #[] #[], .func (.func 185) #[] #[], .func (.func 186) #[] #[], .func (.func 187) #[] #[], .func (.func 188) #[] #[], .func (.func 189) #[] #[], .func (.func 190) #[] #[]] 189) = W at *
  obtain ⟨e0, e1, e2, e3, e4, e5, e6, e7⟩ := H2.z
  have g0 := fun n os => cellG H2.lt e0 n os
  have g1 := fun n os => cellG H2.lt e1 n os
  have g2 := fun n os => cellG H2.lt e2 n os
  have g3 := fun n os => cellG H2.lt e3 n os
  have g4 := fun n os => cellG H2.lt e4 n os
  have g5 := fun n os => cellG H2.lt e5 n os
  have g6 := fun n os => cellG H2.lt e6 n os
  have g7 := fun n os => cellG H2.lt e7 n os
  have gf := fun n os => cellG flt f0 n os
  clear H1 H2 b1 b2 hs f0 flt e0 e1 e2 e3 e4 e5 e6 e7
  refine wp_region_quiet_grown mixed (by kernel_rfl) ?_
  repeat (go_big_quiet_step ((go_at_call 182; exact Calls.grown_of (clo1 _ _ _ _ _ _ _ _ _))))
  refine wpQuiet_nil ?_
  intro _ hw'
  obtain ⟨⟨nq, osq⟩, hw''⟩ := hw'
  subst hw''
  go_wp2
  go_ret
  exact ⟨by simp, BE.out.trans ((below_grow _ _ _).mono BE.out.size)⟩
set_option maxRecDepth 100000 in
set_option maxHeartbeats 2000000 in
theorem opOf2 (d fb fa tb ta c r : Int) (w : World) : Calls Try.prog 112 #[.agg #[.int .i64 2, .int .i64 d, .int .i64 fb, .int .i64 fa, .int .i64 tb, .int .i64 ta, .int .i64 c, .int .i64 r]] w fun e w' => e = .returned (.iface 136 (.agg #[.int .i64 2, .int .i64 d, .int .i64 fb, .int .i64 fa, .int .i64 tb, .int .i64 ta, .int .i64 c, .int .i64 r])) ∧ Below w.heap.size w w' := by
  have mixed : Try.prog.follows .mixedOrders = true := by kernel_rfl
  go_enter Try.func112, Try.ntmps112
  go_wp2_with (go_at_call 67; refine (nd.within64 _ _ _ _).mono ?_; rintro e w' ⟨rfl, rfl⟩)
  have H1 := opAt_new 2 d fb fa tb ta c r w
  have b1 : Below w.heap.size w (w.alloc (.cells #[.int .i64 2, .int .i64 d, .int .i64 fb, .int .i64 fa, .int .i64 tb, .int .i64 ta, .int .i64 c, .int .i64 r] 70)) := (Below.refl _ _).alloc (Nat.le_refl _) _
  have hs : (w.alloc (.cells #[.int .i64 2, .int .i64 d, .int .i64 fb, .int .i64 fa, .int .i64 tb, .int .i64 ta, .int .i64 c, .int .i64 r] 70)).heap.size = w.heap.size + 1 := by simp
  generalize w.alloc (.cells #[.int .i64 2, .int .i64 d, .int .i64 fb, .int .i64 fa, .int .i64 tb, .int .i64 ta, .int .i64 c, .int .i64 r] 70) = W1 at *
  have b2 : Below W1.heap.size W1 (W1.alloc (.cells #[.nilFunc, .func (.func 182) #[] #[], .func (.func 183) #[] #[], .func (.func 184) #[] #[], .func (.func 185) #[] #[], .func (.func 186) #[] #[], .func (.func 187) #[] #[], .func (.func 188) #[] #[], .func (.func 189) #[] #[], .func (.func 190) #[] #[]] 189)) := (Below.refl _ _).alloc (Nat.le_refl _) _
  have H2 := H1.below b2
  have f0 : (W1.alloc (.cells #[.nilFunc, .func (.func 182) #[] #[], .func (.func 183) #[] #[], .func (.func 184) #[] #[], .func (.func 185) #[] #[], .func (.func 186) #[] #[], .func (.func 187) #[] #[], .func (.func 188) #[] #[], .func (.func 189) #[] #[], .func (.func 190) #[] #[]] 189)).cell? ⟨w.heap.size + 1, 2, none⟩ = some (.func (.func 183) #[] #[]) := by rw [← hs]; exact World.cell?_alloc_at _ _ _ _ rfl
  have flt : w.heap.size + 1 < (W1.alloc (.cells #[.nilFunc, .func (.func 182) #[] #[], .func (.func 183) #[] #[], .func (.func 184) #[] #[], .func (.func 185) #[] #[], .func (.func 186) #[] #[], .func (.func 187) #[] #[], .func (.func 188) #[] #[], .func (.func 189) #[] #[], .func (.func 190) #[] #[]] 189)).heap.size := by rw [← hs]; simp
  have BE : Hid (Below w.heap.size w (W1.alloc (.cells #[.nilFunc, .func (.func 182) #[] #[], .func (.func 183) #[] #[], .func (.func 184) #[] #[], .func (.func 185) #[] #[], .func (.func 186) #[] #[], .func (.func 187) #[] #[], .func (.func 188) #[] #[], .func (.func 189) #[] #[], .func (.func 190) #[] #[]] 189))) := hid (b1.trans (b2.mono (by omega)))
  generalize W1.alloc (.cells #[.nilFunc, .func (.func 182) #[] #[], .func (.func 183) #[] #[], .func (.func 184) #[] #[], .func (.func 185) #[] #[], .func (.func 186) #[] #[], .func (.func 187) #[] #[], .func (.func 188) #[] #[], .func (.func 189) #[] #[], .func (.func 190) #[] #[]] 189) = W at *
  obtain ⟨e0, e1, e2, e3, e4, e5, e6, e7⟩ := H2.z
  have g0 := fun n os => cellG H2.lt e0 n os
  have g1 := fun n os => cellG H2.lt e1 n os
  have g2 := fun n os => cellG H2.lt e2 n os
  have g3 := fun n os => cellG H2.lt e3 n os
  have g4 := fun n os => cellG H2.lt e4 n os
  have g5 := fun n os => cellG H2.lt e5 n os
  have g6 := fun n os => cellG H2.lt e6 n os
  have g7 := fun n os => cellG H2.lt e7 n os
  have gf := fun n os => cellG flt f0 n os
  clear H1 H2 b1 b2 hs f0 flt e0 e1 e2 e3 e4 e5 e6 e7
  refine wp_region_quiet_grown mixed (by kernel_rfl) ?_
  repeat (go_big_quiet_step ((go_at_call 183; exact Calls.grown_of (clo2 _ _ _ _ _ _ _ _ _))))
  refine wpQuiet_nil ?_
  intro _ hw'
  obtain ⟨⟨nq, osq⟩, hw''⟩ := hw'
  subst hw''
  go_wp2
  go_ret
  exact ⟨by simp, BE.out.trans ((below_grow _ _ _).mono BE.out.size)⟩
set_option maxRecDepth 100000 in
set_option maxHeartbeats 2000000 in
theorem opOf3 (d fb fa tb ta c r : Int) (w : World) : Calls Try.prog 112 #[.agg #[.int .i64 3, .int .i64 d, .int .i64 fb, .int .i64 fa, .int .i64 tb, .int .i64 ta, .int .i64 c, .int .i64 r]] w fun e w' => e = .returned (.iface 137 (.agg #[.int .i64 3, .int .i64 d, .int .i64 fb, .int .i64 fa, .int .i64 tb, .int .i64 ta, .int .i64 c, .int .i64 r])) ∧ Below w.heap.size w w' := by
  have mixed : Try.prog.follows .mixedOrders = true := by kernel_rfl
  go_enter Try.func112, Try.ntmps112
  go_wp2_with (go_at_call 67; refine (nd.within64 _ _ _ _).mono ?_; rintro e w' ⟨rfl, rfl⟩)
  have H1 := opAt_new 3 d fb fa tb ta c r w
  have b1 : Below w.heap.size w (w.alloc (.cells #[.int .i64 3, .int .i64 d, .int .i64 fb, .int .i64 fa, .int .i64 tb, .int .i64 ta, .int .i64 c, .int .i64 r] 70)) := (Below.refl _ _).alloc (Nat.le_refl _) _
  have hs : (w.alloc (.cells #[.int .i64 3, .int .i64 d, .int .i64 fb, .int .i64 fa, .int .i64 tb, .int .i64 ta, .int .i64 c, .int .i64 r] 70)).heap.size = w.heap.size + 1 := by simp
  generalize w.alloc (.cells #[.int .i64 3, .int .i64 d, .int .i64 fb, .int .i64 fa, .int .i64 tb, .int .i64 ta, .int .i64 c, .int .i64 r] 70) = W1 at *
  have b2 : Below W1.heap.size W1 (W1.alloc (.cells #[.nilFunc, .func (.func 182) #[] #[], .func (.func 183) #[] #[], .func (.func 184) #[] #[], .func (.func 185) #[] #[], .func (.func 186) #[] #[], .func (.func 187) #[] #[], .func (.func 188) #[] #[], .func (.func 189) #[] #[], .func (.func 190) #[] #[]] 189)) := (Below.refl _ _).alloc (Nat.le_refl _) _
  have H2 := H1.below b2
  have f0 : (W1.alloc (.cells #[.nilFunc, .func (.func 182) #[] #[], .func (.func 183) #[] #[], .func (.func 184) #[] #[], .func (.func 185) #[] #[], .func (.func 186) #[] #[], .func (.func 187) #[] #[], .func (.func 188) #[] #[], .func (.func 189) #[] #[], .func (.func 190) #[] #[]] 189)).cell? ⟨w.heap.size + 1, 3, none⟩ = some (.func (.func 184) #[] #[]) := by rw [← hs]; exact World.cell?_alloc_at _ _ _ _ rfl
  have flt : w.heap.size + 1 < (W1.alloc (.cells #[.nilFunc, .func (.func 182) #[] #[], .func (.func 183) #[] #[], .func (.func 184) #[] #[], .func (.func 185) #[] #[], .func (.func 186) #[] #[], .func (.func 187) #[] #[], .func (.func 188) #[] #[], .func (.func 189) #[] #[], .func (.func 190) #[] #[]] 189)).heap.size := by rw [← hs]; simp
  have BE : Hid (Below w.heap.size w (W1.alloc (.cells #[.nilFunc, .func (.func 182) #[] #[], .func (.func 183) #[] #[], .func (.func 184) #[] #[], .func (.func 185) #[] #[], .func (.func 186) #[] #[], .func (.func 187) #[] #[], .func (.func 188) #[] #[], .func (.func 189) #[] #[], .func (.func 190) #[] #[]] 189))) := hid (b1.trans (b2.mono (by omega)))
  generalize W1.alloc (.cells #[.nilFunc, .func (.func 182) #[] #[], .func (.func 183) #[] #[], .func (.func 184) #[] #[], .func (.func 185) #[] #[], .func (.func 186) #[] #[], .func (.func 187) #[] #[], .func (.func 188) #[] #[], .func (.func 189) #[] #[], .func (.func 190) #[] #[]] 189) = W at *
  obtain ⟨e0, e1, e2, e3, e4, e5, e6, e7⟩ := H2.z
  have g0 := fun n os => cellG H2.lt e0 n os
  have g1 := fun n os => cellG H2.lt e1 n os
  have g2 := fun n os => cellG H2.lt e2 n os
  have g3 := fun n os => cellG H2.lt e3 n os
  have g4 := fun n os => cellG H2.lt e4 n os
  have g5 := fun n os => cellG H2.lt e5 n os
  have g6 := fun n os => cellG H2.lt e6 n os
  have g7 := fun n os => cellG H2.lt e7 n os
  have gf := fun n os => cellG flt f0 n os
  clear H1 H2 b1 b2 hs f0 flt e0 e1 e2 e3 e4 e5 e6 e7
  refine wp_region_quiet_grown mixed (by kernel_rfl) ?_
  repeat (go_big_quiet_step ((go_at_call 184; exact Calls.grown_of (clo3 _ _ _ _ _ _ _ _ _))))
  refine wpQuiet_nil ?_
  intro _ hw'
  obtain ⟨⟨nq, osq⟩, hw''⟩ := hw'
  subst hw''
  go_wp2
  go_ret
  exact ⟨by simp, BE.out.trans ((below_grow _ _ _).mono BE.out.size)⟩
set_option maxRecDepth 100000 in
set_option maxHeartbeats 2000000 in
theorem opOf4 (d fb fa tb ta c r : Int) (w : World) : Calls Try.prog 112 #[.agg #[.int .i64 4, .int .i64 d, .int .i64 fb, .int .i64 fa, .int .i64 tb, .int .i64 ta, .int .i64 c, .int .i64 r]] w fun e w' => e = .returned (.iface 138 (.agg #[.int .i64 4, .int .i64 d, .int .i64 fb, .int .i64 fa, .int .i64 tb, .int .i64 ta, .int .i64 c, .int .i64 r])) ∧ Below w.heap.size w w' := by
  have mixed : Try.prog.follows .mixedOrders = true := by kernel_rfl
  go_enter Try.func112, Try.ntmps112
  go_wp2_with (go_at_call 67; refine (nd.within64 _ _ _ _).mono ?_; rintro e w' ⟨rfl, rfl⟩)
  have H1 := opAt_new 4 d fb fa tb ta c r w
  have b1 : Below w.heap.size w (w.alloc (.cells #[.int .i64 4, .int .i64 d, .int .i64 fb, .int .i64 fa, .int .i64 tb, .int .i64 ta, .int .i64 c, .int .i64 r] 70)) := (Below.refl _ _).alloc (Nat.le_refl _) _
  have hs : (w.alloc (.cells #[.int .i64 4, .int .i64 d, .int .i64 fb, .int .i64 fa, .int .i64 tb, .int .i64 ta, .int .i64 c, .int .i64 r] 70)).heap.size = w.heap.size + 1 := by simp
  generalize w.alloc (.cells #[.int .i64 4, .int .i64 d, .int .i64 fb, .int .i64 fa, .int .i64 tb, .int .i64 ta, .int .i64 c, .int .i64 r] 70) = W1 at *
  have b2 : Below W1.heap.size W1 (W1.alloc (.cells #[.nilFunc, .func (.func 182) #[] #[], .func (.func 183) #[] #[], .func (.func 184) #[] #[], .func (.func 185) #[] #[], .func (.func 186) #[] #[], .func (.func 187) #[] #[], .func (.func 188) #[] #[], .func (.func 189) #[] #[], .func (.func 190) #[] #[]] 189)) := (Below.refl _ _).alloc (Nat.le_refl _) _
  have H2 := H1.below b2
  have f0 : (W1.alloc (.cells #[.nilFunc, .func (.func 182) #[] #[], .func (.func 183) #[] #[], .func (.func 184) #[] #[], .func (.func 185) #[] #[], .func (.func 186) #[] #[], .func (.func 187) #[] #[], .func (.func 188) #[] #[], .func (.func 189) #[] #[], .func (.func 190) #[] #[]] 189)).cell? ⟨w.heap.size + 1, 4, none⟩ = some (.func (.func 185) #[] #[]) := by rw [← hs]; exact World.cell?_alloc_at _ _ _ _ rfl
  have flt : w.heap.size + 1 < (W1.alloc (.cells #[.nilFunc, .func (.func 182) #[] #[], .func (.func 183) #[] #[], .func (.func 184) #[] #[], .func (.func 185) #[] #[], .func (.func 186) #[] #[], .func (.func 187) #[] #[], .func (.func 188) #[] #[], .func (.func 189) #[] #[], .func (.func 190) #[] #[]] 189)).heap.size := by rw [← hs]; simp
  have BE : Hid (Below w.heap.size w (W1.alloc (.cells #[.nilFunc, .func (.func 182) #[] #[], .func (.func 183) #[] #[], .func (.func 184) #[] #[], .func (.func 185) #[] #[], .func (.func 186) #[] #[], .func (.func 187) #[] #[], .func (.func 188) #[] #[], .func (.func 189) #[] #[], .func (.func 190) #[] #[]] 189))) := hid (b1.trans (b2.mono (by omega)))
  generalize W1.alloc (.cells #[.nilFunc, .func (.func 182) #[] #[], .func (.func 183) #[] #[], .func (.func 184) #[] #[], .func (.func 185) #[] #[], .func (.func 186) #[] #[], .func (.func 187) #[] #[], .func (.func 188) #[] #[], .func (.func 189) #[] #[], .func (.func 190) #[] #[]] 189) = W at *
  obtain ⟨e0, e1, e2, e3, e4, e5, e6, e7⟩ := H2.z
  have g0 := fun n os => cellG H2.lt e0 n os
  have g1 := fun n os => cellG H2.lt e1 n os
  have g2 := fun n os => cellG H2.lt e2 n os
  have g3 := fun n os => cellG H2.lt e3 n os
  have g4 := fun n os => cellG H2.lt e4 n os
  have g5 := fun n os => cellG H2.lt e5 n os
  have g6 := fun n os => cellG H2.lt e6 n os
  have g7 := fun n os => cellG H2.lt e7 n os
  have gf := fun n os => cellG flt f0 n os
  clear H1 H2 b1 b2 hs f0 flt e0 e1 e2 e3 e4 e5 e6 e7
  refine wp_region_quiet_grown mixed (by kernel_rfl) ?_
  repeat (go_big_quiet_step ((go_at_call 185; exact Calls.grown_of (clo4 _ _ _ _ _ _ _ _ _))))
  refine wpQuiet_nil ?_
  intro _ hw'
  obtain ⟨⟨nq, osq⟩, hw''⟩ := hw'
  subst hw''
  go_wp2
  go_ret
  exact ⟨by simp, BE.out.trans ((below_grow _ _ _).mono BE.out.size)⟩
set_option maxRecDepth 100000 in
set_option maxHeartbeats 2000000 in
theorem opOf5 (d fb fa tb ta c r : Int) (w : World) : Calls Try.prog 112 #[.agg #[.int .i64 5, .int .i64 d, .int .i64 fb, .int .i64 fa, .int .i64 tb, .int .i64 ta, .int .i64 c, .int .i64 r]] w fun e w' => e = .returned (.iface 139 (.agg #[.int .i64 5, .int .i64 d, .int .i64 fb, .int .i64 fa, .int .i64 tb, .int .i64 ta, .int .i64 c, .int .i64 r])) ∧ Below w.heap.size w w' := by
  have mixed : Try.prog.follows .mixedOrders = true := by kernel_rfl
  go_enter Try.func112, Try.ntmps112
  go_wp2_with (go_at_call 67; refine (nd.within64 _ _ _ _).mono ?_; rintro e w' ⟨rfl, rfl⟩)
  have H1 := opAt_new 5 d fb fa tb ta c r w
  have b1 : Below w.heap.size w (w.alloc (.cells #[.int .i64 5, .int .i64 d, .int .i64 fb, .int .i64 fa, .int .i64 tb, .int .i64 ta, .int .i64 c, .int .i64 r] 70)) := (Below.refl _ _).alloc (Nat.le_refl _) _
  have hs : (w.alloc (.cells #[.int .i64 5, .int .i64 d, .int .i64 fb, .int .i64 fa, .int .i64 tb, .int .i64 ta, .int .i64 c, .int .i64 r] 70)).heap.size = w.heap.size + 1 := by simp
  generalize w.alloc (.cells #[.int .i64 5, .int .i64 d, .int .i64 fb, .int .i64 fa, .int .i64 tb, .int .i64 ta, .int .i64 c, .int .i64 r] 70) = W1 at *
  have b2 : Below W1.heap.size W1 (W1.alloc (.cells #[.nilFunc, .func (.func 182) #[] #[], .func (.func 183) #[] #[], .func (.func 184) #[] #[], .func (.func 185) #[] #[], .func (.func 186) #[] #[], .func (.func 187) #[] #[], .func (.func 188) #[] #[], .func (.func 189) #[] #[], .func (.func 190) #[] #[]] 189)) := (Below.refl _ _).alloc (Nat.le_refl _) _
  have H2 := H1.below b2
  have f0 : (W1.alloc (.cells #[.nilFunc, .func (.func 182) #[] #[], .func (.func 183) #[] #[], .func (.func 184) #[] #[], .func (.func 185) #[] #[], .func (.func 186) #[] #[], .func (.func 187) #[] #[], .func (.func 188) #[] #[], .func (.func 189) #[] #[], .func (.func 190) #[] #[]] 189)).cell? ⟨w.heap.size + 1, 5, none⟩ = some (.func (.func 186) #[] #[]) := by rw [← hs]; exact World.cell?_alloc_at _ _ _ _ rfl
  have flt : w.heap.size + 1 < (W1.alloc (.cells #[.nilFunc, .func (.func 182) #[] #[], .func (.func 183) #[] #[], .func (.func 184) #[] #[], .func (.func 185) #[] #[], .func (.func 186) #[] #[], .func (.func 187) #[] #[], .func (.func 188) #[] #[], .func (.func 189) #[] #[], .func (.func 190) #[] #[]] 189)).heap.size := by rw [← hs]; simp
  have BE : Hid (Below w.heap.size w (W1.alloc (.cells #[.nilFunc, .func (.func 182) #[] #[], .func (.func 183) #[] #[], .func (.func 184) #[] #[], .func (.func 185) #[] #[], .func (.func 186) #[] #[], .func (.func 187) #[] #[], .func (.func 188) #[] #[], .func (.func 189) #[] #[], .func (.func 190) #[] #[]] 189))) := hid (b1.trans (b2.mono (by omega)))
  generalize W1.alloc (.cells #[.nilFunc, .func (.func 182) #[] #[], .func (.func 183) #[] #[], .func (.func 184) #[] #[], .func (.func 185) #[] #[], .func (.func 186) #[] #[], .func (.func 187) #[] #[], .func (.func 188) #[] #[], .func (.func 189) #[] #[], .func (.func 190) #[] #[]] 189) = W at *
  obtain ⟨e0, e1, e2, e3, e4, e5, e6, e7⟩ := H2.z
  have g0 := fun n os => cellG H2.lt e0 n os
  have g1 := fun n os => cellG H2.lt e1 n os
  have g2 := fun n os => cellG H2.lt e2 n os
  have g3 := fun n os => cellG H2.lt e3 n os
  have g4 := fun n os => cellG H2.lt e4 n os
  have g5 := fun n os => cellG H2.lt e5 n os
  have g6 := fun n os => cellG H2.lt e6 n os
  have g7 := fun n os => cellG H2.lt e7 n os
  have gf := fun n os => cellG flt f0 n os
  clear H1 H2 b1 b2 hs f0 flt e0 e1 e2 e3 e4 e5 e6 e7
  refine wp_region_quiet_grown mixed (by kernel_rfl) ?_
  repeat (go_big_quiet_step ((go_at_call 186; exact Calls.grown_of (clo5 _ _ _ _ _ _ _ _ _))))
  refine wpQuiet_nil ?_
  intro _ hw'
  obtain ⟨⟨nq, osq⟩, hw''⟩ := hw'
  subst hw''
  go_wp2
  go_ret
  exact ⟨by simp, BE.out.trans ((below_grow _ _ _).mono BE.out.size)⟩
set_option maxRecDepth 100000 in
set_option maxHeartbeats 2000000 in
theorem opOf6 (d fb fa tb ta c r : Int) (w : World) : Calls Try.prog 112 #[.agg #[.int .i64 6, .int .i64 d, .int .i64 fb, .int .i64 fa, .int .i64 tb, .int .i64 ta, .int .i64 c, .int .i64 r]] w fun e w' => e = .returned (.iface 140 (.agg #[.int .i64 6, .int .i64 d, .int .i64 fb, .int .i64 fa, .int .i64 tb, .int .i64 ta, .int .i64 c, .int .i64 r])) ∧ Below w.heap.size w w' := by
  have mixed : Try.prog.follows .mixedOrders = true := by kernel_rfl
  go_enter Try.func112, Try.ntmps112
  go_wp2_with (go_at_call 67; refine (nd.within64 _ _ _ _).mono ?_; rintro e w' ⟨rfl, rfl⟩)
  have H1 := opAt_new 6 d fb fa tb ta c r w
  have b1 : Below w.heap.size w (w.alloc (.cells #[.int .i64 6, .int .i64 d, .int .i64 fb, .int .i64 fa, .int .i64 tb, .int .i64 ta, .int .i64 c, .int .i64 r] 70)) := (Below.refl _ _).alloc (Nat.le_refl _) _
  have hs : (w.alloc (.cells #[.int .i64 6, .int .i64 d, .int .i64 fb, .int .i64 fa, .int .i64 tb, .int .i64 ta, .int .i64 c, .int .i64 r] 70)).heap.size = w.heap.size + 1 := by simp
  generalize w.alloc (.cells #[.int .i64 6, .int .i64 d, .int .i64 fb, .int .i64 fa, .int .i64 tb, .int .i64 ta, .int .i64 c, .int .i64 r] 70) = W1 at *
  have b2 : Below W1.heap.size W1 (W1.alloc (.cells #[.nilFunc, .func (.func 182) #[] #[], .func (.func 183) #[] #[], .func (.func 184) #[] #[], .func (.func 185) #[] #[], .func (.func 186) #[] #[], .func (.func 187) #[] #[], .func (.func 188) #[] #[], .func (.func 189) #[] #[], .func (.func 190) #[] #[]] 189)) := (Below.refl _ _).alloc (Nat.le_refl _) _
  have H2 := H1.below b2
  have f0 : (W1.alloc (.cells #[.nilFunc, .func (.func 182) #[] #[], .func (.func 183) #[] #[], .func (.func 184) #[] #[], .func (.func 185) #[] #[], .func (.func 186) #[] #[], .func (.func 187) #[] #[], .func (.func 188) #[] #[], .func (.func 189) #[] #[], .func (.func 190) #[] #[]] 189)).cell? ⟨w.heap.size + 1, 6, none⟩ = some (.func (.func 187) #[] #[]) := by rw [← hs]; exact World.cell?_alloc_at _ _ _ _ rfl
  have flt : w.heap.size + 1 < (W1.alloc (.cells #[.nilFunc, .func (.func 182) #[] #[], .func (.func 183) #[] #[], .func (.func 184) #[] #[], .func (.func 185) #[] #[], .func (.func 186) #[] #[], .func (.func 187) #[] #[], .func (.func 188) #[] #[], .func (.func 189) #[] #[], .func (.func 190) #[] #[]] 189)).heap.size := by rw [← hs]; simp
  have BE : Hid (Below w.heap.size w (W1.alloc (.cells #[.nilFunc, .func (.func 182) #[] #[], .func (.func 183) #[] #[], .func (.func 184) #[] #[], .func (.func 185) #[] #[], .func (.func 186) #[] #[], .func (.func 187) #[] #[], .func (.func 188) #[] #[], .func (.func 189) #[] #[], .func (.func 190) #[] #[]] 189))) := hid (b1.trans (b2.mono (by omega)))
  generalize W1.alloc (.cells #[.nilFunc, .func (.func 182) #[] #[], .func (.func 183) #[] #[], .func (.func 184) #[] #[], .func (.func 185) #[] #[], .func (.func 186) #[] #[], .func (.func 187) #[] #[], .func (.func 188) #[] #[], .func (.func 189) #[] #[], .func (.func 190) #[] #[]] 189) = W at *
  obtain ⟨e0, e1, e2, e3, e4, e5, e6, e7⟩ := H2.z
  have g0 := fun n os => cellG H2.lt e0 n os
  have g1 := fun n os => cellG H2.lt e1 n os
  have g2 := fun n os => cellG H2.lt e2 n os
  have g3 := fun n os => cellG H2.lt e3 n os
  have g4 := fun n os => cellG H2.lt e4 n os
  have g5 := fun n os => cellG H2.lt e5 n os
  have g6 := fun n os => cellG H2.lt e6 n os
  have g7 := fun n os => cellG H2.lt e7 n os
  have gf := fun n os => cellG flt f0 n os
  clear H1 H2 b1 b2 hs f0 flt e0 e1 e2 e3 e4 e5 e6 e7
  refine wp_region_quiet_grown mixed (by kernel_rfl) ?_
  repeat (go_big_quiet_step ((go_at_call 187; exact Calls.grown_of (clo6 _ _ _ _ _ _ _ _ _))))
  refine wpQuiet_nil ?_
  intro _ hw'
  obtain ⟨⟨nq, osq⟩, hw''⟩ := hw'
  subst hw''
  go_wp2
  go_ret
  exact ⟨by simp, BE.out.trans ((below_grow _ _ _).mono BE.out.size)⟩
set_option maxRecDepth 100000 in
set_option maxHeartbeats 2000000 in
theorem opOf7 (d fb fa tb ta c r : Int) (w : World) : Calls Try.prog 112 #[.agg #[.int .i64 7, .int .i64 d, .int .i64 fb, .int .i64 fa, .int .i64 tb, .int .i64 ta, .int .i64 c, .int .i64 r]] w fun e w' => e = .returned (.iface 142 (.agg #[.int .i64 7, .int .i64 d, .int .i64 fb, .int .i64 fa, .int .i64 tb, .int .i64 ta, .int .i64 c, .int .i64 r])) ∧ Below w.heap.size w w' := by
  have mixed : Try.prog.follows .mixedOrders = true := by kernel_rfl
  go_enter Try.func112, Try.ntmps112
  go_wp2_with (go_at_call 67; refine (nd.within64 _ _ _ _).mono ?_; rintro e w' ⟨rfl, rfl⟩)
  have H1 := opAt_new 7 d fb fa tb ta c r w
  have b1 : Below w.heap.size w (w.alloc (.cells #[.int .i64 7, .int .i64 d, .int .i64 fb, .int .i64 fa, .int .i64 tb, .int .i64 ta, .int .i64 c, .int .i64 r] 70)) := (Below.refl _ _).alloc (Nat.le_refl _) _
  have hs : (w.alloc (.cells #[.int .i64 7, .int .i64 d, .int .i64 fb, .int .i64 fa, .int .i64 tb, .int .i64 ta, .int .i64 c, .int .i64 r] 70)).heap.size = w.heap.size + 1 := by simp
  generalize w.alloc (.cells #[.int .i64 7, .int .i64 d, .int .i64 fb, .int .i64 fa, .int .i64 tb, .int .i64 ta, .int .i64 c, .int .i64 r] 70) = W1 at *
  have b2 : Below W1.heap.size W1 (W1.alloc (.cells #[.nilFunc, .func (.func 182) #[] #[], .func (.func 183) #[] #[], .func (.func 184) #[] #[], .func (.func 185) #[] #[], .func (.func 186) #[] #[], .func (.func 187) #[] #[], .func (.func 188) #[] #[], .func (.func 189) #[] #[], .func (.func 190) #[] #[]] 189)) := (Below.refl _ _).alloc (Nat.le_refl _) _
  have H2 := H1.below b2
  have f0 : (W1.alloc (.cells #[.nilFunc, .func (.func 182) #[] #[], .func (.func 183) #[] #[], .func (.func 184) #[] #[], .func (.func 185) #[] #[], .func (.func 186) #[] #[], .func (.func 187) #[] #[], .func (.func 188) #[] #[], .func (.func 189) #[] #[], .func (.func 190) #[] #[]] 189)).cell? ⟨w.heap.size + 1, 7, none⟩ = some (.func (.func 188) #[] #[]) := by rw [← hs]; exact World.cell?_alloc_at _ _ _ _ rfl
  have flt : w.heap.size + 1 < (W1.alloc (.cells #[.nilFunc, .func (.func 182) #[] #[], .func (.func 183) #[] #[], .func (.func 184) #[] #[], .func (.func 185) #[] #[], .func (.func 186) #[] #[], .func (.func 187) #[] #[], .func (.func 188) #[] #[], .func (.func 189) #[] #[], .func (.func 190) #[] #[]] 189)).heap.size := by rw [← hs]; simp
  have BE : Hid (Below w.heap.size w (W1.alloc (.cells #[.nilFunc, .func (.func 182) #[] #[], .func (.func 183) #[] #[], .func (.func 184) #[] #[], .func (.func 185) #[] #[], .func (.func 186) #[] #[], .func (.func 187) #[] #[], .func (.func 188) #[] #[], .func (.func 189) #[] #[], .func (.func 190) #[] #[]] 189))) := hid (b1.trans (b2.mono (by omega)))
  generalize W1.alloc (.cells #[.nilFunc, .func (.func 182) #[] #[], .func (.func 183) #[] #[], .func (.func 184) #[] #[], .func (.func 185) #[] #[], .func (.func 186) #[] #[], .func (.func 187) #[] #[], .func (.func 188) #[] #[], .func (.func 189) #[] #[], .func (.func 190) #[] #[]] 189) = W at *
  obtain ⟨e0, e1, e2, e3, e4, e5, e6, e7⟩ := H2.z
  have g0 := fun n os => cellG H2.lt e0 n os
  have g1 := fun n os => cellG H2.lt e1 n os
  have g2 := fun n os => cellG H2.lt e2 n os
  have g3 := fun n os => cellG H2.lt e3 n os
  have g4 := fun n os => cellG H2.lt e4 n os
  have g5 := fun n os => cellG H2.lt e5 n os
  have g6 := fun n os => cellG H2.lt e6 n os
  have g7 := fun n os => cellG H2.lt e7 n os
  have gf := fun n os => cellG flt f0 n os
  clear H1 H2 b1 b2 hs f0 flt e0 e1 e2 e3 e4 e5 e6 e7
  refine wp_region_quiet_grown mixed (by kernel_rfl) ?_
  repeat (go_big_quiet_step ((go_at_call 188; exact Calls.grown_of (clo7 _ _ _ _ _ _ _ _ _))))
  refine wpQuiet_nil ?_
  intro _ hw'
  obtain ⟨⟨nq, osq⟩, hw''⟩ := hw'
  subst hw''
  go_wp2
  go_ret
  exact ⟨by simp, BE.out.trans ((below_grow _ _ _).mono BE.out.size)⟩
set_option maxRecDepth 100000 in
set_option maxHeartbeats 2000000 in
theorem opOf8 (d fb fa tb ta c r : Int) (w : World) : Calls Try.prog 112 #[.agg #[.int .i64 8, .int .i64 d, .int .i64 fb, .int .i64 fa, .int .i64 tb, .int .i64 ta, .int .i64 c, .int .i64 r]] w fun e w' => e = .returned (.iface 143 (.agg #[.int .i64 8, .int .i64 d, .int .i64 fb, .int .i64 fa, .int .i64 tb, .int .i64 ta, .int .i64 c, .int .i64 r])) ∧ Below w.heap.size w w' := by
  have mixed : Try.prog.follows .mixedOrders = true := by kernel_rfl
  go_enter Try.func112, Try.ntmps112
  go_wp2_with (go_at_call 67; refine (nd.within64 _ _ _ _).mono ?_; rintro e w' ⟨rfl, rfl⟩)
  have H1 := opAt_new 8 d fb fa tb ta c r w
  have b1 : Below w.heap.size w (w.alloc (.cells #[.int .i64 8, .int .i64 d, .int .i64 fb, .int .i64 fa, .int .i64 tb, .int .i64 ta, .int .i64 c, .int .i64 r] 70)) := (Below.refl _ _).alloc (Nat.le_refl _) _
  have hs : (w.alloc (.cells #[.int .i64 8, .int .i64 d, .int .i64 fb, .int .i64 fa, .int .i64 tb, .int .i64 ta, .int .i64 c, .int .i64 r] 70)).heap.size = w.heap.size + 1 := by simp
  generalize w.alloc (.cells #[.int .i64 8, .int .i64 d, .int .i64 fb, .int .i64 fa, .int .i64 tb, .int .i64 ta, .int .i64 c, .int .i64 r] 70) = W1 at *
  have b2 : Below W1.heap.size W1 (W1.alloc (.cells #[.nilFunc, .func (.func 182) #[] #[], .func (.func 183) #[] #[], .func (.func 184) #[] #[], .func (.func 185) #[] #[], .func (.func 186) #[] #[], .func (.func 187) #[] #[], .func (.func 188) #[] #[], .func (.func 189) #[] #[], .func (.func 190) #[] #[]] 189)) := (Below.refl _ _).alloc (Nat.le_refl _) _
  have H2 := H1.below b2
  have f0 : (W1.alloc (.cells #[.nilFunc, .func (.func 182) #[] #[], .func (.func 183) #[] #[], .func (.func 184) #[] #[], .func (.func 185) #[] #[], .func (.func 186) #[] #[], .func (.func 187) #[] #[], .func (.func 188) #[] #[], .func (.func 189) #[] #[], .func (.func 190) #[] #[]] 189)).cell? ⟨w.heap.size + 1, 8, none⟩ = some (.func (.func 189) #[] #[]) := by rw [← hs]; exact World.cell?_alloc_at _ _ _ _ rfl
  have flt : w.heap.size + 1 < (W1.alloc (.cells #[.nilFunc, .func (.func 182) #[] #[], .func (.func 183) #[] #[], .func (.func 184) #[] #[], .func (.func 185) #[] #[], .func (.func 186) #[] #[], .func (.func 187) #[] #[], .func (.func 188) #[] #[], .func (.func 189) #[] #[], .func (.func 190) #[] #[]] 189)).heap.size := by rw [← hs]; simp
  have BE : Hid (Below w.heap.size w (W1.alloc (.cells #[.nilFunc, .func (.func 182) #[] #[], .func (.func 183) #[] #[], .func (.func 184) #[] #[], .func (.func 185) #[] #[], .func (.func 186) #[] #[], .func (.func 187) #[] #[], .func (.func 188) #[] #[], .func (.func 189) #[] #[], .func (.func 190) #[] #[]] 189))) := hid (b1.trans (b2.mono (by omega)))
  generalize W1.alloc (.cells #[.nilFunc, .func (.func 182) #[] #[], .func (.func 183) #[] #[], .func (.func 184) #[] #[], .func (.func 185) #[] #[], .func (.func 186) #[] #[], .func (.func 187) #[] #[], .func (.func 188) #[] #[], .func (.func 189) #[] #[], .func (.func 190) #[] #[]] 189) = W at *
  obtain ⟨e0, e1, e2, e3, e4, e5, e6, e7⟩ := H2.z
  have g0 := fun n os => cellG H2.lt e0 n os
  have g1 := fun n os => cellG H2.lt e1 n os
  have g2 := fun n os => cellG H2.lt e2 n os
  have g3 := fun n os => cellG H2.lt e3 n os
  have g4 := fun n os => cellG H2.lt e4 n os
  have g5 := fun n os => cellG H2.lt e5 n os
  have g6 := fun n os => cellG H2.lt e6 n os
  have g7 := fun n os => cellG H2.lt e7 n os
  have gf := fun n os => cellG flt f0 n os
  clear H1 H2 b1 b2 hs f0 flt e0 e1 e2 e3 e4 e5 e6 e7
  refine wp_region_quiet_grown mixed (by kernel_rfl) ?_
  repeat (go_big_quiet_step ((go_at_call 189; exact Calls.grown_of (clo8 _ _ _ _ _ _ _ _ _))))
  refine wpQuiet_nil ?_
  intro _ hw'
  obtain ⟨⟨nq, osq⟩, hw''⟩ := hw'
  subst hw''
  go_wp2
  go_ret
  exact ⟨by simp, BE.out.trans ((below_grow _ _ _).mono BE.out.size)⟩
set_option maxRecDepth 100000 in
set_option maxHeartbeats 2000000 in
theorem opOf9 (d fb fa tb ta c r : Int) (w : World) : Calls Try.prog 112 #[.agg #[.int .i64 9, .int .i64 d, .int .i64 fb, .int .i64 fa, .int .i64 tb, .int .i64 ta, .int .i64 c, .int .i64 r]] w fun e w' => e = .returned (.iface 144 (.agg #[.int .i64 9, .int .i64 d, .int .i64 fb, .int .i64 fa, .int .i64 tb, .int .i64 ta, .int .i64 c, .int .i64 r])) ∧ Below w.heap.size w w' := by
  have mixed : Try.prog.follows .mixedOrders = true := by kernel_rfl
  go_enter Try.func112, Try.ntmps112
  go_wp2_with (go_at_call 67; refine (nd.within64 _ _ _ _).mono ?_; rintro e w' ⟨rfl, rfl⟩)
  have H1 := opAt_new 9 d fb fa tb ta c r w
  have b1 : Below w.heap.size w (w.alloc (.cells #[.int .i64 9, .int .i64 d, .int .i64 fb, .int .i64 fa, .int .i64 tb, .int .i64 ta, .int .i64 c, .int .i64 r] 70)) := (Below.refl _ _).alloc (Nat.le_refl _) _
  have hs : (w.alloc (.cells #[.int .i64 9, .int .i64 d, .int .i64 fb, .int .i64 fa, .int .i64 tb, .int .i64 ta, .int .i64 c, .int .i64 r] 70)).heap.size = w.heap.size + 1 := by simp
  generalize w.alloc (.cells #[.int .i64 9, .int .i64 d, .int .i64 fb, .int .i64 fa, .int .i64 tb, .int .i64 ta, .int .i64 c, .int .i64 r] 70) = W1 at *
  have b2 : Below W1.heap.size W1 (W1.alloc (.cells #[.nilFunc, .func (.func 182) #[] #[], .func (.func 183) #[] #[], .func (.func 184) #[] #[], .func (.func 185) #[] #[], .func (.func 186) #[] #[], .func (.func 187) #[] #[], .func (.func 188) #[] #[], .func (.func 189) #[] #[], .func (.func 190) #[] #[]] 189)) := (Below.refl _ _).alloc (Nat.le_refl _) _
  have H2 := H1.below b2
  have f0 : (W1.alloc (.cells #[.nilFunc, .func (.func 182) #[] #[], .func (.func 183) #[] #[], .func (.func 184) #[] #[], .func (.func 185) #[] #[], .func (.func 186) #[] #[], .func (.func 187) #[] #[], .func (.func 188) #[] #[], .func (.func 189) #[] #[], .func (.func 190) #[] #[]] 189)).cell? ⟨w.heap.size + 1, 9, none⟩ = some (.func (.func 190) #[] #[]) := by rw [← hs]; exact World.cell?_alloc_at _ _ _ _ rfl
  have flt : w.heap.size + 1 < (W1.alloc (.cells #[.nilFunc, .func (.func 182) #[] #[], .func (.func 183) #[] #[], .func (.func 184) #[] #[], .func (.func 185) #[] #[], .func (.func 186) #[] #[], .func (.func 187) #[] #[], .func (.func 188) #[] #[], .func (.func 189) #[] #[], .func (.func 190) #[] #[]] 189)).heap.size := by rw [← hs]; simp
  have BE : Hid (Below w.heap.size w (W1.alloc (.cells #[.nilFunc, .func (.func 182) #[] #[], .func (.func 183) #[] #[], .func (.func 184) #[] #[], .func (.func 185) #[] #[], .func (.func 186) #[] #[], .func (.func 187) #[] #[], .func (.func 188) #[] #[], .func (.func 189) #[] #[], .func (.func 190) #[] #[]] 189))) := hid (b1.trans (b2.mono (by omega)))
  generalize W1.alloc (.cells #[.nilFunc, .func (.func 182) #[] #[], .func (.func 183) #[] #[], .func (.func 184) #[] #[], .func (.func 185) #[] #[], .func (.func 186) #[] #[], .func (.func 187) #[] #[], .func (.func 188) #[] #[], .func (.func 189) #[] #[], .func (.func 190) #[] #[]] 189) = W at *
  obtain ⟨e0, e1, e2, e3, e4, e5, e6, e7⟩ := H2.z
  have g0 := fun n os => cellG H2.lt e0 n os
  have g1 := fun n os => cellG H2.lt e1 n os
  have g2 := fun n os => cellG H2.lt e2 n os
  have g3 := fun n os => cellG H2.lt e3 n os
  have g4 := fun n os => cellG H2.lt e4 n os
  have g5 := fun n os => cellG H2.lt e5 n os
  have g6 := fun n os => cellG H2.lt e6 n os
  have g7 := fun n os => cellG H2.lt e7 n os
  have gf := fun n os => cellG flt f0 n os
  clear H1 H2 b1 b2 hs f0 flt e0 e1 e2 e3 e4 e5 e6 e7
  refine wp_region_quiet_grown mixed (by kernel_rfl) ?_
  repeat (go_big_quiet_step ((go_at_call 190; exact Calls.grown_of (clo9 _ _ _ _ _ _ _ _ _))))
  refine wpQuiet_nil ?_
  intro _ hw'
  obtain ⟨⟨nq, osq⟩, hw''⟩ := hw'
  subst hw''
  go_wp2
  go_ret
  exact ⟨by simp, BE.out.trans ((below_grow _ _ _).mono BE.out.size)⟩
end Go.Proofs.Ytkpilmcaeemfmaa.vo
