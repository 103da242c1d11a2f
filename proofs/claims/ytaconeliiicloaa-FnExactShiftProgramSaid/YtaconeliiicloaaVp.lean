/-
  The program's operationOf: each kind's own type.
-/
import Derived.Test.YtaconeliiicloaaVo
import Derived.Laws.EntriesVeiled
namespace Go.Proofs.Ytaconeliiicloaa.vo
open Go.RowKit Go.Sort Go.Proofs.Ytaconeliiicloaa.nd Go.Proofs.Ytaconeliiicloaa.sl
set_option linter.unusedVariables false
set_option linter.unusedSimpArgs false
def fns : Array Value := #[.nilFunc, .func (.func 166) #[] #[], .func (.func 167) #[] #[], .func (.func 168) #[] #[], .func (.func 169) #[] #[], .func (.func 170) #[] #[], .func (.func 171) #[] #[], .func (.func 172) #[] #[], .func (.func 173) #[] #[], .func (.func 174) #[] #[]]
theorem opAt_new (k d fb fa tb ta c r : Int) (w : World) : OpAt (w.alloc (.cells #[.int .i64 k, .int .i64 d, .int .i64 fb, .int .i64 fa, .int .i64 tb, .int .i64 ta, .int .i64 c, .int .i64 r] 90)) w.heap.size 0 k d fb fa tb ta c r :=
  ⟨by simp, World.cell?_alloc_at _ _ _ _ rfl, World.cell?_alloc_at _ _ _ _ rfl, World.cell?_alloc_at _ _ _ _ rfl, World.cell?_alloc_at _ _ _ _ rfl, World.cell?_alloc_at _ _ _ _ rfl, World.cell?_alloc_at _ _ _ _ rfl, World.cell?_alloc_at _ _ _ _ rfl, World.cell?_alloc_at _ _ _ _ rfl⟩
theorem clo1 (k d fb fa tb ta c r : Int) (w : World) : Calls Try.prog 166 #[.agg #[.int .i64 k, .int .i64 d, .int .i64 fb, .int .i64 fa, .int .i64 tb, .int .i64 ta, .int .i64 c, .int .i64 r]] w fun e w' => e = .returned (.iface 168 (.agg #[.int .i64 k, .int .i64 d, .int .i64 fb, .int .i64 fa, .int .i64 tb, .int .i64 ta, .int .i64 c, .int .i64 r])) ∧ ∃ q os, w' = grow (w.drewN q) os := by
  go_enter Try.func166, Try.ntmps166
  go_wp2
  go_ret
  refine ⟨by simp, 0, #[.cells #[.int .i64 k, .int .i64 d, .int .i64 fb, .int .i64 fa, .int .i64 tb, .int .i64 ta, .int .i64 c, .int .i64 r] 90], ?_⟩
  rw [alloc_eq_grow]; rfl
theorem clo2 (k d fb fa tb ta c r : Int) (w : World) : Calls Try.prog 167 #[.agg #[.int .i64 k, .int .i64 d, .int .i64 fb, .int .i64 fa, .int .i64 tb, .int .i64 ta, .int .i64 c, .int .i64 r]] w fun e w' => e = .returned (.iface 169 (.agg #[.int .i64 k, .int .i64 d, .int .i64 fb, .int .i64 fa, .int .i64 tb, .int .i64 ta, .int .i64 c, .int .i64 r])) ∧ ∃ q os, w' = grow (w.drewN q) os := by
  go_enter Try.func167, Try.ntmps167
  go_wp2
  go_ret
  refine ⟨by simp, 0, #[.cells #[.int .i64 k, .int .i64 d, .int .i64 fb, .int .i64 fa, .int .i64 tb, .int .i64 ta, .int .i64 c, .int .i64 r] 90], ?_⟩
  rw [alloc_eq_grow]; rfl
theorem clo3 (k d fb fa tb ta c r : Int) (w : World) : Calls Try.prog 168 #[.agg #[.int .i64 k, .int .i64 d, .int .i64 fb, .int .i64 fa, .int .i64 tb, .int .i64 ta, .int .i64 c, .int .i64 r]] w fun e w' => e = .returned (.iface 170 (.agg #[.int .i64 k, .int .i64 d, .int .i64 fb, .int .i64 fa, .int .i64 tb, .int .i64 ta, .int .i64 c, .int .i64 r])) ∧ ∃ q os, w' = grow (w.drewN q) os := by
  go_enter Try.func168, Try.ntmps168
  go_wp2
  go_ret
  refine ⟨by simp, 0, #[.cells #[.int .i64 k, .int .i64 d, .int .i64 fb, .int .i64 fa, .int .i64 tb, .int .i64 ta, .int .i64 c, .int .i64 r] 90], ?_⟩
  rw [alloc_eq_grow]; rfl
theorem clo4 (k d fb fa tb ta c r : Int) (w : World) : Calls Try.prog 169 #[.agg #[.int .i64 k, .int .i64 d, .int .i64 fb, .int .i64 fa, .int .i64 tb, .int .i64 ta, .int .i64 c, .int .i64 r]] w fun e w' => e = .returned (.iface 171 (.agg #[.int .i64 k, .int .i64 d, .int .i64 fb, .int .i64 fa, .int .i64 tb, .int .i64 ta, .int .i64 c, .int .i64 r])) ∧ ∃ q os, w' = grow (w.drewN q) os := by
  go_enter Try.func169, Try.ntmps169
  go_wp2
  go_ret
  refine ⟨by simp, 0, #[.cells #[.int .i64 k, .int .i64 d, .int .i64 fb, .int .i64 fa, .int .i64 tb, .int .i64 ta, .int .i64 c, .int .i64 r] 90], ?_⟩
  rw [alloc_eq_grow]; rfl
theorem clo5 (k d fb fa tb ta c r : Int) (w : World) : Calls Try.prog 170 #[.agg #[.int .i64 k, .int .i64 d, .int .i64 fb, .int .i64 fa, .int .i64 tb, .int .i64 ta, .int .i64 c, .int .i64 r]] w fun e w' => e = .returned (.iface 172 (.agg #[.int .i64 k, .int .i64 d, .int .i64 fb, .int .i64 fa, .int .i64 tb, .int .i64 ta, .int .i64 c, .int .i64 r])) ∧ ∃ q os, w' = grow (w.drewN q) os := by
  go_enter Try.func170, Try.ntmps170
  go_wp2
  go_ret
  refine ⟨by simp, 0, #[.cells #[.int .i64 k, .int .i64 d, .int .i64 fb, .int .i64 fa, .int .i64 tb, .int .i64 ta, .int .i64 c, .int .i64 r] 90], ?_⟩
  rw [alloc_eq_grow]; rfl
theorem clo6 (k d fb fa tb ta c r : Int) (w : World) : Calls Try.prog 171 #[.agg #[.int .i64 k, .int .i64 d, .int .i64 fb, .int .i64 fa, .int .i64 tb, .int .i64 ta, .int .i64 c, .int .i64 r]] w fun e w' => e = .returned (.iface 173 (.agg #[.int .i64 k, .int .i64 d, .int .i64 fb, .int .i64 fa, .int .i64 tb, .int .i64 ta, .int .i64 c, .int .i64 r])) ∧ ∃ q os, w' = grow (w.drewN q) os := by
  go_enter Try.func171, Try.ntmps171
  go_wp2
  go_ret
  refine ⟨by simp, 0, #[.cells #[.int .i64 k, .int .i64 d, .int .i64 fb, .int .i64 fa, .int .i64 tb, .int .i64 ta, .int .i64 c, .int .i64 r] 90], ?_⟩
  rw [alloc_eq_grow]; rfl
theorem clo7 (k d fb fa tb ta c r : Int) (w : World) : Calls Try.prog 172 #[.agg #[.int .i64 k, .int .i64 d, .int .i64 fb, .int .i64 fa, .int .i64 tb, .int .i64 ta, .int .i64 c, .int .i64 r]] w fun e w' => e = .returned (.iface 174 (.agg #[.int .i64 k, .int .i64 d, .int .i64 fb, .int .i64 fa, .int .i64 tb, .int .i64 ta, .int .i64 c, .int .i64 r])) ∧ ∃ q os, w' = grow (w.drewN q) os := by
  go_enter Try.func172, Try.ntmps172
  go_wp2
  go_ret
  refine ⟨by simp, 0, #[.cells #[.int .i64 k, .int .i64 d, .int .i64 fb, .int .i64 fa, .int .i64 tb, .int .i64 ta, .int .i64 c, .int .i64 r] 90], ?_⟩
  rw [alloc_eq_grow]; rfl
theorem clo8 (k d fb fa tb ta c r : Int) (w : World) : Calls Try.prog 173 #[.agg #[.int .i64 k, .int .i64 d, .int .i64 fb, .int .i64 fa, .int .i64 tb, .int .i64 ta, .int .i64 c, .int .i64 r]] w fun e w' => e = .returned (.iface 175 (.agg #[.int .i64 k, .int .i64 d, .int .i64 fb, .int .i64 fa, .int .i64 tb, .int .i64 ta, .int .i64 c, .int .i64 r])) ∧ ∃ q os, w' = grow (w.drewN q) os := by
  go_enter Try.func173, Try.ntmps173
  go_wp2
  go_ret
  refine ⟨by simp, 0, #[.cells #[.int .i64 k, .int .i64 d, .int .i64 fb, .int .i64 fa, .int .i64 tb, .int .i64 ta, .int .i64 c, .int .i64 r] 90], ?_⟩
  rw [alloc_eq_grow]; rfl
theorem clo9 (k d fb fa tb ta c r : Int) (w : World) : Calls Try.prog 174 #[.agg #[.int .i64 k, .int .i64 d, .int .i64 fb, .int .i64 fa, .int .i64 tb, .int .i64 ta, .int .i64 c, .int .i64 r]] w fun e w' => e = .returned (.iface 176 (.agg #[.int .i64 k, .int .i64 d, .int .i64 fb, .int .i64 fa, .int .i64 tb, .int .i64 ta, .int .i64 c, .int .i64 r])) ∧ ∃ q os, w' = grow (w.drewN q) os := by
  go_enter Try.func174, Try.ntmps174
  go_wp2
  go_ret
  refine ⟨by simp, 0, #[.cells #[.int .i64 k, .int .i64 d, .int .i64 fb, .int .i64 fa, .int .i64 tb, .int .i64 ta, .int .i64 c, .int .i64 r] 90], ?_⟩
  rw [alloc_eq_grow]; rfl
set_option maxRecDepth 100000 in
set_option maxHeartbeats 2000000 in
theorem opOf1 (d fb fa tb ta c r : Int) (w : World) : Calls Try.prog 153 #[.agg #[.int .i64 1, .int .i64 d, .int .i64 fb, .int .i64 fa, .int .i64 tb, .int .i64 ta, .int .i64 c, .int .i64 r]] w fun e w' => e = .returned (.iface 168 (.agg #[.int .i64 1, .int .i64 d, .int .i64 fb, .int .i64 fa, .int .i64 tb, .int .i64 ta, .int .i64 c, .int .i64 r])) ∧ Below w.heap.size w w' := by
  have mixed : Try.prog.follows .mixedOrders = true := by kernel_rfl
  go_enter Try.func153, Try.ntmps153
  go_wp2_with (go_at_call 57; refine (nd.within64 _ _ _ _).mono ?_; rintro e w' ⟨rfl, rfl⟩)
  have H1 := opAt_new 1 d fb fa tb ta c r w
  have b1 : Below w.heap.size w (w.alloc (.cells #[.int .i64 1, .int .i64 d, .int .i64 fb, .int .i64 fa, .int .i64 tb, .int .i64 ta, .int .i64 c, .int .i64 r] 90)) := (Below.refl _ _).alloc (Nat.le_refl _) _
  have hs : (w.alloc (.cells #[.int .i64 1, .int .i64 d, .int .i64 fb, .int .i64 fa, .int .i64 tb, .int .i64 ta, .int .i64 c, .int .i64 r] 90)).heap.size = w.heap.size + 1 := by simp
  generalize w.alloc (.cells #[.int .i64 1, .int .i64 d, .int .i64 fb, .int .i64 fa, .int .i64 tb, .int .i64 ta, .int .i64 c, .int .i64 r] 90) = W1 at *
  have b2 : Below W1.heap.size W1 (W1.alloc (.cells #[.nilFunc, .func (.func 166) #[] #[], .func (.func 167) #[] #[], .func (.func 168) #[] #[], .func (.func 169) #[] #[], .func (.func 170) #[] #[], .func (.func 171) #[] #[], .func (.func 172) #[] #[], .func (.func 173) #[] #[], .func (.func 174) #[] #[]] 184)) := (Below.refl _ _).alloc (Nat.le_refl _) _
  have H2 := H1.below b2
  have f0 : (W1.alloc (.cells #[.nilFunc, .func (.func 166) #[] #[], .func (.func 167) #[] #[], .func (.func 168) #[] #[], .func (.func 169) #[] #[], .func (.func 170) #[] #[], .func (.func 171) #[] #[], .func (.func 172) #[] #[], .func (.func 173) #[] #[], .func (.func 174) #[] #[]] 184)).cell? ⟨w.heap.size + 1, 1, none⟩ = some (.func (.func 166) #[] #[]) := by rw [← hs]; exact World.cell?_alloc_at _ _ _ _ rfl
  have flt : w.heap.size + 1 < (W1.alloc (.cells #[.nilFunc, .func (.func 166) #[] #[], .func (.func 167) #[] #[], .func (.func 168) #[] #[], .func (.func 169) #[] #[], .func (.func 170) #[] #[], .func (.func 171) #[] #[], .func (.func 172) #[] #[], .func (.func 173) #[] #[], .func (.func 174) #[] #[]] 184)).heap.size := by rw [← hs]; simp
  have BE : Hid (Below w.heap.size w (W1.alloc (.cells #[.nilFunc, .func (.func 166) #[] #[], .func (.func 167) #[] #[], .func (.func 168) #[] #[], .func (.func 169) #[] #[], .func (.func 170) #[] #[], .func (.func 171) #[] #[], .func (.func 172) #[] #[], .func (.func 173) #[] #[], .func (.func 174) #[] #[]] 184))) := hid (b1.trans (b2.mono (by omega)))
  generalize W1.alloc (.cells #[.nilFunc, .func (.func 166) #[] #[], .func (.func 167) #[] #[], .func (.func 168) #[] #[], .func (.func 169) #[] #[], .func (.func 170) #[] #[], .func (.func 171) #[] #[], .func (.func 172) #[] #[], .func (.func 173) #[] #[], .func (.func 174) #[] #[]] 184) = W at *
  obtain ⟨e0, e1, e2, e3, e4, e5, e6, e7⟩ := H2.z
  have g0 := fun n os => cellG H2.lt e0 n os
  have g1 := fun n os => cellG H2.lt e1 n os
  have g2 := fun n os => cellG H2.lt e2 n os
  have g3 := fun n os => cellG H2.lt e3 n os
  have g4 := fun n os => cellG H2.lt e4 n os
  have g5 := fun n os => cellG H2.lt e5 n os
  have g6 := fun n os => cellG H2.lt e6 n os
  have g7 := fun n os => cellG H2.lt e7 n os
  have gf := fun n os => cellG flt f0 n os
  clear H1 H2 b1 b2 hs f0 flt e0 e1 e2 e3 e4 e5 e6 e7
  refine wp_region_quiet_grown mixed (by kernel_rfl) ?_
  repeat (go_big_quiet_step ((go_at_call 166; exact Calls.grown_of (clo1 _ _ _ _ _ _ _ _ _))))
  refine wpQuiet_nil ?_
  intro _ hw'
  obtain ⟨⟨nq, osq⟩, hw''⟩ := hw'
  subst hw''
  go_wp2
  go_ret
  exact ⟨by simp, BE.out.trans ((below_grow _ _ _).mono BE.out.size)⟩
set_option maxRecDepth 100000 in
set_option maxHeartbeats 2000000 in
theorem opOf2 (d fb fa tb ta c r : Int) (w : World) : Calls Try.prog 153 #[.agg #[.int .i64 2, .int .i64 d, .int .i64 fb, .int .i64 fa, .int .i64 tb, .int .i64 ta, .int .i64 c, .int .i64 r]] w fun e w' => e = .returned (.iface 169 (.agg #[.int .i64 2, .int .i64 d, .int .i64 fb, .int .i64 fa, .int .i64 tb, .int .i64 ta, .int .i64 c, .int .i64 r])) ∧ Below w.heap.size w w' := by
  have mixed : Try.prog.follows .mixedOrders = true := by kernel_rfl
  go_enter Try.func153, Try.ntmps153
  go_wp2_with (go_at_call 57; refine (nd.within64 _ _ _ _).mono ?_; rintro e w' ⟨rfl, rfl⟩)
  have H1 := opAt_new 2 d fb fa tb ta c r w
  have b1 : Below w.heap.size w (w.alloc (.cells #[.int .i64 2, .int .i64 d, .int .i64 fb, .int .i64 fa, .int .i64 tb, .int .i64 ta, .int .i64 c, .int .i64 r] 90)) := (Below.refl _ _).alloc (Nat.le_refl _) _
  have hs : (w.alloc (.cells #[.int .i64 2, .int .i64 d, .int .i64 fb, .int .i64 fa, .int .i64 tb, .int .i64 ta, .int .i64 c, .int .i64 r] 90)).heap.size = w.heap.size + 1 := by simp
  generalize w.alloc (.cells #[.int .i64 2, .int .i64 d, .int .i64 fb, .int .i64 fa, .int .i64 tb, .int .i64 ta, .int .i64 c, .int .i64 r] 90) = W1 at *
  have b2 : Below W1.heap.size W1 (W1.alloc (.cells #[.nilFunc, .func (.func 166) #[] #[], .func (.func 167) #[] #[], .func (.func 168) #[] #[], .func (.func 169) #[] #[], .func (.func 170) #[] #[], .func (.func 171) #[] #[], .func (.func 172) #[] #[], .func (.func 173) #[] #[], .func (.func 174) #[] #[]] 184)) := (Below.refl _ _).alloc (Nat.le_refl _) _
  have H2 := H1.below b2
  have f0 : (W1.alloc (.cells #[.nilFunc, .func (.func 166) #[] #[], .func (.func 167) #[] #[], .func (.func 168) #[] #[], .func (.func 169) #[] #[], .func (.func 170) #[] #[], .func (.func 171) #[] #[], .func (.func 172) #[] #[], .func (.func 173) #[] #[], .func (.func 174) #[] #[]] 184)).cell? ⟨w.heap.size + 1, 2, none⟩ = some (.func (.func 167) #[] #[]) := by rw [← hs]; exact World.cell?_alloc_at _ _ _ _ rfl
  have flt : w.heap.size + 1 < (W1.alloc (.cells #[.nilFunc, .func (.func 166) #[] #[], .func (.func 167) #[] #[], .func (.func 168) #[] #[], .func (.func 169) #[] #[], .func (.func 170) #[] #[], .func (.func 171) #[] #[], .func (.func 172) #[] #[], .func (.func 173) #[] #[], .func (.func 174) #[] #[]] 184)).heap.size := by rw [← hs]; simp
  have BE : Hid (Below w.heap.size w (W1.alloc (.cells #[.nilFunc, .func (.func 166) #[] #[], .func (.func 167) #[] #[], .func (.func 168) #[] #[], .func (.func 169) #[] #[], .func (.func 170) #[] #[], .func (.func 171) #[] #[], .func (.func 172) #[] #[], .func (.func 173) #[] #[], .func (.func 174) #[] #[]] 184))) := hid (b1.trans (b2.mono (by omega)))
  generalize W1.alloc (.cells #[.nilFunc, .func (.func 166) #[] #[], .func (.func 167) #[] #[], .func (.func 168) #[] #[], .func (.func 169) #[] #[], .func (.func 170) #[] #[], .func (.func 171) #[] #[], .func (.func 172) #[] #[], .func (.func 173) #[] #[], .func (.func 174) #[] #[]] 184) = W at *
  obtain ⟨e0, e1, e2, e3, e4, e5, e6, e7⟩ := H2.z
  have g0 := fun n os => cellG H2.lt e0 n os
  have g1 := fun n os => cellG H2.lt e1 n os
  have g2 := fun n os => cellG H2.lt e2 n os
  have g3 := fun n os => cellG H2.lt e3 n os
  have g4 := fun n os => cellG H2.lt e4 n os
  have g5 := fun n os => cellG H2.lt e5 n os
  have g6 := fun n os => cellG H2.lt e6 n os
  have g7 := fun n os => cellG H2.lt e7 n os
  have gf := fun n os => cellG flt f0 n os
  clear H1 H2 b1 b2 hs f0 flt e0 e1 e2 e3 e4 e5 e6 e7
  refine wp_region_quiet_grown mixed (by kernel_rfl) ?_
  repeat (go_big_quiet_step ((go_at_call 167; exact Calls.grown_of (clo2 _ _ _ _ _ _ _ _ _))))
  refine wpQuiet_nil ?_
  intro _ hw'
  obtain ⟨⟨nq, osq⟩, hw''⟩ := hw'
  subst hw''
  go_wp2
  go_ret
  exact ⟨by simp, BE.out.trans ((below_grow _ _ _).mono BE.out.size)⟩
set_option maxRecDepth 100000 in
set_option maxHeartbeats 2000000 in
theorem opOf3 (d fb fa tb ta c r : Int) (w : World) : Calls Try.prog 153 #[.agg #[.int .i64 3, .int .i64 d, .int .i64 fb, .int .i64 fa, .int .i64 tb, .int .i64 ta, .int .i64 c, .int .i64 r]] w fun e w' => e = .returned (.iface 170 (.agg #[.int .i64 3, .int .i64 d, .int .i64 fb, .int .i64 fa, .int .i64 tb, .int .i64 ta, .int .i64 c, .int .i64 r])) ∧ Below w.heap.size w w' := by
  have mixed : Try.prog.follows .mixedOrders = true := by kernel_rfl
  go_enter Try.func153, Try.ntmps153
  go_wp2_with (go_at_call 57; refine (nd.within64 _ _ _ _).mono ?_; rintro e w' ⟨rfl, rfl⟩)
  have H1 := opAt_new 3 d fb fa tb ta c r w
  have b1 : Below w.heap.size w (w.alloc (.cells #[.int .i64 3, .int .i64 d, .int .i64 fb, .int .i64 fa, .int .i64 tb, .int .i64 ta, .int .i64 c, .int .i64 r] 90)) := (Below.refl _ _).alloc (Nat.le_refl _) _
  have hs : (w.alloc (.cells #[.int .i64 3, .int .i64 d, .int .i64 fb, .int .i64 fa, .int .i64 tb, .int .i64 ta, .int .i64 c, .int .i64 r] 90)).heap.size = w.heap.size + 1 := by simp
  generalize w.alloc (.cells #[.int .i64 3, .int .i64 d, .int .i64 fb, .int .i64 fa, .int .i64 tb, .int .i64 ta, .int .i64 c, .int .i64 r] 90) = W1 at *
  have b2 : Below W1.heap.size W1 (W1.alloc (.cells #[.nilFunc, .func (.func 166) #[] #[], .func (.func 167) #[] #[], .func (.func 168) #[] #[], .func (.func 169) #[] #[], .func (.func 170) #[] #[], .func (.func 171) #[] #[], .func (.func 172) #[] #[], .func (.func 173) #[] #[], .func (.func 174) #[] #[]] 184)) := (Below.refl _ _).alloc (Nat.le_refl _) _
  have H2 := H1.below b2
  have f0 : (W1.alloc (.cells #[.nilFunc, .func (.func 166) #[] #[], .func (.func 167) #[] #[], .func (.func 168) #[] #[], .func (.func 169) #[] #[], .func (.func 170) #[] #[], .func (.func 171) #[] #[], .func (.func 172) #[] #[], .func (.func 173) #[] #[], .func (.func 174) #[] #[]] 184)).cell? ⟨w.heap.size + 1, 3, none⟩ = some (.func (.func 168) #[] #[]) := by rw [← hs]; exact World.cell?_alloc_at _ _ _ _ rfl
  have flt : w.heap.size + 1 < (W1.alloc (.cells #[.nilFunc, .func (.func 166) #[] #[], .func (.func 167) #[] #[], .func (.func 168) #[] #[], .func (.func 169) #[] #[], .func (.func 170) #[] #[], .func (.func 171) #[] #[], .func (.func 172) #[] #[], .func (.func 173) #[] #[], .func (.func 174) #[] #[]] 184)).heap.size := by rw [← hs]; simp
  have BE : Hid (Below w.heap.size w (W1.alloc (.cells #[.nilFunc, .func (.func 166) #[] #[], .func (.func 167) #[] #[], .func (.func 168) #[] #[], .func (.func 169) #[] #[], .func (.func 170) #[] #[], .func (.func 171) #[] #[], .func (.func 172) #[] #[], .func (.func 173) #[] #[], .func (.func 174) #[] #[]] 184))) := hid (b1.trans (b2.mono (by omega)))
  generalize W1.alloc (.cells #[.nilFunc, .func (.func 166) #[] #[], .func (.func 167) #[] #[], .func (.func 168) #[] #[], .func (.func 169) #[] #[], .func (.func 170) #[] #[], .func (.func 171) #[] #[], .func (.func 172) #[] #[], .func (.func 173) #[] #[], .func (.func 174) #[] #[]] 184) = W at *
  obtain ⟨e0, e1, e2, e3, e4, e5, e6, e7⟩ := H2.z
  have g0 := fun n os => cellG H2.lt e0 n os
  have g1 := fun n os => cellG H2.lt e1 n os
  have g2 := fun n os => cellG H2.lt e2 n os
  have g3 := fun n os => cellG H2.lt e3 n os
  have g4 := fun n os => cellG H2.lt e4 n os
  have g5 := fun n os => cellG H2.lt e5 n os
  have g6 := fun n os => cellG H2.lt e6 n os
  have g7 := fun n os => cellG H2.lt e7 n os
  have gf := fun n os => cellG flt f0 n os
  clear H1 H2 b1 b2 hs f0 flt e0 e1 e2 e3 e4 e5 e6 e7
  refine wp_region_quiet_grown mixed (by kernel_rfl) ?_
  repeat (go_big_quiet_step ((go_at_call 168; exact Calls.grown_of (clo3 _ _ _ _ _ _ _ _ _))))
  refine wpQuiet_nil ?_
  intro _ hw'
  obtain ⟨⟨nq, osq⟩, hw''⟩ := hw'
  subst hw''
  go_wp2
  go_ret
  exact ⟨by simp, BE.out.trans ((below_grow _ _ _).mono BE.out.size)⟩
set_option maxRecDepth 100000 in
set_option maxHeartbeats 2000000 in
theorem opOf4 (d fb fa tb ta c r : Int) (w : World) : Calls Try.prog 153 #[.agg #[.int .i64 4, .int .i64 d, .int .i64 fb, .int .i64 fa, .int .i64 tb, .int .i64 ta, .int .i64 c, .int .i64 r]] w fun e w' => e = .returned (.iface 171 (.agg #[.int .i64 4, .int .i64 d, .int .i64 fb, .int .i64 fa, .int .i64 tb, .int .i64 ta, .int .i64 c, .int .i64 r])) ∧ Below w.heap.size w w' := by
  have mixed : Try.prog.follows .mixedOrders = true := by kernel_rfl
  go_enter Try.func153, Try.ntmps153
  go_wp2_with (go_at_call 57; refine (nd.within64 _ _ _ _).mono ?_; rintro e w' ⟨rfl, rfl⟩)
  have H1 := opAt_new 4 d fb fa tb ta c r w
  have b1 : Below w.heap.size w (w.alloc (.cells #[.int .i64 4, .int .i64 d, .int .i64 fb, .int .i64 fa, .int .i64 tb, .int .i64 ta, .int .i64 c, .int .i64 r] 90)) := (Below.refl _ _).alloc (Nat.le_refl _) _
  have hs : (w.alloc (.cells #[.int .i64 4, .int .i64 d, .int .i64 fb, .int .i64 fa, .int .i64 tb, .int .i64 ta, .int .i64 c, .int .i64 r] 90)).heap.size = w.heap.size + 1 := by simp
  generalize w.alloc (.cells #[.int .i64 4, .int .i64 d, .int .i64 fb, .int .i64 fa, .int .i64 tb, .int .i64 ta, .int .i64 c, .int .i64 r] 90) = W1 at *
  have b2 : Below W1.heap.size W1 (W1.alloc (.cells #[.nilFunc, .func (.func 166) #[] #[], .func (.func 167) #[] #[], .func (.func 168) #[] #[], .func (.func 169) #[] #[], .func (.func 170) #[] #[], .func (.func 171) #[] #[], .func (.func 172) #[] #[], .func (.func 173) #[] #[], .func (.func 174) #[] #[]] 184)) := (Below.refl _ _).alloc (Nat.le_refl _) _
  have H2 := H1.below b2
  have f0 : (W1.alloc (.cells #[.nilFunc, .func (.func 166) #[] #[], .func (.func 167) #[] #[], .func (.func 168) #[] #[], .func (.func 169) #[] #[], .func (.func 170) #[] #[], .func (.func 171) #[] #[], .func (.func 172) #[] #[], .func (.func 173) #[] #[], .func (.func 174) #[] #[]] 184)).cell? ⟨w.heap.size + 1, 4, none⟩ = some (.func (.func 169) #[] #[]) := by rw [← hs]; exact World.cell?_alloc_at _ _ _ _ rfl
  have flt : w.heap.size + 1 < (W1.alloc (.cells #[.nilFunc, .func (.func 166) #[] #[], .func (.func 167) #[] #[], .func (.func 168) #[] #[], .func (.func 169) #[] #[], .func (.func 170) #[] #[], .func (.func 171) #[] #[], .func (.func 172) #[] #[], .func (.func 173) #[] #[], .func (.func 174) #[] #[]] 184)).heap.size := by rw [← hs]; simp
  have BE : Hid (Below w.heap.size w (W1.alloc (.cells #[.nilFunc, .func (.func 166) #[] #[], .func (.func 167) #[] #[], .func (.func 168) #[] #[], .func (.func 169) #[] #[], .func (.func 170) #[] #[], .func (.func 171) #[] #[], .func (.func 172) #[] #[], .func (.func 173) #[] #[], .func (.func 174) #[] #[]] 184))) := hid (b1.trans (b2.mono (by omega)))
  generalize W1.alloc (.cells #[.nilFunc, .func (.func 166) #[] #[], .func (.func 167) #[] #[], .func (.func 168) #[] #[], .func (.func 169) #[] #[], .func (.func 170) #[] #[], .func (.func 171) #[] #[], .func (.func 172) #[] #[], .func (.func 173) #[] #[], .func (.func 174) #[] #[]] 184) = W at *
  obtain ⟨e0, e1, e2, e3, e4, e5, e6, e7⟩ := H2.z
  have g0 := fun n os => cellG H2.lt e0 n os
  have g1 := fun n os => cellG H2.lt e1 n os
  have g2 := fun n os => cellG H2.lt e2 n os
  have g3 := fun n os => cellG H2.lt e3 n os
  have g4 := fun n os => cellG H2.lt e4 n os
  have g5 := fun n os => cellG H2.lt e5 n os
  have g6 := fun n os => cellG H2.lt e6 n os
  have g7 := fun n os => cellG H2.lt e7 n os
  have gf := fun n os => cellG flt f0 n os
  clear H1 H2 b1 b2 hs f0 flt e0 e1 e2 e3 e4 e5 e6 e7
  refine wp_region_quiet_grown mixed (by kernel_rfl) ?_
  repeat (go_big_quiet_step ((go_at_call 169; exact Calls.grown_of (clo4 _ _ _ _ _ _ _ _ _))))
  refine wpQuiet_nil ?_
  intro _ hw'
  obtain ⟨⟨nq, osq⟩, hw''⟩ := hw'
  subst hw''
  go_wp2
  go_ret
  exact ⟨by simp, BE.out.trans ((below_grow _ _ _).mono BE.out.size)⟩
set_option maxRecDepth 100000 in
set_option maxHeartbeats 2000000 in
theorem opOf5 (d fb fa tb ta c r : Int) (w : World) : Calls Try.prog 153 #[.agg #[.int .i64 5, .int .i64 d, .int .i64 fb, .int .i64 fa, .int .i64 tb, .int .i64 ta, .int .i64 c, .int .i64 r]] w fun e w' => e = .returned (.iface 172 (.agg #[.int .i64 5, .int .i64 d, .int .i64 fb, .int .i64 fa, .int .i64 tb, .int .i64 ta, .int .i64 c, .int .i64 r])) ∧ Below w.heap.size w w' := by
  have mixed : Try.prog.follows .mixedOrders = true := by kernel_rfl
  go_enter Try.func153, Try.ntmps153
  go_wp2_with (go_at_call 57; refine (nd.within64 _ _ _ _).mono ?_; rintro e w' ⟨rfl, rfl⟩)
  have H1 := opAt_new 5 d fb fa tb ta c r w
  have b1 : Below w.heap.size w (w.alloc (.cells #[.int .i64 5, .int .i64 d, .int .i64 fb, .int .i64 fa, .int .i64 tb, .int .i64 ta, .int .i64 c, .int .i64 r] 90)) := (Below.refl _ _).alloc (Nat.le_refl _) _
  have hs : (w.alloc (.cells #[.int .i64 5, .int .i64 d, .int .i64 fb, .int .i64 fa, .int .i64 tb, .int .i64 ta, .int .i64 c, .int .i64 r] 90)).heap.size = w.heap.size + 1 := by simp
  generalize w.alloc (.cells #[.int .i64 5, .int .i64 d, .int .i64 fb, .int .i64 fa, .int .i64 tb, .int .i64 ta, .int .i64 c, .int .i64 r] 90) = W1 at *
  have b2 : Below W1.heap.size W1 (W1.alloc (.cells #[.nilFunc, .func (.func 166) #[] #[], .func (.func 167) #[] #[], .func (.func 168) #[] #[], .func (.func 169) #[] #[], .func (.func 170) #[] #[], .func (.func 171) #[] #[], .func (.func 172) #[] #[], .func (.func 173) #[] #[], .func (.func 174) #[] #[]] 184)) := (Below.refl _ _).alloc (Nat.le_refl _) _
  have H2 := H1.below b2
  have f0 : (W1.alloc (.cells #[.nilFunc, .func (.func 166) #[] #[], .func (.func 167) #[] #[], .func (.func 168) #[] #[], .func (.func 169) #[] #[], .func (.func 170) #[] #[], .func (.func 171) #[] #[], .func (.func 172) #[] #[], .func (.func 173) #[] #[], .func (.func 174) #[] #[]] 184)).cell? ⟨w.heap.size + 1, 5, none⟩ = some (.func (.func 170) #[] #[]) := by rw [← hs]; exact World.cell?_alloc_at _ _ _ _ rfl
  have flt : w.heap.size + 1 < (W1.alloc (.cells #[.nilFunc, .func (.func 166) #[] #[], .func (.func 167) #[] #[], .func (.func 168) #[] #[], .func (.func 169) #[] #[], .func (.func 170) #[] #[], .func (.func 171) #[] #[], .func (.func 172) #[] #[], .func (.func 173) #[] #[], .func (.func 174) #[] #[]] 184)).heap.size := by rw [← hs]; simp
  have BE : Hid (Below w.heap.size w (W1.alloc (.cells #[.nilFunc, .func (.func 166) #[] #[], .func (.func 167) #[] #[], .func (.func 168) #[] #[], .func (.func 169) #[] #[], .func (.func 170) #[] #[], .func (.func 171) #[] #[], .func (.func 172) #[] #[], .func (.func 173) #[] #[], .func (.func 174) #[] #[]] 184))) := hid (b1.trans (b2.mono (by omega)))
  generalize W1.alloc (.cells #[.nilFunc, .func (.func 166) #[] #[], .func (.func 167) #[] #[], .func (.func 168) #[] #[], .func (.func 169) #[] #[], .func (.func 170) #[] #[], .func (.func 171) #[] #[], .func (.func 172) #[] #[], .func (.func 173) #[] #[], .func (.func 174) #[] #[]] 184) = W at *
  obtain ⟨e0, e1, e2, e3, e4, e5, e6, e7⟩ := H2.z
  have g0 := fun n os => cellG H2.lt e0 n os
  have g1 := fun n os => cellG H2.lt e1 n os
  have g2 := fun n os => cellG H2.lt e2 n os
  have g3 := fun n os => cellG H2.lt e3 n os
  have g4 := fun n os => cellG H2.lt e4 n os
  have g5 := fun n os => cellG H2.lt e5 n os
  have g6 := fun n os => cellG H2.lt e6 n os
  have g7 := fun n os => cellG H2.lt e7 n os
  have gf := fun n os => cellG flt f0 n os
  clear H1 H2 b1 b2 hs f0 flt e0 e1 e2 e3 e4 e5 e6 e7
  refine wp_region_quiet_grown mixed (by kernel_rfl) ?_
  repeat (go_big_quiet_step ((go_at_call 170; exact Calls.grown_of (clo5 _ _ _ _ _ _ _ _ _))))
  refine wpQuiet_nil ?_
  intro _ hw'
  obtain ⟨⟨nq, osq⟩, hw''⟩ := hw'
  subst hw''
  go_wp2
  go_ret
  exact ⟨by simp, BE.out.trans ((below_grow _ _ _).mono BE.out.size)⟩
set_option maxRecDepth 100000 in
set_option maxHeartbeats 2000000 in
theorem opOf6 (d fb fa tb ta c r : Int) (w : World) : Calls Try.prog 153 #[.agg #[.int .i64 6, .int .i64 d, .int .i64 fb, .int .i64 fa, .int .i64 tb, .int .i64 ta, .int .i64 c, .int .i64 r]] w fun e w' => e = .returned (.iface 173 (.agg #[.int .i64 6, .int .i64 d, .int .i64 fb, .int .i64 fa, .int .i64 tb, .int .i64 ta, .int .i64 c, .int .i64 r])) ∧ Below w.heap.size w w' := by
  have mixed : Try.prog.follows .mixedOrders = true := by kernel_rfl
  go_enter Try.func153, Try.ntmps153
  go_wp2_with (go_at_call 57; refine (nd.within64 _ _ _ _).mono ?_; rintro e w' ⟨rfl, rfl⟩)
  have H1 := opAt_new 6 d fb fa tb ta c r w
  have b1 : Below w.heap.size w (w.alloc (.cells #[.int .i64 6, .int .i64 d, .int .i64 fb, .int .i64 fa, .int .i64 tb, .int .i64 ta, .int .i64 c, .int .i64 r] 90)) := (Below.refl _ _).alloc (Nat.le_refl _) _
  have hs : (w.alloc (.cells #[.int .i64 6, .int .i64 d, .int .i64 fb, .int .i64 fa, .int .i64 tb, .int .i64 ta, .int .i64 c, .int .i64 r] 90)).heap.size = w.heap.size + 1 := by simp
  generalize w.alloc (.cells #[.int .i64 6, .int .i64 d, .int .i64 fb, .int .i64 fa, .int .i64 tb, .int .i64 ta, .int .i64 c, .int .i64 r] 90) = W1 at *
  have b2 : Below W1.heap.size W1 (W1.alloc (.cells #[.nilFunc, .func (.func 166) #[] #[], .func (.func 167) #[] #[], .func (.func 168) #[] #[], .func (.func 169) #[] #[], .func (.func 170) #[] #[], .func (.func 171) #[] #[], .func (.func 172) #[] #[], .func (.func 173) #[] #[], .func (.func 174) #[] #[]] 184)) := (Below.refl _ _).alloc (Nat.le_refl _) _
  have H2 := H1.below b2
  have f0 : (W1.alloc (.cells #[.nilFunc, .func (.func 166) #[] #[], .func (.func 167) #[] #[], .func (.func 168) #[] #[], .func (.func 169) #[] #[], .func (.func 170) #[] #[], .func (.func 171) #[] #[], .func (.func 172) #[] #[], .func (.func 173) #[] #[], .func (.func 174) #[] #[]] 184)).cell? ⟨w.heap.size + 1, 6, none⟩ = some (.func (.func 171) #[] #[]) := by rw [← hs]; exact World.cell?_alloc_at _ _ _ _ rfl
  have flt : w.heap.size + 1 < (W1.alloc (.cells #[.nilFunc, .func (.func 166) #[] #[], .func (.func 167) #[] #[], .func (.func 168) #[] #[], .func (.func 169) #[] #[], .func (.func 170) #[] #[], .func (.func 171) #[] #[], .func (.func 172) #[] #[], .func (.func 173) #[] #[], .func (.func 174) #[] #[]] 184)).heap.size := by rw [← hs]; simp
  have BE : Hid (Below w.heap.size w (W1.alloc (.cells #[.nilFunc, .func (.func 166) #[] #[], .func (.func 167) #[] #[], .func (.func 168) #[] #[], .func (.func 169) #[] #[], .func (.func 170) #[] #[], .func (.func 171) #[] #[], .func (.func 172) #[] #[], .func (.func 173) #[] #[], .func (.func 174) #[] #[]] 184))) := hid (b1.trans (b2.mono (by omega)))
  generalize W1.alloc (.cells #[.nilFunc, .func (.func 166) #[] #[], .func (.func 167) #[] #[], .func (.func 168) #[] #[], .func (.func 169) #[] #[], .func (.func 170) #[] #[], .func (.func 171) #[] #[], .func (.func 172) #[] #[], .func (.func 173) #[] #[], .func (.func 174) #[] #[]] 184) = W at *
  obtain ⟨e0, e1, e2, e3, e4, e5, e6, e7⟩ := H2.z
  have g0 := fun n os => cellG H2.lt e0 n os
  have g1 := fun n os => cellG H2.lt e1 n os
  have g2 := fun n os => cellG H2.lt e2 n os
  have g3 := fun n os => cellG H2.lt e3 n os
  have g4 := fun n os => cellG H2.lt e4 n os
  have g5 := fun n os => cellG H2.lt e5 n os
  have g6 := fun n os => cellG H2.lt e6 n os
  have g7 := fun n os => cellG H2.lt e7 n os
  have gf := fun n os => cellG flt f0 n os
  clear H1 H2 b1 b2 hs f0 flt e0 e1 e2 e3 e4 e5 e6 e7
  refine wp_region_quiet_grown mixed (by kernel_rfl) ?_
  repeat (go_big_quiet_step ((go_at_call 171; exact Calls.grown_of (clo6 _ _ _ _ _ _ _ _ _))))
  refine wpQuiet_nil ?_
  intro _ hw'
  obtain ⟨⟨nq, osq⟩, hw''⟩ := hw'
  subst hw''
  go_wp2
  go_ret
  exact ⟨by simp, BE.out.trans ((below_grow _ _ _).mono BE.out.size)⟩
set_option maxRecDepth 100000 in
set_option maxHeartbeats 2000000 in
theorem opOf7 (d fb fa tb ta c r : Int) (w : World) : Calls Try.prog 153 #[.agg #[.int .i64 7, .int .i64 d, .int .i64 fb, .int .i64 fa, .int .i64 tb, .int .i64 ta, .int .i64 c, .int .i64 r]] w fun e w' => e = .returned (.iface 174 (.agg #[.int .i64 7, .int .i64 d, .int .i64 fb, .int .i64 fa, .int .i64 tb, .int .i64 ta, .int .i64 c, .int .i64 r])) ∧ Below w.heap.size w w' := by
  have mixed : Try.prog.follows .mixedOrders = true := by kernel_rfl
  go_enter Try.func153, Try.ntmps153
  go_wp2_with (go_at_call 57; refine (nd.within64 _ _ _ _).mono ?_; rintro e w' ⟨rfl, rfl⟩)
  have H1 := opAt_new 7 d fb fa tb ta c r w
  have b1 : Below w.heap.size w (w.alloc (.cells #[.int .i64 7, .int .i64 d, .int .i64 fb, .int .i64 fa, .int .i64 tb, .int .i64 ta, .int .i64 c, .int .i64 r] 90)) := (Below.refl _ _).alloc (Nat.le_refl _) _
  have hs : (w.alloc (.cells #[.int .i64 7, .int .i64 d, .int .i64 fb, .int .i64 fa, .int .i64 tb, .int .i64 ta, .int .i64 c, .int .i64 r] 90)).heap.size = w.heap.size + 1 := by simp
  generalize w.alloc (.cells #[.int .i64 7, .int .i64 d, .int .i64 fb, .int .i64 fa, .int .i64 tb, .int .i64 ta, .int .i64 c, .int .i64 r] 90) = W1 at *
  have b2 : Below W1.heap.size W1 (W1.alloc (.cells #[.nilFunc, .func (.func 166) #[] #[], .func (.func 167) #[] #[], .func (.func 168) #[] #[], .func (.func 169) #[] #[], .func (.func 170) #[] #[], .func (.func 171) #[] #[], .func (.func 172) #[] #[], .func (.func 173) #[] #[], .func (.func 174) #[] #[]] 184)) := (Below.refl _ _).alloc (Nat.le_refl _) _
  have H2 := H1.below b2
  have f0 : (W1.alloc (.cells #[.nilFunc, .func (.func 166) #[] #[], .func (.func 167) #[] #[], .func (.func 168) #[] #[], .func (.func 169) #[] #[], .func (.func 170) #[] #[], .func (.func 171) #[] #[], .func (.func 172) #[] #[], .func (.func 173) #[] #[], .func (.func 174) #[] #[]] 184)).cell? ⟨w.heap.size + 1, 7, none⟩ = some (.func (.func 172) #[] #[]) := by rw [← hs]; exact World.cell?_alloc_at _ _ _ _ rfl
  have flt : w.heap.size + 1 < (W1.alloc (.cells #[.nilFunc, .func (.func 166) #[] #[], .func (.func 167) #[] #[], .func (.func 168) #[] #[], .func (.func 169) #[] #[], .func (.func 170) #[] #[], .func (.func 171) #[] #[], .func (.func 172) #[] #[], .func (.func 173) #[] #[], .func (.func 174) #[] #[]] 184)).heap.size := by rw [← hs]; simp
  have BE : Hid (Below w.heap.size w (W1.alloc (.cells #[.nilFunc, .func (.func 166) #[] #[], .func (.func 167) #[] #[], .func (.func 168) #[] #[], .func (.func 169) #[] #[], .func (.func 170) #[] #[], .func (.func 171) #[] #[], .func (.func 172) #[] #[], .func (.func 173) #[] #[], .func (.func 174) #[] #[]] 184))) := hid (b1.trans (b2.mono (by omega)))
  generalize W1.alloc (.cells #[.nilFunc, .func (.func 166) #[] #[], .func (.func 167) #[] #[], .func (.func 168) #[] #[], .func (.func 169) #[] #[], .func (.func 170) #[] #[], .func (.func 171) #[] #[], .func (.func 172) #[] #[], .func (.func 173) #[] #[], .func (.func 174) #[] #[]] 184) = W at *
  obtain ⟨e0, e1, e2, e3, e4, e5, e6, e7⟩ := H2.z
  have g0 := fun n os => cellG H2.lt e0 n os
  have g1 := fun n os => cellG H2.lt e1 n os
  have g2 := fun n os => cellG H2.lt e2 n os
  have g3 := fun n os => cellG H2.lt e3 n os
  have g4 := fun n os => cellG H2.lt e4 n os
  have g5 := fun n os => cellG H2.lt e5 n os
  have g6 := fun n os => cellG H2.lt e6 n os
  have g7 := fun n os => cellG H2.lt e7 n os
  have gf := fun n os => cellG flt f0 n os
  clear H1 H2 b1 b2 hs f0 flt e0 e1 e2 e3 e4 e5 e6 e7
  refine wp_region_quiet_grown mixed (by kernel_rfl) ?_
  repeat (go_big_quiet_step ((go_at_call 172; exact Calls.grown_of (clo7 _ _ _ _ _ _ _ _ _))))
  refine wpQuiet_nil ?_
  intro _ hw'
  obtain ⟨⟨nq, osq⟩, hw''⟩ := hw'
  subst hw''
  go_wp2
  go_ret
  exact ⟨by simp, BE.out.trans ((below_grow _ _ _).mono BE.out.size)⟩
set_option maxRecDepth 100000 in
set_option maxHeartbeats 2000000 in
theorem opOf8 (d fb fa tb ta c r : Int) (w : World) : Calls Try.prog 153 #[.agg #[.int .i64 8, .int .i64 d, .int .i64 fb, .int .i64 fa, .int .i64 tb, .int .i64 ta, .int .i64 c, .int .i64 r]] w fun e w' => e = .returned (.iface 175 (.agg #[.int .i64 8, .int .i64 d, .int .i64 fb, .int .i64 fa, .int .i64 tb, .int .i64 ta, .int .i64 c, .int .i64 r])) ∧ Below w.heap.size w w' := by
  have mixed : Try.prog.follows .mixedOrders = true := by kernel_rfl
  go_enter Try.func153, Try.ntmps153
  go_wp2_with (go_at_call 57; refine (nd.within64 _ _ _ _).mono ?_; rintro e w' ⟨rfl, rfl⟩)
  have H1 := opAt_new 8 d fb fa tb ta c r w
  have b1 : Below w.heap.size w (w.alloc (.cells #[.int .i64 8, .int .i64 d, .int .i64 fb, .int .i64 fa, .int .i64 tb, .int .i64 ta, .int .i64 c, .int .i64 r] 90)) := (Below.refl _ _).alloc (Nat.le_refl _) _
  have hs : (w.alloc (.cells #[.int .i64 8, .int .i64 d, .int .i64 fb, .int .i64 fa, .int .i64 tb, .int .i64 ta, .int .i64 c, .int .i64 r] 90)).heap.size = w.heap.size + 1 := by simp
  generalize w.alloc (.cells #[.int .i64 8, .int .i64 d, .int .i64 fb, .int .i64 fa, .int .i64 tb, .int .i64 ta, .int .i64 c, .int .i64 r] 90) = W1 at *
  have b2 : Below W1.heap.size W1 (W1.alloc (.cells #[.nilFunc, .func (.func 166) #[] #[], .func (.func 167) #[] #[], .func (.func 168) #[] #[], .func (.func 169) #[] #[], .func (.func 170) #[] #[], .func (.func 171) #[] #[], .func (.func 172) #[] #[], .func (.func 173) #[] #[], .func (.func 174) #[] #[]] 184)) := (Below.refl _ _).alloc (Nat.le_refl _) _
  have H2 := H1.below b2
  have f0 : (W1.alloc (.cells #[.nilFunc, .func (.func 166) #[] #[], .func (.func 167) #[] #[], .func (.func 168) #[] #[], .func (.func 169) #[] #[], .func (.func 170) #[] #[], .func (.func 171) #[] #[], .func (.func 172) #[] #[], .func (.func 173) #[] #[], .func (.func 174) #[] #[]] 184)).cell? ⟨w.heap.size + 1, 8, none⟩ = some (.func (.func 173) #[] #[]) := by rw [← hs]; exact World.cell?_alloc_at _ _ _ _ rfl
  have flt : w.heap.size + 1 < (W1.alloc (.cells #[.nilFunc, .func (.func 166) #[] #[], .func (.func 167) #[] #[], .func (.func 168) #[] #[], .func (.func 169) #[] #[], .func (.func 170) #[] #[], .func (.func 171) #[] #[], .func (.func 172) #[] #[], .func (.func 173) #[] #[], .func (.func 174) #[] #[]] 184)).heap.size := by rw [← hs]; simp
  have BE : Hid (Below w.heap.size w (W1.alloc (.cells #[.nilFunc, .func (.func 166) #[] #[], .func (.func 167) #[] #[], .func (.func 168) #[] #[], .func (.func 169) #[] #[], .func (.func 170) #[] #[], .func (.func 171) #[] #[], .func (.func 172) #[] #[], .func (.func 173) #[] #[], .func (.func 174) #[] #[]] 184))) := hid (b1.trans (b2.mono (by omega)))
  generalize W1.alloc (.cells #[.nilFunc, .func (.func 166) #[] #[], .func (.func 167) #[] #[], .func (.func 168) #[] #[], .func (.func 169) #[] #[], .func (.func 170) #[] #[], .func (.func 171) #[] #[], .func (.func 172) #[] #[], .func (.func 173) #[] #[], .func (.func 174) #[] #[]] 184) = W at *
  obtain ⟨e0, e1, e2, e3, e4, e5, e6, e7⟩ := H2.z
  have g0 := fun n os => cellG H2.lt e0 n os
  have g1 := fun n os => cellG H2.lt e1 n os
  have g2 := fun n os => cellG H2.lt e2 n os
  have g3 := fun n os => cellG H2.lt e3 n os
  have g4 := fun n os => cellG H2.lt e4 n os
  have g5 := fun n os => cellG H2.lt e5 n os
  have g6 := fun n os => cellG H2.lt e6 n os
  have g7 := fun n os => cellG H2.lt e7 n os
  have gf := fun n os => cellG flt f0 n os
  clear H1 H2 b1 b2 hs f0 flt e0 e1 e2 e3 e4 e5 e6 e7
  refine wp_region_quiet_grown mixed (by kernel_rfl) ?_
  repeat (go_big_quiet_step ((go_at_call 173; exact Calls.grown_of (clo8 _ _ _ _ _ _ _ _ _))))
  refine wpQuiet_nil ?_
  intro _ hw'
  obtain ⟨⟨nq, osq⟩, hw''⟩ := hw'
  subst hw''
  go_wp2
  go_ret
  exact ⟨by simp, BE.out.trans ((below_grow _ _ _).mono BE.out.size)⟩
set_option maxRecDepth 100000 in
set_option maxHeartbeats 2000000 in
theorem opOf9 (d fb fa tb ta c r : Int) (w : World) : Calls Try.prog 153 #[.agg #[.int .i64 9, .int .i64 d, .int .i64 fb, .int .i64 fa, .int .i64 tb, .int .i64 ta, .int .i64 c, .int .i64 r]] w fun e w' => e = .returned (.iface 176 (.agg #[.int .i64 9, .int .i64 d, .int .i64 fb, .int .i64 fa, .int .i64 tb, .int .i64 ta, .int .i64 c, .int .i64 r])) ∧ Below w.heap.size w w' := by
  have mixed : Try.prog.follows .mixedOrders = true := by kernel_rfl
  go_enter Try.func153, Try.ntmps153
  go_wp2_with (go_at_call 57; refine (nd.within64 _ _ _ _).mono ?_; rintro e w' ⟨rfl, rfl⟩)
  have H1 := opAt_new 9 d fb fa tb ta c r w
  have b1 : Below w.heap.size w (w.alloc (.cells #[.int .i64 9, .int .i64 d, .int .i64 fb, .int .i64 fa, .int .i64 tb, .int .i64 ta, .int .i64 c, .int .i64 r] 90)) := (Below.refl _ _).alloc (Nat.le_refl _) _
  have hs : (w.alloc (.cells #[.int .i64 9, .int .i64 d, .int .i64 fb, .int .i64 fa, .int .i64 tb, .int .i64 ta, .int .i64 c, .int .i64 r] 90)).heap.size = w.heap.size + 1 := by simp
  generalize w.alloc (.cells #[.int .i64 9, .int .i64 d, .int .i64 fb, .int .i64 fa, .int .i64 tb, .int .i64 ta, .int .i64 c, .int .i64 r] 90) = W1 at *
  have b2 : Below W1.heap.size W1 (W1.alloc (.cells #[.nilFunc, .func (.func 166) #[] #[], .func (.func 167) #[] #[], .func (.func 168) #[] #[], .func (.func 169) #[] #[], .func (.func 170) #[] #[], .func (.func 171) #[] #[], .func (.func 172) #[] #[], .func (.func 173) #[] #[], .func (.func 174) #[] #[]] 184)) := (Below.refl _ _).alloc (Nat.le_refl _) _
  have H2 := H1.below b2
  have f0 : (W1.alloc (.cells #[.nilFunc, .func (.func 166) #[] #[], .func (.func 167) #[] #[], .func (.func 168) #[] #[], .func (.func 169) #[] #[], .func (.func 170) #[] #[], .func (.func 171) #[] #[], .func (.func 172) #[] #[], .func (.func 173) #[] #[], .func (.func 174) #[] #[]] 184)).cell? ⟨w.heap.size + 1, 9, none⟩ = some (.func (.func 174) #[] #[]) := by rw [← hs]; exact World.cell?_alloc_at _ _ _ _ rfl
  have flt : w.heap.size + 1 < (W1.alloc (.cells #[.nilFunc, .func (.func 166) #[] #[], .func (.func 167) #[] #[], .func (.func 168) #[] #[], .func (.func 169) #[] #[], .func (.func 170) #[] #[], .func (.func 171) #[] #[], .func (.func 172) #[] #[], .func (.func 173) #[] #[], .func (.func 174) #[] #[]] 184)).heap.size := by rw [← hs]; simp
  have BE : Hid (Below w.heap.size w (W1.alloc (.cells #[.nilFunc, .func (.func 166) #[] #[], .func (.func 167) #[] #[], .func (.func 168) #[] #[], .func (.func 169) #[] #[], .func (.func 170) #[] #[], .func (.func 171) #[] #[], .func (.func 172) #[] #[], .func (.func 173) #[] #[], .func (.func 174) #[] #[]] 184))) := hid (b1.trans (b2.mono (by omega)))
  generalize W1.alloc (.cells #[.nilFunc, .func (.func 166) #[] #[], .func (.func 167) #[] #[], .func (.func 168) #[] #[], .func (.func 169) #[] #[], .func (.func 170) #[] #[], .func (.func 171) #[] #[], .func (.func 172) #[] #[], .func (.func 173) #[] #[], .func (.func 174) #[] #[]] 184) = W at *
  obtain ⟨e0, e1, e2, e3, e4, e5, e6, e7⟩ := H2.z
  have g0 := fun n os => cellG H2.lt e0 n os
  have g1 := fun n os => cellG H2.lt e1 n os
  have g2 := fun n os => cellG H2.lt e2 n os
  have g3 := fun n os => cellG H2.lt e3 n os
  have g4 := fun n os => cellG H2.lt e4 n os
  have g5 := fun n os => cellG H2.lt e5 n os
  have g6 := fun n os => cellG H2.lt e6 n os
  have g7 := fun n os => cellG H2.lt e7 n os
  have gf := fun n os => cellG flt f0 n os
  clear H1 H2 b1 b2 hs f0 flt e0 e1 e2 e3 e4 e5 e6 e7
  refine wp_region_quiet_grown mixed (by kernel_rfl) ?_
  repeat (go_big_quiet_step ((go_at_call 174; exact Calls.grown_of (clo9 _ _ _ _ _ _ _ _ _))))
  refine wpQuiet_nil ?_
  intro _ hw'
  obtain ⟨⟨nq, osq⟩, hw''⟩ := hw'
  subst hw''
  go_wp2
  go_ret
  exact ⟨by simp, BE.out.trans ((below_grow _ _ _).mono BE.out.size)⟩
end Go.Proofs.Ytaconeliiicloaa.vo
