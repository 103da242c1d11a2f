/-
  The place of a needle; PlaceOf of the program.
-/
import Derived.Test.YtfechjhngcmdpaaVm5
import Derived.Lib.QuietBelow
namespace Go.Proofs.Ytfechjhngcmdpaa.mc
open Go.RowKit Go.Sort Go.Proofs.Ytfechjhngcmdpaa.sl Go.Proofs.Ytfechjhngcmdpaa.br Go.Proofs.Ytfechjhngcmdpaa.fn Go.Proofs.Ytfechjhngcmdpaa.ss
set_option linter.unusedVariables false
set_option linter.unusedSimpArgs false

def plw (p b t : Int) : Int := if b = 2 then t + p else t
def plM (a p : Int) (m : Mch) (b t : Int) : Int := if (okM a p m && nd.validB b t) = true then plw p b t else 0
theorem valid_parts {b t : Int} (h : nd.validB b t = true) : 1 ≤ b ∧ b ≤ 2 ∧ 0 ≤ t ∧ t ≤ 23 := by
  simp [nd.validB] at h; omega

theorem plWith (p b t : Int) (w : World) (hp : -3 ≤ p ∧ p ≤ 3) (ht : 0 ≤ t ∧ t ≤ 23) : Calls Try.prog 87 #[.int .i64 p, .agg #[.int .i64 b, .int .i64 t]] w fun e w' => e = .returned (.int .i64 (plw p b t)) ∧ Below w.heap.size w w' := by
  obtain ⟨hp0, hp1⟩ := hp
  obtain ⟨ht0, ht1⟩ := ht
  have hw : IntKind.i64.wrap (t + p) = t + p := IntWalk.i64_in _ (by omega)
  have hal := (Below.refl w.heap.size w).alloc (Nat.le_refl _) (.cells #[.int .i64 b, .int .i64 t] 31)
  by_cases h : b = 2
  · subst h
    go_enter Try.func87, Try.ntmps87
    go_wp2
    go_ret
    exact ⟨by simp [plw], hal⟩
  · have hb : (b == 2) = false := by simpa using h
    have HF : Hid (plw p b t = t) := hid (by simp [plw, h])
    clear h
    go_enter Try.func87, Try.ntmps87
    go_wp2
    go_ret
    exact ⟨by rw [HF.out]; rfl, hal⟩

set_option maxRecDepth 100000 in
theorem placeOfC (pb : Nat) (p b t : Int) (w : World) (h1 : w.cell? ⟨pb, 1, none⟩ = some (.int .i64 p)) (hp : -3 ≤ p ∧ p ≤ 3) (ht : 0 ≤ t ∧ t ≤ 23) :
    Calls Try.prog 50 #[.pointer (some ⟨pb, 0, none⟩), .agg #[.int .i64 b, .int .i64 t]] w fun e w' => e = .returned (.int .i64 (plw p b t)) ∧ Below w.heap.size w w' := by
  have mixed : Try.prog.follows .mixedOrders = true := by kernel_rfl
  have hal := (Below.refl w.heap.size w).alloc (Nat.le_refl _) (.cells #[.int .i64 b, .int .i64 t] 31)
  have HB := hid hal
  have y1 := (hal.cell (p := ⟨pb, 1, none⟩) (World.block_lt_of_cell? w _ h1)).trans h1
  have d0 : (w.alloc (.cells #[.int .i64 b, .int .i64 t] 31)).cell? ⟨w.heap.size, 0, none⟩ = some (.int .i64 b) := World.cell?_alloc_at _ _ _ _ rfl
  have d1 : (w.alloc (.cells #[.int .i64 b, .int .i64 t] 31)).cell? ⟨w.heap.size, 1, none⟩ = some (.int .i64 t) := World.cell?_alloc_at _ _ _ _ rfl
  have HP := hid (fun W => plWith p b t W hp ht)
  clear hal h1 hp ht
  go_enter Try.func50, Try.ntmps50
  go_wp2_with fail
  generalize w.alloc (.cells #[.int .i64 b, .int .i64 t] 31) = W1 at *
  have c1 := fun d os => cell_regrown y1 d os
  have e0 := fun d os => cell_regrown d0 d os
  have e1 := fun d os => cell_regrown d1 d os
  clear y1 d0 d1
  refine wp_region_quiet_below mixed (by kernel_rfl) ?_
  repeat (go_big_quiet_step ((go_at_call 87; exact Calls.regrown_of (HP.out _))))
  refine wpQuiet_nil ?_
  intro _ hw'
  obtain ⟨⟨nq, osq⟩, hw''⟩ := hw'
  subst hw''
  clear c1 e0 e1
  have HB2 := hid (HB.out.trans ((below_regrown W1 nq osq).mono HB.out.size))
  generalize grow (redrawn W1 nq) osq = W2 at *
  go_wp2
  go_ret
  exact ⟨rfl, HB2.out⟩

end Go.Proofs.Ytfechjhngcmdpaa.mc
