/-
Proved: for every pass, impl.ValidPass answers as its model (FnExactValidPass returns true). No condition.
-/
import Derived.Test.YtkpilmcaeemfmaaRows
import Derived.WalkKit
import Derived.ProofKit
import Derived.OpenShut
import Derived.ShutString
import Derived.ChangeOld
import Derived.Below
import Derived.Lib.SmallJoins
import Derived.Test.YtkpilmcaeemfmaaWValidPass
namespace Go.Proofs.Ytkpilmcaeemfmaa.fnExactValidPass
open Go.ChangeShapes Go.WideShapes Go.ChangeAt Go.RowKit
open Go.ChangeMaps (open_string shut_string)
set_option linter.unusedVariables false

theorem own : ownKnob Try.prog.godebug = none := by kernel_rfl
theorem laidOut : laidOutB Try.prog = true := by kernel_rfl

theorem i64_of {n : Int} (h : (Lit.int .i64 n).wf = true) : -9223372036854775808 ≤ n ∧ n ≤ 9223372036854775807 := by
  have h1 : IntKind.i64.min = -9223372036854775808 := by decide
  have h2 : IntKind.i64.max = 9223372036854775807 := by decide
  simp [Lit.wf, h1, h2] at h; omega

/-! ### The walk: the Go text returns true and writes nothing that was there. -/
theorem walk (a0 : Int) (c0 : Int) (e0 : Int) (g0 : Int) (i0 : Int) (t0 : Int) (w : World) (wa0 : (Lit.int .i64 a0).wf = true) (wc0 : (Lit.int .i64 c0).wf = true) (we0 : (Lit.int .i64 e0).wf = true) (wg0 : (Lit.int .i64 g0).wf = true) (wi0 : (Lit.int .i64 i0).wf = true) (wt0 : (Lit.int .i64 t0).wf = true) :
    Calls Try.prog 3 #[.agg #[.int .i64 a0, .int .i64 c0, .int .i64 e0, .int .i64 g0, .int .i64 i0, .int .i64 t0]] w fun e w' => e = .returned (.bool true) ∧ Below w.heap.size w w' := by
  exact wvalidPass.law a0 c0 e0 g0 i0 t0 w (i64_of wa0) (i64_of wc0) (i64_of we0) (i64_of wg0) (i64_of wi0) (i64_of wt0)

/-! ### The row's step. -/
set_option maxRecDepth 100000 in
theorem lifted (os : Os) (started : os.Started) (H : Type) (enc : TypeId × Value → H) :
    ReturnsInHanded {} Try.checked os 3 .any (Rows.fnExactValidPassSpec.pre6 enc Try.prog Try.f3 Rows.fnExactValidPassRow.domain false) (Rows.fnExactValidPassSpec.post enc Try.prog Try.f3 false true false false) := by
  refine returnsInHanded_of_change (C := Try.checked) own started (by kernel_rfl) Try.func3
    (ChangeSpec.witness6 (enc := enc) (C := Try.checked) false ⟨#[], #[.agg #[.int .i64 0, .int .i64 0, .int .i64 0, .int .i64 0, .int .i64 0, .int .i64 0]], []⟩ 8 (by kernel_rfl) (by kernel_rfl) (by kernel_rfl) (by kernel_rfl)) ?_
  intro W base args ds gs before hval0 hW hcnd _
  have hval : ∀ (j : Nat) t v, Try.f3.params[j]? = some t → args[j]? = some v → Value.okWide Try.prog W .any base t v := hval0
  have hW' := hW
  obtain ⟨p, q, hA0, hV, rfl, hfz, hnd⟩ := hW
  have hA : DataW.TrodAll enc Try.prog W 0 (fun _ => true) true Try.f3.params.toList args.toList ds p := hA0
  rw [Try.params3] at hA hval
  obtain ⟨v0, vs0, d0, ds0, p0, q0, hargs, rfl, rfl, h0, r0⟩ := trodAll_cons hA
  obtain ⟨rfl, rfl, rfl⟩ := trodAll_nil r0
  obtain rfl : args = #[v0] := by cases args; simp_all
  obtain ⟨rfl, rfl⟩ := trodVars_none hV
  have k0 := h0
  have lt0 : ∀ x ∈ p0, x.block < W.heap.size := by obtain ⟨m, hm⟩ := k0; exact DataW.trod_lt m _ _ _ hm
  have R0 : ∀ W' : World, Below W.heap.size W W' → DataW.Trod enc Try.prog W' 0 (fun b => decide (b < W.heap.size)) true 23 v0 d0 p0 := fun W' bel => Below.trod laidOut (by kernel_rfl) (of_decide_eq_true (by kernel_rfl)) k0 bel lt0
  obtain ⟨c0_0, c0_1, c0_2, c0_3, c0_4, c0_5, y0_0, y0_1, y0_2, y0_3, y0_4, y0_5, m0, rfl, rfl, rfl, hf0_0, hf0_1, hf0_2, hf0_3, hf0_4, hf0_5⟩ := sa.open_agg6 Try.underlying23 (by kernel_rfl) (by kernel_rfl) (hval 0 23 v0 rfl rfl) h0
  obtain ⟨a0, s0_0, rfl, wa0⟩ := DataW.trod_int Try.underlying2 hf0_0
  simp at s0_0
  subst s0_0
  obtain ⟨c0, s0_1, rfl, wc0⟩ := DataW.trod_int Try.underlying2 hf0_1
  simp at s0_1
  subst s0_1
  obtain ⟨e0, s0_2, rfl, we0⟩ := DataW.trod_int Try.underlying2 hf0_2
  simp at s0_2
  subst s0_2
  obtain ⟨g0, s0_3, rfl, wg0⟩ := DataW.trod_int Try.underlying2 hf0_3
  simp at s0_3
  subst s0_3
  obtain ⟨i0, s0_4, rfl, wi0⟩ := DataW.trod_int Try.underlying2 hf0_4
  simp at s0_4
  subst s0_4
  obtain ⟨t0, s0_5, rfl, wt0⟩ := DataW.trod_int Try.underlying2 hf0_5
  simp at s0_5
  subst s0_5
  clear hA0 hval0
  refine (walk a0 c0 e0 g0 i0 t0 W wa0 wc0 we0 wg0 wi0 wt0).mono fun e W' ⟨he, bel⟩ => ?_
  subst he
  exact ⟨_, rfl, _, _, _, [], _, [], hW', trodAll_mk1 (shut_bool Try.underlying4 _), (trodAll_cons_mk (R0 _ bel) trodAll_mk0), rfl, bel.frame _, fun h => by cases h⟩

theorem over : Rows.fnExactValidPassRow.holds Try.pinned (OpenSpec.ofChange Rows.fnExactValidPassSpec) :=
  OpenClaim.holds_of_wide 3 Try.f3 rfl rfl rfl rfl rfl rfl rfl ⟨rfl, rfl, rfl, rfl, rfl⟩ rfl rfl rfl rfl rfl (by kernel_rfl) Try.func3 (by kernel_rfl)
    (of_decide_eq_true (by kernel_rfl)) (by unfold Func.isWrapper; first | (rw [if_pos (by decide +kernel)]; kernel_rfl) | (rw [if_neg (by decide +kernel)]; exact ⟨rfl, rfl⟩))
    (fun os started H enc _ => lifted os started H enc)

/-- The given statement. -/
theorem proved : Rows.FnExactValidPassSaid := over
end Go.Proofs.Ytkpilmcaeemfmaa.fnExactValidPass
