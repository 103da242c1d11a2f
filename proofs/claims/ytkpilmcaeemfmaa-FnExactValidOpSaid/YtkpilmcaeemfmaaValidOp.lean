/-
Proved: for every operation, impl.ValidOp answers as its model (FnExactValidOp returns true). No condition.
-/
import Derived.Test.YtkpilmcaeemfmaaRows
import Derived.WalkKit
import Derived.ProofKit
import Derived.OpenShut
import Derived.ShutString
import Derived.ChangeOld
import Derived.Below
import Derived.Lib.SmallJoins
import Derived.Test.YtkpilmcaeemfmaaWValidOp
namespace Go.Proofs.Ytkpilmcaeemfmaa.fnExactValidOp
open Go.ChangeShapes Go.WideShapes Go.ChangeAt Go.RowKit
open Go.ChangeMaps (open_string shut_string)
set_option linter.unusedVariables false

theorem own : ownKnob Try.prog.godebug = none := by kernel_rfl
theorem laidOut : laidOutB Try.prog = true := by kernel_rfl

theorem i64_of {n : Int} (h : (Lit.int .i64 n).wf = true) : -9223372036854775808 ≤ n ∧ n ≤ 9223372036854775807 := by
  have h1 : IntKind.i64.min = -9223372036854775808 := by decide
  have h2 : IntKind.i64.max = 9223372036854775807 := by decide
  simp [Lit.wf, h1, h2] at h; omega

/-! ### The walk: the Go text returns true and writes nothing that was there. -/
theorem walk (a0 : Int) (c0 : Int) (e0 : Int) (g0 : Int) (i0 : Int) (t0 : Int) (u0 : Int) (z0 : Int) (w : World) (wa0 : (Lit.int .i64 a0).wf = true) (wc0 : (Lit.int .i64 c0).wf = true) (we0 : (Lit.int .i64 e0).wf = true) (wg0 : (Lit.int .i64 g0).wf = true) (wi0 : (Lit.int .i64 i0).wf = true) (wt0 : (Lit.int .i64 t0).wf = true) (wu0 : (Lit.int .i64 u0).wf = true) (wz0 : (Lit.int .i64 z0).wf = true) :
    Calls Try.prog 8 #[.agg #[.int .i64 a0, .int .i64 c0, .int .i64 e0, .int .i64 g0, .int .i64 i0, .int .i64 t0, .int .i64 u0, .int .i64 z0]] w fun e w' => e = .returned (.bool true) ∧ Below w.heap.size w w' := by
  exact wvalidOp.law a0 c0 e0 g0 i0 t0 u0 z0 w (i64_of wa0) (i64_of wc0) (i64_of we0) (i64_of wg0) (i64_of wi0) (i64_of wt0) (i64_of wu0) (i64_of wz0)

/-! ### The row's step. -/
set_option maxRecDepth 100000 in
theorem lifted (os : Os) (started : os.Started) (H : Type) (enc : TypeId × Value → H) :
    ReturnsInHanded {} Try.checked os 8 .any (Rows.fnExactValidOpSpec.pre6 enc Try.prog Try.f8 Rows.fnExactValidOpRow.domain false) (Rows.fnExactValidOpSpec.post enc Try.prog Try.f8 false true false false) := by
  refine returnsInHanded_of_change (C := Try.checked) own started (by kernel_rfl) Try.func8
    (ChangeSpec.witness6 (enc := enc) (C := Try.checked) false ⟨#[], #[.agg #[.int .i64 0, .int .i64 0, .int .i64 0, .int .i64 0, .int .i64 0, .int .i64 0, .int .i64 0, .int .i64 0]], []⟩ 8 (by kernel_rfl) (by kernel_rfl) (by kernel_rfl) (by kernel_rfl)) ?_
  intro W base args ds gs before hval0 hW hcnd _
  have hval : ∀ (j : Nat) t v, Try.f8.params[j]? = some t → args[j]? = some v → Value.okWide Try.prog W .any base t v := hval0
  have hW' := hW
  obtain ⟨p, q, hA0, hV, rfl, hfz, hnd⟩ := hW
  have hA : DataW.TrodAll enc Try.prog W 0 (fun _ => true) true Try.f8.params.toList args.toList ds p := hA0
  rw [Try.params8] at hA hval
  obtain ⟨v0, vs0, d0, ds0, p0, q0, hargs, rfl, rfl, h0, r0⟩ := trodAll_cons hA
  obtain ⟨rfl, rfl, rfl⟩ := trodAll_nil r0
  obtain rfl : args = #[v0] := by cases args; simp_all
  obtain ⟨rfl, rfl⟩ := trodVars_none hV
  have k0 := h0
  have lt0 : ∀ x ∈ p0, x.block < W.heap.size := by obtain ⟨m, hm⟩ := k0; exact DataW.trod_lt m _ _ _ hm
  have R0 : ∀ W' : World, Below W.heap.size W W' → DataW.Trod enc Try.prog W' 0 (fun b => decide (b < W.heap.size)) true 66 v0 d0 p0 := fun W' bel => Below.trod laidOut (by kernel_rfl) (of_decide_eq_true (by kernel_rfl)) k0 bel lt0
  obtain ⟨c0_0, c0_1, c0_2, c0_3, c0_4, c0_5, c0_6, c0_7, y0_0, y0_1, y0_2, y0_3, y0_4, y0_5, y0_6, y0_7, m0, mm0, rfl, rfl, rfl, hf0_0, hf0_1, ⟨_, hf0_2⟩, ⟨_, hf0_3⟩, ⟨_, hf0_4⟩, ⟨_, hf0_5⟩, hf0_6, hf0_7⟩ := sa.open_op Try.underlying66 (by kernel_rfl) (by kernel_rfl) (by kernel_rfl) rfl Try.underlying64 (by kernel_rfl) (hval 0 66 v0 rfl rfl) h0
  obtain ⟨a0, s0_0, rfl, wa0⟩ := DataW.trod_int Try.underlying2 hf0_0
  simp at s0_0
  subst s0_0
  obtain ⟨c0, s0_1, rfl, wc0⟩ := DataW.trod_int Try.underlying2 hf0_1
  simp at s0_1
  subst s0_1
  obtain ⟨e0, s0_2, rfl, we0⟩ := DataW.trod_int Try.underlying2 hf0_2
  simp at s0_2
  subst s0_2
  obtain ⟨g0, s0_3, rfl, wg0⟩ := DataW.trod_int Try.underlying2 hf0_3
  simp at s0_3
  subst s0_3
  obtain ⟨i0, s0_4, rfl, wi0⟩ := DataW.trod_int Try.underlying2 hf0_4
  simp at s0_4
  subst s0_4
  obtain ⟨t0, s0_5, rfl, wt0⟩ := DataW.trod_int Try.underlying2 hf0_5
  simp at s0_5
  subst s0_5
  obtain ⟨u0, s0_6, rfl, wu0⟩ := DataW.trod_int Try.underlying2 hf0_6
  simp at s0_6
  subst s0_6
  obtain ⟨z0, s0_7, rfl, wz0⟩ := DataW.trod_int Try.underlying2 hf0_7
  simp at s0_7
  subst s0_7
  clear hA0 hval0
  refine (walk a0 c0 e0 g0 i0 t0 u0 z0 W wa0 wc0 we0 wg0 wi0 wt0 wu0 wz0).mono fun e W' ⟨he, bel⟩ => ?_
  subst he
  exact ⟨_, rfl, _, _, _, [], _, [], hW', trodAll_mk1 (shut_bool Try.underlying4 _), (trodAll_cons_mk (R0 _ bel) trodAll_mk0), rfl, bel.frame _, fun h => by cases h⟩

theorem over : Rows.fnExactValidOpRow.holds Try.pinned (OpenSpec.ofChange Rows.fnExactValidOpSpec) :=
  OpenClaim.holds_of_wide 8 Try.f8 rfl rfl rfl rfl rfl rfl rfl ⟨rfl, rfl, rfl, rfl, rfl⟩ rfl rfl rfl rfl rfl (by kernel_rfl) Try.func8 (by kernel_rfl)
    (of_decide_eq_true (by kernel_rfl)) (by unfold Func.isWrapper; first | (rw [if_pos (by decide +kernel)]; kernel_rfl) | (rw [if_neg (by decide +kernel)]; exact ⟨rfl, rfl⟩))
    (fun os started H enc _ => lifted os started H enc)

/-- The given statement. -/
theorem proved : Rows.FnExactValidOpSaid := over
end Go.Proofs.Ytkpilmcaeemfmaa.fnExactValidOp
