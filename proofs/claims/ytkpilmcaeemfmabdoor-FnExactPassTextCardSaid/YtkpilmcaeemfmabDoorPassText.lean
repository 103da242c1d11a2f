/-
Proved: for every pass, impl.PassText answers as its model spec.PassText (FnExactPassText returns true). The library's table of powers of ten is tied to the program's text by the given card.
-/
import Derived.Test.YtkpilmcaeemfmabDoorRows
import Derived.WalkKit
import Derived.ProofKit
import Derived.OpenShut
import Derived.ShutString
import Derived.ChangeOld
import Derived.Below
import Derived.Lib.SmallJoins
import Derived.Test.YtkpilmcaeemfmabDoorCards
import Derived.Test.YtkpilmcaeemfmabDoorTie
import Derived.LaidMore
import Derived.Stop.Joined
import Derived.Lib.LaidTab
import Derived.Test.YtkpilmcaeemfmabDoorPt
import Derived.Test.YtkpilmcaeemfmabDoorSa
namespace Go.Proofs.YtkpilmcaeemfmabDoor.fnExactPassText
open Go.ChangeShapes Go.WideShapes Go.ChangeAt Go.RowKit
open Go.ChangeMaps (open_string shut_string)
set_option linter.unusedVariables false

theorem own : ownKnob Tryd.prog.godebug = none := by kernel_rfl
theorem laidOut : laidOutB Tryd.prog = true := by kernel_rfl

theorem hid' {p : Prop} (h : p) : Hid p := h

/-! ### The walk: the Go text returns true and writes nothing that was there. -/
theorem walk (a0 : Int) (c0 : Int) (e0 : Int) (g0 : Int) (i0 : Int) (t0 : Int) (w : World) (wa0 : (Lit.int .i64 a0).wf = true) (wc0 : (Lit.int .i64 c0).wf = true) (we0 : (Lit.int .i64 e0).wf = true) (wg0 : (Lit.int .i64 g0).wf = true) (wi0 : (Lit.int .i64 i0).wf = true) (wt0 : (Lit.int .i64 t0).wf = true) (hL : laidMetH Tryd.prog Rows.fnExactPassTextRow.laid w) :
    Calls Tryd.prog 3 #[.agg #[.int .i64 a0, .int .i64 c0, .int .i64 e0, .int .i64 g0, .int .i64 i0, .int .i64 t0]] w fun e w' => e = .returned (.bool true) ∧ Below w.heap.size w w' := by
  have hT := lt.tab (by kernel_rfl) hL
  clear hL wa0 wc0 we0 wg0 wi0 wt0
  have bE := (Below.refl w.heap.size w).alloc (Nat.le_refl _) (.cells #[.int .i64 a0, .int .i64 c0, .int .i64 e0, .int .i64 g0, .int .i64 i0, .int .i64 t0] 23)
  have H1 : vp.PAt (w.alloc (.cells #[.int .i64 a0, .int .i64 c0, .int .i64 e0, .int .i64 g0, .int .i64 i0, .int .i64 t0] 23)) w.heap.size a0 c0 e0 g0 i0 t0 :=
    ⟨World.cell?_alloc_at _ _ _ _ rfl, World.cell?_alloc_at _ _ _ _ rfl, World.cell?_alloc_at _ _ _ _ rfl, World.cell?_alloc_at _ _ _ _ rfl, World.cell?_alloc_at _ _ _ _ rfl, World.cell?_alloc_at _ _ _ _ rfl⟩
  have HS := hid' (fun W => pt.specPT a0 c0 e0 g0 i0 t0 W)
  have HI := hid' (fun W t => pt.implPT a0 c0 e0 g0 i0 t0 W t)
  generalize pt.ptext a0 c0 e0 g0 i0 t0 = tx at *
  have HT := hid' (lt.carry hT bE)
  clear hT
  go_enter Tryd.func3, Tryd.ntmps3
  go_wp2_with fail
  generalize w.alloc (.cells #[.int .i64 a0, .int .i64 c0, .int .i64 e0, .int .i64 g0, .int .i64 i0, .int .i64 t0] 23) = W0 at *
  refine (vp.toP a0 c0 e0 g0 i0 t0 W0).mono ?_
  rintro e w1 ⟨rfl, b1⟩
  have H2 := pt.PAt.below H1 b1
  have T2 := hid' (lt.carry HT.out b1)
  have B2 := hid' (bE.trans (b1.mono bE.size))
  clear b1 bE H1 HT
  go_wp2_with fail
  refine (HS.out w1).mono ?_
  rintro e w2 ⟨rfl, b1⟩
  have H3 := pt.PAt.below H2 b1
  have T3 := hid' (lt.carry T2.out b1)
  have B3 := hid' (B2.out.trans (b1.mono B2.out.size))
  clear b1 H2 T2 B2
  have k0 := H3.c0
  have k1 := H3.c1
  have k2 := H3.c2
  have k3 := H3.c3
  have k4 := H3.c4
  have k5 := H3.c5
  go_wp2_with fail
  clear k0 k1 k2 k3 k4 k5
  refine (vp.toP a0 c0 e0 g0 i0 t0 w2).mono ?_
  rintro e w3 ⟨rfl, b1⟩
  have T4 := hid' (lt.carry T3.out b1)
  have B4 := hid' (B3.out.trans (b1.mono B3.out.size))
  clear b1 H3 T3 B3
  go_wp2_with fail
  refine (HI.out w3 T4.out).mono ?_
  rintro e w4 ⟨rfl, b1⟩
  have B5 := hid' (B4.out.trans (b1.mono B4.out.size))
  clear b1
  go_wp2
  go_ret
  exact ⟨rfl, B5.out⟩

/-! ### THE ROW -/
theorem door_met (os : Os) (args : Array Value) : laidMetH Tryd.prog Rows.fnExactPassTextRow.laid ((World.doorLaid Tryd.prog 400 os).forCall (fun _ _ => 0) ⟨#[], args, []⟩).memory :=
  laidMetH_of_parts3 (fuel := 8) (laidMet_of_run' 8 (by kernel_rfl) (by kernel_rfl)) (by kernel_rfl) (by kernel_rfl)

/-! ### The row's step. -/
set_option maxRecDepth 100000 in
theorem lifted (os : Os) (started : os.Started) (H : Type) (enc : TypeId × Value → H) :
    ReturnsInHanded {} Tryd.checked os 3 .any (fun w args => (Rows.fnExactPassTextSpec.pre enc Tryd.prog Tryd.f3 [] false w args ∧ laidMetH Tryd.prog Rows.fnExactPassTextRow.laid w) ∧ sizedMet enc Tryd.prog Tryd.f3 (OpenSpec.ofChange Rows.fnExactPassTextSpec) false w args)
      (Rows.fnExactPassTextSpec.post enc Tryd.prog Tryd.f3 false true false false) := by
  refine returnsInHanded_of_change_and (C := Tryd.checked) (X := fun w _ => laidMetH Tryd.prog Rows.fnExactPassTextRow.laid w) (fun _ _ _ hh h => h.of_heap hh) own started (by kernel_rfl) Tryd.func3
    (ChangeSpec.witness_shaped (enc := enc) (C := Tryd.checked) (os := os) (X := fun w _ => laidMetH Tryd.prog Rows.fnExactPassTextRow.laid w) false (World.doorLaid Tryd.prog 400 os) #[.agg #[.int .i64 0, .int .i64 0, .int .i64 0, .int .i64 0, .int .i64 0, .int .i64 0]] 8 rfl (World.shaped_of_RefB (by kernel_rfl) (by kernel_rfl)) (by kernel_rfl) (by kernel_rfl) (by kernel_rfl) (door_met os _)) ?_
  intro W base args ds gs before hval0 hW _ _ hL _
  have hval : ∀ (j : Nat) t v, Tryd.f3.params[j]? = some t → args[j]? = some v → Value.okWide Tryd.prog W .any base t v := hval0
  have hW' := hW
  obtain ⟨p, q, hA0, hV, rfl, hfz, hnd⟩ := hW
  have hA : DataW.TrodAll enc Tryd.prog W 0 (fun _ => true) true Tryd.f3.params.toList args.toList ds p := hA0
  rw [Tryd.params3] at hA hval
  obtain ⟨v0, vs0, d0, ds0, p0, q0, hargs, rfl, rfl, h0, r0⟩ := trodAll_cons hA
  obtain ⟨rfl, rfl, rfl⟩ := trodAll_nil r0
  obtain rfl : args = #[v0] := by cases args; simp_all
  obtain ⟨rfl, rfl⟩ := trodVars_none hV
  have k0 := h0
  have lt0 : ∀ x ∈ p0, x.block < W.heap.size := by obtain ⟨m, hm⟩ := k0; exact DataW.trod_lt m _ _ _ hm
  have R0 : ∀ W' : World, Below W.heap.size W W' → DataW.Trod enc Tryd.prog W' 0 (fun b => decide (b < W.heap.size)) true 23 v0 d0 p0 := fun W' bel => Below.trod laidOut (by kernel_rfl) (of_decide_eq_true (by kernel_rfl)) k0 bel lt0
  obtain ⟨c0_0, c0_1, c0_2, c0_3, c0_4, c0_5, y0_0, y0_1, y0_2, y0_3, y0_4, y0_5, m0, rfl, rfl, rfl, hf0_0, hf0_1, hf0_2, hf0_3, hf0_4, hf0_5⟩ := sa.open_agg6 Tryd.underlying23 (by kernel_rfl) (by kernel_rfl) (hval 0 23 v0 rfl rfl) h0
  obtain ⟨a0, s0_0, rfl, wa0⟩ := DataW.trod_int Tryd.underlying2 hf0_0
  simp at s0_0
  subst s0_0
  obtain ⟨c0, s0_1, rfl, wc0⟩ := DataW.trod_int Tryd.underlying2 hf0_1
  simp at s0_1
  subst s0_1
  obtain ⟨e0, s0_2, rfl, we0⟩ := DataW.trod_int Tryd.underlying2 hf0_2
  simp at s0_2
  subst s0_2
  obtain ⟨g0, s0_3, rfl, wg0⟩ := DataW.trod_int Tryd.underlying2 hf0_3
  simp at s0_3
  subst s0_3
  obtain ⟨i0, s0_4, rfl, wi0⟩ := DataW.trod_int Tryd.underlying2 hf0_4
  simp at s0_4
  subst s0_4
  obtain ⟨t0, s0_5, rfl, wt0⟩ := DataW.trod_int Tryd.underlying2 hf0_5
  simp at s0_5
  subst s0_5
  clear hA0 hval0
  refine (walk a0 c0 e0 g0 i0 t0 W wa0 wc0 we0 wg0 wi0 wt0 hL).mono fun e W' ⟨he, bel⟩ => ?_
  subst he
  exact ⟨_, rfl, _, _, _, [], _, [], hW', trodAll_mk1 (shut_bool Tryd.underlying4 _), (trodAll_cons_mk (R0 _ bel) trodAll_mk0), rfl, bel.frame _, fun h => by cases h⟩

theorem said : Rows.FnExactPassTextSaid :=
  OpenClaim.holds_of_wide 3 Tryd.f3 rfl rfl rfl rfl rfl rfl rfl ⟨rfl, rfl, rfl, rfl, rfl⟩ rfl rfl rfl rfl rfl (by kernel_rfl) Tryd.func3 (by kernel_rfl)
    (of_decide_eq_true (by kernel_rfl)) (by unfold Func.isWrapper; first | (rw [if_pos (by decide +kernel)]; kernel_rfl) | (rw [if_neg (by decide +kernel)]; exact ⟨rfl, rfl⟩))
    (fun os started H enc _ => lifted os started H enc)

/-- No parameter wants a stand-in; the looks are the program's. -/
theorem plain (f : FuncId) (fn : Func) (hf : Tryd.pinned.checked.prog.funcNamed "loop.example/g00856/laws.FnExactPassText" = some f) (hfn : Tryd.pinned.checked.prog.funcs[f]? = some fn) :
    false = Tryd.pinned.checked.prog.looks [] ∧ ∀ (j : Nat) t, fn.params[j]? = some t → Tryd.pinned.checked.prog.wantsStandIn t = false := by
  obtain rfl : f = 3 := Option.some.inj ((show Tryd.prog.funcNamed "loop.example/g00856/laws.FnExactPassText" = some 3 by kernel_rfl).symm.trans hf) |>.symm
  obtain rfl : fn = Tryd.f3 := (Option.some.inj (Tryd.func3.symm.trans hfn)).symm
  refine ⟨by kernel_rfl, fun j t ht => ?_⟩
  rw [Tryd.params3] at ht
  have hm : t ∈ [23] := by simpa using Array.mem_of_getElem? ht
  have hall : ([23].all fun u => !Tryd.prog.wantsStandIn u) = true := by kernel_rfl
  exact (show Tryd.prog.wantsStandIn t = false by simpa using List.all_eq_true.1 hall t hm)

/-- The given statement. -/
theorem proved : Rows.FnExactPassTextCardSaid :=
  Claim7.holds_tied_plain_at .later [] _ _ _ _ said (fun _ h => by cases h) (by kernel_rfl) (fun _ h => by cases h) fnExactPassText_row_tie rfl ⟨rfl, rfl⟩ (by kernel_rfl) rfl plain (by kernel_rfl)
end Go.Proofs.YtkpilmcaeemfmabDoor.fnExactPassText
