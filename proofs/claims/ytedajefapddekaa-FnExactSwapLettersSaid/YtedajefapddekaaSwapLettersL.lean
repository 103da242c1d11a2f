/-
Proved: for all numbers and both sides, impl.SwapLetters answers as its model, and its answer owns its memory (FnExactSwapLetters returns true). No condition.
-/
import Derived.Test.YtedajefapddekaaRows
import Derived.WalkKit
import Derived.ProofKit
import Derived.OpenShut
import Derived.ShutString
import Derived.ChangeOld
import Derived.Below
import Derived.Lib.SmallJoins
import Derived.Test.YtedajefapddekaaSwl
namespace Go.Proofs.Ytedajefapddekaa.fnExactSwapLetters
open Go.ChangeShapes Go.WideShapes Go.ChangeAt Go.RowKit
open Go.ChangeMaps (open_string shut_string)
set_option linter.unusedVariables false

theorem own : ownKnob Try.prog.godebug = none := by kernel_rfl
theorem laidOut : laidOutB Try.prog = true := by kernel_rfl



/-! ### The walk: the Go text returns true and writes nothing that was there. -/
theorem walk (a0 : Int) (a1 : Int) (a2 : Int) (a3 : Bool) (w : World) (w0 : (Lit.int .i64 a0).wf = true) (w1 : (Lit.int .i64 a1).wf = true) (w2 : (Lit.int .i64 a2).wf = true) :
    Calls Try.prog 5 #[.int .i64 a0, .int .i64 a1, .int .i64 a2, .bool a3] w fun e w' => e = .returned (.bool true) ∧ Below w.heap.size w w' := by
  have C0 : Hid (Below w.heap.size w w) := sl.hid (Below.refl _ _)
  have hr : (db.slW a0 a1 a2 a3).length ≤ 1099511627776 := Nat.le_trans (db.slW_len a0 a1 a2 a3) (by omega)
  go_enter Try.func5, Try.ntmps5
  go_wp2_with fail
  refine (db.specSwL a0 a1 a2 a3 w).mono ?_
  rintro e W1 ⟨v1, rfl, o1, b1⟩
  have hz1 := b1.size
  have O1 := sl.hid o1
  clear o1
  have C2 := sl.hid (C0.out.trans (b1.mono (by omega)))
  clear b1 C0
  go_wp2_with fail
  refine (db.implSwL a0 a1 a2 a3 W1).mono ?_
  rintro e W2 ⟨v3, rfl, o3, b3⟩
  have hz2 := b3.size
  have O3 := sl.hid o3
  clear o3
  have K4 := sl.hid (O1.out.chg (sl.Chg.ofBelow (lo := 0) b3) (.inr (.inr (Nat.le_refl _))))
  have C5 := sl.hid (C2.out.trans (b3.mono (by omega)))
  clear b3 O1 C2
  go_wp2_with fail
  refine (sl.eqS (db.slW a0 a1 a2 a3) v3 v1 _ _ W2 O3.out.ints K4.out.ints hr).mono ?_
  rintro e W3 ⟨rfl, b6⟩
  have hz3 := b6.size
  have K7 := sl.hid (K4.out.chg (sl.Chg.ofBelow (lo := 0) b6) (.inr (.inr (Nat.le_refl _))))
  have K8 := sl.hid (O3.out.chg (sl.Chg.ofBelow (lo := 0) b6) (.inr (.inr (Nat.le_refl _))))
  have C9 := sl.hid (C5.out.trans (b6.mono (by omega)))
  clear b6 K4 O3 C5
  go_wp2_with fail
  refine (sl.markI (db.slW a0 a1 a2 a3) v3 _ _ (1) W3 K8.out hr (by omega) (by omega)).mono ?_
  rintro e W4 ⟨rfl, o10, c10⟩
  have hz4 := c10.size
  have O10 := sl.hid o10
  clear o10 K8
  have K11 := sl.hid (K7.out.chg c10 (by omega))
  have C12 := sl.hid (C9.out.trans (c10.below (by omega) (by omega)))
  clear c10 K7 C9
  go_wp2_with fail
  refine (sl.heldI (db.slW a0 a1 a2 a3).length v3 _ 1 W4 O10.out.ints hr (by omega) (by omega)).mono ?_
  rintro e W5 ⟨rfl, rfl⟩
  go_wp2_with fail
  refine (db.implSwL a0 a1 a2 a3 W4).mono ?_
  rintro e W6 ⟨v13, rfl, o13, b13⟩
  have hz6 := b13.size
  have O13 := sl.hid o13
  clear o13
  have K14 := sl.hid (K11.out.chg (sl.Chg.ofBelow (lo := 0) b13) (.inr (.inr (Nat.le_refl _))))
  have K15 := sl.hid (O10.out.chg (sl.Chg.ofBelow (lo := 0) b13) (.inr (.inr (Nat.le_refl _))))
  have C16 := sl.hid (C12.out.trans (b13.mono (by omega)))
  clear b13 K11 O10 C12
  go_wp2_with fail
  refine (sl.eqS (db.slW a0 a1 a2 a3) v13 v1 _ _ W6 O13.out.ints K14.out.ints hr).mono ?_
  rintro e W7 ⟨rfl, b17⟩
  have hz7 := b17.size
  have K18 := sl.hid (K14.out.chg (sl.Chg.ofBelow (lo := 0) b17) (.inr (.inr (Nat.le_refl _))))
  have K19 := sl.hid (K15.out.chg (sl.Chg.ofBelow (lo := 0) b17) (.inr (.inr (Nat.le_refl _))))
  have K20 := sl.hid (O13.out.chg (sl.Chg.ofBelow (lo := 0) b17) (.inr (.inr (Nat.le_refl _))))
  have C21 := sl.hid (C16.out.trans (b17.mono (by omega)))
  clear b17 K14 K15 O13 C16
  go_wp2_with fail
  refine (sl.heldI (db.slW a0 a1 a2 a3).length v3 _ 1 W7 K19.out.ints hr (by omega) (by omega)).mono ?_
  rintro e W8 ⟨rfl, rfl⟩
  go_wp2
  go_ret
  exact ⟨rfl, C21.out⟩

/-! ### The row's step. -/
set_option maxRecDepth 100000 in
theorem lifted (os : Os) (started : os.Started) (H : Type) (enc : TypeId × Value → H) :
    ReturnsInHanded {} Try.checked os 5 .any (Rows.fnExactSwapLettersSpec.pre6 enc Try.prog Try.f5 Rows.fnExactSwapLettersRow.domain false) (Rows.fnExactSwapLettersSpec.post enc Try.prog Try.f5 false true false false) := by
  refine returnsInHanded_of_change (C := Try.checked) own started (by kernel_rfl) Try.func5
    (ChangeSpec.witness6 (enc := enc) (C := Try.checked) false ⟨#[], #[.int .i64 0, .int .i64 0, .int .i64 0, .bool false], []⟩ 8 (by kernel_rfl) (by kernel_rfl) (by kernel_rfl) (by kernel_rfl)) ?_
  intro W base args ds gs before hval0 hW hcnd _
  have hval : ∀ (j : Nat) t v, Try.f5.params[j]? = some t → args[j]? = some v → Value.okWide Try.prog W .any base t v := hval0
  have hW' := hW
  obtain ⟨p, q, hA0, hV, rfl, hfz, hnd⟩ := hW
  have hA : DataW.TrodAll enc Try.prog W 0 (fun _ => true) true Try.f5.params.toList args.toList ds p := hA0
  rw [Try.params5] at hA hval
  obtain ⟨v0, vs0, d0, ds0, p0, q0, hargs, rfl, rfl, h0, r0⟩ := trodAll_cons hA
  obtain ⟨v1, vs1, d1, ds1, p1, q1, rfl, rfl, rfl, h1, r1⟩ := trodAll_cons r0
  obtain ⟨v2, vs2, d2, ds2, p2, q2, rfl, rfl, rfl, h2, r2⟩ := trodAll_cons r1
  obtain ⟨v3, vs3, d3, ds3, p3, q3, rfl, rfl, rfl, h3, r3⟩ := trodAll_cons r2
  obtain ⟨rfl, rfl, rfl⟩ := trodAll_nil r3
  obtain rfl : args = #[v0, v1, v2, v3] := by cases args; simp_all
  obtain ⟨rfl, rfl⟩ := trodVars_none hV
  have k0 := h0
  have lt0 : ∀ x ∈ p0, x.block < W.heap.size := by obtain ⟨m, hm⟩ := k0; exact DataW.trod_lt m _ _ _ hm
  have k1 := h1
  have lt1 : ∀ x ∈ p1, x.block < W.heap.size := by obtain ⟨m, hm⟩ := k1; exact DataW.trod_lt m _ _ _ hm
  have k2 := h2
  have lt2 : ∀ x ∈ p2, x.block < W.heap.size := by obtain ⟨m, hm⟩ := k2; exact DataW.trod_lt m _ _ _ hm
  have k3 := h3
  have lt3 : ∀ x ∈ p3, x.block < W.heap.size := by obtain ⟨m, hm⟩ := k3; exact DataW.trod_lt m _ _ _ hm
  have R0 : ∀ W' : World, Below W.heap.size W W' → DataW.Trod enc Try.prog W' 0 (fun b => decide (b < W.heap.size)) true 2 v0 d0 p0 := fun W' bel => Below.trod laidOut (by kernel_rfl) (of_decide_eq_true (by kernel_rfl)) k0 bel lt0
  have R1 : ∀ W' : World, Below W.heap.size W W' → DataW.Trod enc Try.prog W' 0 (fun b => decide (b < W.heap.size)) true 2 v1 d1 p1 := fun W' bel => Below.trod laidOut (by kernel_rfl) (of_decide_eq_true (by kernel_rfl)) k1 bel lt1
  have R2 : ∀ W' : World, Below W.heap.size W W' → DataW.Trod enc Try.prog W' 0 (fun b => decide (b < W.heap.size)) true 2 v2 d2 p2 := fun W' bel => Below.trod laidOut (by kernel_rfl) (of_decide_eq_true (by kernel_rfl)) k2 bel lt2
  have R3 : ∀ W' : World, Below W.heap.size W W' → DataW.Trod enc Try.prog W' 0 (fun b => decide (b < W.heap.size)) true 4 v3 d3 p3 := fun W' bel => Below.trod laidOut (by kernel_rfl) (of_decide_eq_true (by kernel_rfl)) k3 bel lt3
  obtain ⟨a0, rfl, rfl, rfl, w0⟩ := open_int Try.underlying2 (hval 0 2 v0 rfl rfl) h0
  obtain ⟨a1, rfl, rfl, rfl, w1⟩ := open_int Try.underlying2 (hval 1 2 v1 rfl rfl) h1
  obtain ⟨a2, rfl, rfl, rfl, w2⟩ := open_int Try.underlying2 (hval 2 2 v2 rfl rfl) h2
  obtain ⟨a3, rfl, rfl, rfl⟩ := open_bool Try.underlying4 (hval 3 4 v3 rfl rfl) h3
  clear hA0 hval0
  refine (walk a0 a1 a2 a3 W w0 w1 w2).mono fun e W' ⟨he, bel⟩ => ?_
  subst he
  exact ⟨_, rfl, _, _, _, [], _, [], hW', trodAll_mk1 (shut_bool Try.underlying4 _), (trodAll_cons_mk (R0 _ bel) (trodAll_cons_mk (R1 _ bel) (trodAll_cons_mk (R2 _ bel) (trodAll_cons_mk (R3 _ bel) trodAll_mk0)))), rfl, bel.frame _, fun h => by cases h⟩
end Go.Proofs.Ytedajefapddekaa.fnExactSwapLetters
