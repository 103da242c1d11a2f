/-
Proved: for every number and every string, impl.ReadFree answers as its model, and its answer owns its memory (FnExactReadFree returns true). No condition.
-/
import Derived.Test.YtbeaopblopmpeabRows
import Derived.WalkKit
import Derived.ProofKit
import Derived.OpenShut
import Derived.ShutString
import Derived.ChangeOld
import Derived.Below
import Derived.Lib.SmallJoins
import Derived.Test.YtbeaopblopmpeabRf
namespace Go.Proofs.Ytbeaopblopmpeab.fnExactReadFree
open Go.ChangeShapes Go.WideShapes Go.ChangeAt Go.RowKit
open Go.ChangeMaps (open_string shut_string)
set_option linter.unusedVariables false

theorem own : ownKnob Try.prog.godebug = none := by kernel_rfl
theorem laidOut : laidOutB Try.prog = true := by kernel_rfl



/-! ### The walk: the Go text returns true and writes nothing that was there. -/
theorem walk (a0 : Int) (a1 : ByteArray) (w : World) (w0 : (Lit.int .i64 a0).wf = true) (w1 : a1.size ≤ maxLen) :
    Calls Try.prog 9 #[.int .i64 a0, .string a1] w fun e w' => e = .returned (.bool true) ∧ Below w.heap.size w w' := by
  by_cases htl1 : a1.size ≤ 1048576
  · have hl1 : decide ((1048576 : Int) < (a1.size : Int)) = false := by simp; omega
    have C0 : Hid (Below w.heap.size w w) := sl.hid (Below.refl _ _)
    have hr : (fr.rfW a0 a1).length ≤ 1099511627776 := Nat.le_trans (fr.rf_len a0 a1) (by omega)
    go_enter Try.func9, Try.ntmps9
    go_wp2_with fail
    refine (fr.specReadFree a0 a1 w htl1).mono ?_
    rintro e W1 ⟨v1, rfl, o1, b1⟩
    have hz1 := b1.size
    have O1 := sl.hid o1
    clear o1
    have C2 := sl.hid (C0.out.trans (b1.mono (by omega)))
    clear b1 C0
    go_wp2_with fail
    refine (fr.implReadFree a0 a1 W1 htl1).mono ?_
    rintro e W2 ⟨v3, rfl, o3, b3⟩
    have hz2 := b3.size
    have O3 := sl.hid o3
    clear o3
    have K4 := sl.hid (O1.out.chg (sl.Chg.ofBelow (lo := 0) b3) (.inr (.inr (Nat.le_refl _))))
    have C5 := sl.hid (C2.out.trans (b3.mono (by omega)))
    clear b3 O1 C2
    go_wp2_with fail
    refine (sl.eqS (fr.rfW a0 a1) v3 v1 _ _ W2 O3.out.ints K4.out.ints hr).mono ?_
    rintro e W3 ⟨rfl, b6⟩
    have hz3 := b6.size
    have K7 := sl.hid (K4.out.chg (sl.Chg.ofBelow (lo := 0) b6) (.inr (.inr (Nat.le_refl _))))
    have K8 := sl.hid (O3.out.chg (sl.Chg.ofBelow (lo := 0) b6) (.inr (.inr (Nat.le_refl _))))
    have C9 := sl.hid (C5.out.trans (b6.mono (by omega)))
    clear b6 K4 O3 C5
    go_wp2_with fail
    refine (sl.markI (fr.rfW a0 a1) v3 _ _ (1) W3 K8.out hr (by omega) (by omega)).mono ?_
    rintro e W4 ⟨rfl, o10, c10⟩
    have hz4 := c10.size
    have O10 := sl.hid o10
    clear o10 K8
    have K11 := sl.hid (K7.out.chg c10 (by omega))
    have C12 := sl.hid (C9.out.trans (c10.below (by omega) (by omega)))
    clear c10 K7 C9
    go_wp2_with fail
    refine (sl.heldI (fr.rfW a0 a1).length v3 _ 1 W4 O10.out.ints hr (by omega) (by omega)).mono ?_
    rintro e W5 ⟨rfl, rfl⟩
    go_wp2_with fail
    refine (fr.implReadFree a0 a1 W4 htl1).mono ?_
    rintro e W6 ⟨v13, rfl, o13, b13⟩
    have hz6 := b13.size
    have O13 := sl.hid o13
    clear o13
    have K14 := sl.hid (K11.out.chg (sl.Chg.ofBelow (lo := 0) b13) (.inr (.inr (Nat.le_refl _))))
    have K15 := sl.hid (O10.out.chg (sl.Chg.ofBelow (lo := 0) b13) (.inr (.inr (Nat.le_refl _))))
    have C16 := sl.hid (C12.out.trans (b13.mono (by omega)))
    clear b13 K11 O10 C12
    go_wp2_with fail
    refine (sl.eqS (fr.rfW a0 a1) v13 v1 _ _ W6 O13.out.ints K14.out.ints hr).mono ?_
    rintro e W7 ⟨rfl, b17⟩
    have hz7 := b17.size
    have K18 := sl.hid (K14.out.chg (sl.Chg.ofBelow (lo := 0) b17) (.inr (.inr (Nat.le_refl _))))
    have K19 := sl.hid (K15.out.chg (sl.Chg.ofBelow (lo := 0) b17) (.inr (.inr (Nat.le_refl _))))
    have K20 := sl.hid (O13.out.chg (sl.Chg.ofBelow (lo := 0) b17) (.inr (.inr (Nat.le_refl _))))
    have C21 := sl.hid (C16.out.trans (b17.mono (by omega)))
    clear b17 K14 K15 O13 C16
    go_wp2_with fail
    refine (sl.heldI (fr.rfW a0 a1).length v3 _ 1 W7 K19.out.ints hr (by omega) (by omega)).mono ?_
    rintro e W8 ⟨rfl, rfl⟩
    go_wp2
    go_ret
    exact ⟨rfl, C21.out⟩
  · have hl1 : decide ((1048576 : Int) < (a1.size : Int)) = true := by simp; omega
    go_enter Try.func9, Try.ntmps9
    go_wp2
    go_ret
    exact ⟨rfl, Below.refl _ _⟩

/-! ### The row's step. -/
set_option maxRecDepth 100000 in
theorem lifted (os : Os) (started : os.Started) (H : Type) (enc : TypeId × Value → H) :
    ReturnsInHanded {} Try.checked os 9 .any (Rows.fnExactReadFreeSpec.pre6 enc Try.prog Try.f9 Rows.fnExactReadFreeRow.domain false) (Rows.fnExactReadFreeSpec.post enc Try.prog Try.f9 false true false false) := by
  refine returnsInHanded_of_change (C := Try.checked) own started (by kernel_rfl) Try.func9
    (ChangeSpec.witness6 (enc := enc) (C := Try.checked) false ⟨#[], #[.int .i64 0, .string ByteArray.empty], []⟩ 8 (by kernel_rfl) (by kernel_rfl) (by kernel_rfl) (by kernel_rfl)) ?_
  intro W base args ds gs before hval0 hW hcnd _
  have hval : ∀ (j : Nat) t v, Try.f9.params[j]? = some t → args[j]? = some v → Value.okWide Try.prog W .any base t v := hval0
  have hW' := hW
  obtain ⟨p, q, hA0, hV, rfl, hfz, hnd⟩ := hW
  have hA : DataW.TrodAll enc Try.prog W 0 (fun _ => true) true Try.f9.params.toList args.toList ds p := hA0
  rw [Try.params9] at hA hval
  obtain ⟨v0, vs0, d0, ds0, p0, q0, hargs, rfl, rfl, h0, r0⟩ := trodAll_cons hA
  obtain ⟨v1, vs1, d1, ds1, p1, q1, rfl, rfl, rfl, h1, r1⟩ := trodAll_cons r0
  obtain ⟨rfl, rfl, rfl⟩ := trodAll_nil r1
  obtain rfl : args = #[v0, v1] := by cases args; simp_all
  obtain ⟨rfl, rfl⟩ := trodVars_none hV
  have k0 := h0
  have lt0 : ∀ x ∈ p0, x.block < W.heap.size := by obtain ⟨m, hm⟩ := k0; exact DataW.trod_lt m _ _ _ hm
  have k1 := h1
  have lt1 : ∀ x ∈ p1, x.block < W.heap.size := by obtain ⟨m, hm⟩ := k1; exact DataW.trod_lt m _ _ _ hm
  have R0 : ∀ W' : World, Below W.heap.size W W' → DataW.Trod enc Try.prog W' 0 (fun b => decide (b < W.heap.size)) true 2 v0 d0 p0 := fun W' bel => Below.trod laidOut (by kernel_rfl) (of_decide_eq_true (by kernel_rfl)) k0 bel lt0
  have R1 : ∀ W' : World, Below W.heap.size W W' → DataW.Trod enc Try.prog W' 0 (fun b => decide (b < W.heap.size)) true 9 v1 d1 p1 := fun W' bel => Below.trod laidOut (by kernel_rfl) (of_decide_eq_true (by kernel_rfl)) k1 bel lt1
  obtain ⟨a0, rfl, rfl, rfl, w0⟩ := open_int Try.underlying2 (hval 0 2 v0 rfl rfl) h0
  obtain ⟨a1, rfl, rfl, rfl, w1⟩ := open_string Try.underlying9 (hval 1 9 v1 rfl rfl) h1
  clear hA0 hval0
  refine (walk a0 a1 W w0 w1).mono fun e W' ⟨he, bel⟩ => ?_
  subst he
  exact ⟨_, rfl, _, _, _, [], _, [], hW', trodAll_mk1 (shut_bool Try.underlying4 _), (trodAll_cons_mk (R0 _ bel) (trodAll_cons_mk (R1 _ bel) trodAll_mk0)), rfl, bel.frame _, fun h => by cases h⟩

theorem over : Rows.fnExactReadFreeRow.holds Try.pinned (OpenSpec.ofChange Rows.fnExactReadFreeSpec) :=
  OpenClaim.holds_of_wide 9 Try.f9 rfl rfl rfl rfl rfl rfl rfl ⟨rfl, rfl, rfl, rfl, rfl⟩ rfl rfl rfl rfl rfl (by kernel_rfl) Try.func9 (by kernel_rfl)
    (of_decide_eq_true (by kernel_rfl)) (by unfold Func.isWrapper; first | (rw [if_pos (by decide +kernel)]; kernel_rfl) | (rw [if_neg (by decide +kernel)]; exact ⟨rfl, rfl⟩))
    (fun os started H enc _ => lifted os started H enc)

/-- The given statement. -/
theorem proved : Rows.FnExactReadFreeSaid := over
end Go.Proofs.Ytbeaopblopmpeab.fnExactReadFree
