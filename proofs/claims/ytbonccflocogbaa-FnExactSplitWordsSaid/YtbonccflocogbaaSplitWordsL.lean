/-
Proved: for every string, impl.SplitWords answers as its model, and its answer owns its memory (FnExactSplitWords returns true). No condition.
-/
import Derived.Test.YtbonccflocogbaaRows
import Derived.WalkKit
import Derived.ProofKit
import Derived.OpenShut
import Derived.ShutString
import Derived.ChangeOld
import Derived.Below
import Derived.Lib.SmallJoins
import Derived.Test.YtbonccflocogbaaSwd
namespace Go.Proofs.Ytbonccflocogbaa.fnExactSplitWords
open Go.ChangeShapes Go.WideShapes Go.ChangeAt Go.RowKit
open Go.ChangeMaps (open_string shut_string)
set_option linter.unusedVariables false

theorem own : ownKnob Try.prog.godebug = none := by kernel_rfl
theorem laidOut : laidOutB Try.prog = true := by kernel_rfl



/-! ### The walk: the Go text returns true and writes nothing that was there. -/
theorem walk (a0 : ByteArray) (w : World) (w0 : a0.size ≤ maxLen) :
    Calls Try.prog 3 #[.string a0] w fun e w' => e = .returned (.bool true) ∧ Below w.heap.size w w' := by
  by_cases htl0 : a0.size ≤ 1048576
  · have hl0 : decide ((1048576 : Int) < (a0.size : Int)) = false := by simp; omega
    have C0 : Hid (Below w.heap.size w w) := sl.hid (Below.refl _ _)
    have hr0 : (sp.wordsL a0).length ≤ 1073741824 := Nat.le_trans (Nat.le_trans (sp.words_len a0) (Nat.add_le_add_right htl0 1)) (by omega)
    have hr : (sp.wordsL a0).length ≤ 1099511627776 := Nat.le_trans hr0 (by omega)
    go_enter Try.func3, Try.ntmps3
    go_wp2_with fail
    refine (sw.specSW a0 w htl0).mono ?_
    rintro e W1 ⟨v1, rfl, o1, b1⟩
    have hz1 := b1.size
    have O1 := sl.hid o1
    clear o1
    have C2 := sl.hid (C0.out.trans (b1.mono (by omega)))
    clear b1 C0
    go_wp2_with fail
    refine (sw.implSW a0 W1 htl0).mono ?_
    rintro e W2 ⟨v3, rfl, o3, b3⟩
    have hz2 := b3.size
    have O3 := sl.hid o3
    clear o3
    have K4 := sl.hid (O1.out.chg (sl.Chg.ofBelow (lo := 0) b3) (.inr (.inr (Nat.le_refl _))))
    have C5 := sl.hid (C2.out.trans (b3.mono (by omega)))
    clear b3 O1 C2
    go_wp2_with fail
    refine (sg.eqSt (sp.wordsL a0) v3 v1 _ _ W2 O3.out.strs K4.out.strs hr).mono ?_
    rintro e W3 ⟨rfl, b6⟩
    have hz3 := b6.size
    have K7 := sl.hid (K4.out.chg (sl.Chg.ofBelow (lo := 0) b6) (.inr (.inr (Nat.le_refl _))))
    have K8 := sl.hid (O3.out.chg (sl.Chg.ofBelow (lo := 0) b6) (.inr (.inr (Nat.le_refl _))))
    have C9 := sl.hid (C5.out.trans (b6.mono (by omega)))
    clear b6 K4 O3 C5
    go_wp2_with fail
    refine (sg.markSt (sp.wordsL a0) v3 _ _ (1) W3 K8.out hr0 (by omega) (by omega)).mono ?_
    rintro e W4 ⟨rfl, o10, c10⟩
    have hz4 := c10.size
    have O10 := sl.hid o10
    clear o10 K8
    have K11 := sl.hid (K7.out.chg c10 (by omega))
    have C12 := sl.hid (C9.out.trans (c10.below (by omega) (by omega)))
    clear c10 K7 C9
    go_wp2_with fail
    refine (sg.heldSt (sp.wordsL a0).length v3 _ 1 W4 O10.out.strs hr0 (by omega) (by omega)).mono ?_
    rintro e W5 ⟨rfl, bh1⟩
    have hzW5 := bh1.size
    have HO10 := sl.hid (O10.out.below bh1)
    clear O10
    have O10 := HO10
    clear HO10
    have HK11 := sl.hid (K11.out.below bh1)
    clear K11
    have K11 := HK11
    clear HK11
    have HC12 := sl.hid (C12.out.trans (bh1.mono (by omega)))
    clear C12
    have C12 := HC12
    clear HC12
    clear bh1
    go_wp2_with fail
    refine (sw.implSW a0 W5 htl0).mono ?_
    rintro e W6 ⟨v13, rfl, o13, b13⟩
    have hz6 := b13.size
    have O13 := sl.hid o13
    clear o13
    have K14 := sl.hid (K11.out.chg (sl.Chg.ofBelow (lo := 0) b13) (.inr (.inr (Nat.le_refl _))))
    have K15 := sl.hid (O10.out.chg (sl.Chg.ofBelow (lo := 0) b13) (.inr (.inr (Nat.le_refl _))))
    have C16 := sl.hid (C12.out.trans (b13.mono (by omega)))
    clear b13 K11 O10 C12
    go_wp2_with fail
    refine (sg.eqSt (sp.wordsL a0) v13 v1 _ _ W6 O13.out.strs K14.out.strs hr).mono ?_
    rintro e W7 ⟨rfl, b17⟩
    have hz7 := b17.size
    have K18 := sl.hid (K14.out.chg (sl.Chg.ofBelow (lo := 0) b17) (.inr (.inr (Nat.le_refl _))))
    have K19 := sl.hid (K15.out.chg (sl.Chg.ofBelow (lo := 0) b17) (.inr (.inr (Nat.le_refl _))))
    have K20 := sl.hid (O13.out.chg (sl.Chg.ofBelow (lo := 0) b17) (.inr (.inr (Nat.le_refl _))))
    have C21 := sl.hid (C16.out.trans (b17.mono (by omega)))
    clear b17 K14 K15 O13 C16
    go_wp2_with fail
    refine (sg.heldSt (sp.wordsL a0).length v3 _ 1 W7 K19.out.strs hr0 (by omega) (by omega)).mono ?_
    rintro e W8 ⟨rfl, bh2⟩
    have hzW8 := bh2.size
    have HC21 := sl.hid (C21.out.trans (bh2.mono (by omega)))
    clear C21
    have C21 := HC21
    clear HC21
    clear bh2
    go_wp2
    go_ret
    exact ⟨rfl, C21.out⟩
  · have hl0 : decide ((1048576 : Int) < (a0.size : Int)) = true := by simp; omega
    go_enter Try.func3, Try.ntmps3
    go_wp2
    go_ret
    exact ⟨rfl, Below.refl _ _⟩

/-! ### The row's step. -/
set_option maxRecDepth 100000 in
theorem lifted (os : Os) (started : os.Started) (H : Type) (enc : TypeId × Value → H) :
    ReturnsInHanded {} Try.checked os 3 .any (Rows.fnExactSplitWordsSpec.pre6 enc Try.prog Try.f3 Rows.fnExactSplitWordsRow.domain false) (Rows.fnExactSplitWordsSpec.post enc Try.prog Try.f3 false true false false) := by
  refine returnsInHanded_of_change (C := Try.checked) own started (by kernel_rfl) Try.func3
    (ChangeSpec.witness6 (enc := enc) (C := Try.checked) false ⟨#[], #[.string ByteArray.empty], []⟩ 8 (by kernel_rfl) (by kernel_rfl) (by kernel_rfl) (by kernel_rfl)) ?_
  intro W base args ds gs before hval0 hW hcnd _
  have hval : ∀ (j : Nat) t v, Try.f3.params[j]? = some t → args[j]? = some v → Value.okWide Try.prog W .any base t v := hval0
  have hW' := hW
  obtain ⟨p, q, hA0, hV, rfl, hfz, hnd⟩ := hW
  have hA : DataW.TrodAll enc Try.prog W 0 (fun _ => true) true Try.f3.params.toList args.toList ds p := hA0
  rw [Try.params3] at hA hval
  obtain ⟨v0, vs0, d0, ds0, p0, q0, hargs, rfl, rfl, h0, r0⟩ := trodAll_cons hA
  obtain ⟨rfl, rfl, rfl⟩ := trodAll_nil r0
  obtain rfl : args = #[v0] := by cases args; simp_all
  obtain ⟨rfl, rfl⟩ := trodVars_none hV
  have k0 := h0
  have lt0 : ∀ x ∈ p0, x.block < W.heap.size := by obtain ⟨m, hm⟩ := k0; exact DataW.trod_lt m _ _ _ hm
  have R0 : ∀ W' : World, Below W.heap.size W W' → DataW.Trod enc Try.prog W' 0 (fun b => decide (b < W.heap.size)) true 9 v0 d0 p0 := fun W' bel => Below.trod laidOut (by kernel_rfl) (of_decide_eq_true (by kernel_rfl)) k0 bel lt0
  obtain ⟨a0, rfl, rfl, rfl, w0⟩ := open_string Try.underlying9 (hval 0 9 v0 rfl rfl) h0
  clear hA0 hval0
  refine (walk a0 W w0).mono fun e W' ⟨he, bel⟩ => ?_
  subst he
  exact ⟨_, rfl, _, _, _, [], _, [], hW', trodAll_mk1 (shut_bool Try.underlying4 _), (trodAll_cons_mk (R0 _ bel) trodAll_mk0), rfl, bel.frame _, fun h => by cases h⟩
end Go.Proofs.Ytbonccflocogbaa.fnExactSplitWords
