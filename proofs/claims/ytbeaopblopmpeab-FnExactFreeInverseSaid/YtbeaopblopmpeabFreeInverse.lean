/-
Proved: for every number and every list of integers, impl.FreeInverse answers as its model, changes no argument, and its answer owns its memory (FnExactFreeInverse returns true). No condition.
-/
import Derived.Test.YtbeaopblopmpeabRows
import Derived.WalkKit
import Derived.ProofKit
import Derived.OpenShut
import Derived.ShutString
import Derived.ChangeOld
import Derived.Below
import Derived.Test.YtbeaopblopmpeabFr5
namespace Go.Proofs.Ytbeaopblopmpeab.fnExactFreeInverse
open Go.ChangeShapes Go.WideShapes Go.ChangeAt Go.RowKit
open Go.ChangeMaps (open_string shut_string)
set_option linter.unusedVariables false

theorem own : ownKnob Try.prog.godebug = none := by kernel_rfl
theorem laidOut : laidOutB Try.prog = true := by kernel_rfl

/-- A slice that came in: nil, or a row of cap cells whose numbers are zs. -/
def IsRow (k : IntKind) (w : World) (a : Option Addr) (len cap : Nat) (zs : List Int) : Prop :=
  (a = none ∧ len = 0 ∧ cap = 0 ∧ zs = []) ∨
  ∃ x, a = some x ∧ len ≤ cap ∧ cap ≤ maxLen ∧ zs.length = cap ∧ (∀ i, i < zs.length → w.cell? (x.add i) = some (.int k (zs.getD i 0))) ∧ ∀ n ∈ zs, (Lit.int k n).wf = true

theorem ints_of {w : World} {a : Option Addr} {len cap : Nat} {zs : List Int} (h : IsRow .i64 w a len cap zs) : ∃ xs, xs.length = len ∧ (∀ n ∈ xs, (Lit.int .i64 n).wf = true) ∧ sl.Ints w w.heap.size (.slice a len cap) xs := by
  rcases h with ⟨rfl, rfl, rfl, rfl⟩ | ⟨x, rfl, hl, hm, hz, hcell, hwz⟩
  · exact ⟨[], rfl, by simp, .inl ⟨rfl, _, _, rfl⟩⟩
  · have hlen : (zs.take len).length = len := by simp; omega
    refine ⟨zs.take len, hlen, fun n hn => hwz n (List.mem_of_mem_take hn), ?_⟩
    by_cases h0 : len = 0
    · subst h0; exact .inl ⟨by simp, _, _, rfl⟩
    · obtain ⟨b, off, spot⟩ := x
      have hc := hcell 0 (by omega)
      have hspot : spot = none := by simpa [Addr.add] using World.cell?_spot hc
      subst hspot
      refine .inr ⟨by omega, b, off, cap, by rw [hlen], ?_, fun j hj => ?_⟩
      · have := World.block_lt_of_cell? w _ hc
        simpa [Addr.add] using this
      · have h1 := hcell j (by omega)
        rw [Addr.add_lit] at h1
        rw [h1]
        have h2 : j < len := by omega
        simp [List.getD, h2]

/-! ### The walk: the Go text returns true and writes nothing that was there. -/
theorem walk (a0 : Int) (a1 : Option Addr) (len1 cap1 : Nat) (z1 : List Int) (w : World) (w0 : (Lit.int .i64 a0).wf = true) (w1 : IsRow .i64 w a1 len1 cap1 z1) :
    Calls Try.prog 5 #[.int .i64 a0, .slice a1 len1 cap1] w fun e w' => e = .returned (.bool true) ∧ Below w.heap.size w w' := by
  obtain ⟨xs1, hlen1, hwf1, ha1⟩ := ints_of w1
  by_cases hbig1 : len1 ≤ 1048576
  · have hl1 : decide ((1048576 : Int) < (len1 : Int)) = false := by simp; omega
    have hn1 : xs1.length ≤ 1099511627776 := by omega
    have hm1 : xs1.length ≤ 1048576 := by omega
    have HA1_0 := sl.hid ha1
    have HW1 := sl.hid hwf1
    have HL1 := sl.hid hlen1
    have C0 : Hid (Below w.heap.size w w) := sl.hid (Below.refl _ _)
    clear ha1 hlen1 hwf1 w1
    have hr : (fr.frW a0 xs1 (fr.invR xs1)).length ≤ 1099511627776 := Nat.le_trans (fr.inv_len20 a0 xs1) (by omega)
    go_enter Try.func5, Try.ntmps5
    go_wp2_with fail
    refine (sl.toI xs1 _ _ w HA1_0.out (by omega) hn1).mono ?_
    rintro e W1 ⟨v1, rfl, o1, b1⟩
    have hz1 := b1.size
    have O1 := sl.hid o1
    clear o1
    have K2 := sl.hid (HA1_0.out.chg (sl.Chg.ofBelow (lo := 0) b1) (.inr (Nat.zero_le _)))
    have C3 := sl.hid (C0.out.trans (b1.mono (by omega)))
    clear b1 HA1_0 C0
    go_wp2_with fail
    refine (fr.specFreeInverse a0 xs1 v1 _ W1 O1.out.ints (by omega) hn1 (fn.capok_own O1.out)).mono ?_
    rintro e W2 ⟨v4, rfl, o4, b4⟩
    have hz2 := b4.size
    have O4 := sl.hid o4
    clear o4
    have K5 := sl.hid (K2.out.chg (sl.Chg.ofBelow (lo := 0) b4) (.inr (Nat.zero_le _)))
    have K6 := sl.hid (O1.out.chg (sl.Chg.ofBelow (lo := 0) b4) (.inr (.inr (Nat.le_refl _))))
    have C7 := sl.hid (C3.out.trans (b4.mono (by omega)))
    clear b4 K2 O1 C3
    go_wp2_with fail
    refine (sl.toI xs1 _ _ W2 K5.out (by omega) hn1).mono ?_
    rintro e W3 ⟨v8, rfl, o8, b8⟩
    have hz3 := b8.size
    have O8 := sl.hid o8
    clear o8
    have K9 := sl.hid (K5.out.chg (sl.Chg.ofBelow (lo := 0) b8) (.inr (Nat.zero_le _)))
    have K10 := sl.hid (O4.out.chg (sl.Chg.ofBelow (lo := 0) b8) (.inr (.inr (Nat.le_refl _))))
    have C11 := sl.hid (C7.out.trans (b8.mono (by omega)))
    clear b8 K5 O4 C7
    go_wp2_with fail
    refine (fr.implFreeInverse a0 xs1 v8 _ W3 O8.out.ints (by omega) hn1 (fn.capok_own O8.out)).mono ?_
    rintro e W4 ⟨v12, rfl, o12, b12⟩
    have hz4 := b12.size
    have O12 := sl.hid o12
    clear o12
    have K13 := sl.hid (K9.out.chg (sl.Chg.ofBelow (lo := 0) b12) (.inr (Nat.zero_le _)))
    have K14 := sl.hid (K10.out.chg (sl.Chg.ofBelow (lo := 0) b12) (.inr (.inr (Nat.le_refl _))))
    have K15 := sl.hid (O8.out.chg (sl.Chg.ofBelow (lo := 0) b12) (.inr (.inr (Nat.le_refl _))))
    have C16 := sl.hid (C11.out.trans (b12.mono (by omega)))
    clear b12 K9 K10 O8 C11
    go_wp2_with fail
    refine (sl.eqS (fr.frW a0 xs1 (fr.invR xs1)) v12 v4 _ _ W4 O12.out.ints K14.out.ints hr).mono ?_
    rintro e W5 ⟨rfl, b17⟩
    have hz5 := b17.size
    have K18 := sl.hid (K13.out.chg (sl.Chg.ofBelow (lo := 0) b17) (.inr (Nat.zero_le _)))
    have K19 := sl.hid (K14.out.chg (sl.Chg.ofBelow (lo := 0) b17) (.inr (.inr (Nat.le_refl _))))
    have K20 := sl.hid (K15.out.chg (sl.Chg.ofBelow (lo := 0) b17) (.inr (.inr (Nat.le_refl _))))
    have K21 := sl.hid (O12.out.chg (sl.Chg.ofBelow (lo := 0) b17) (.inr (.inr (Nat.le_refl _))))
    have C22 := sl.hid (C16.out.trans (b17.mono (by omega)))
    clear b17 K13 K14 K15 O12 C16
    go_wp2_with fail
    refine (sl.toI xs1 _ _ W5 K18.out (by omega) hn1).mono ?_
    rintro e W6 ⟨v23, rfl, o23, b23⟩
    have hz6 := b23.size
    have O23 := sl.hid o23
    clear o23
    have K24 := sl.hid (K18.out.chg (sl.Chg.ofBelow (lo := 0) b23) (.inr (Nat.zero_le _)))
    have K25 := sl.hid (K19.out.chg (sl.Chg.ofBelow (lo := 0) b23) (.inr (.inr (Nat.le_refl _))))
    have K26 := sl.hid (K20.out.chg (sl.Chg.ofBelow (lo := 0) b23) (.inr (.inr (Nat.le_refl _))))
    have K27 := sl.hid (K21.out.chg (sl.Chg.ofBelow (lo := 0) b23) (.inr (.inr (Nat.le_refl _))))
    have C28 := sl.hid (C22.out.trans (b23.mono (by omega)))
    clear b23 K18 K19 K20 K21 C22
    go_wp2_with fail
    refine (sl.eqS xs1 v8 v23 _ _ W6 K26.out.ints O23.out.ints hn1).mono ?_
    rintro e W7 ⟨rfl, b29⟩
    have hz7 := b29.size
    have K30 := sl.hid (K24.out.chg (sl.Chg.ofBelow (lo := 0) b29) (.inr (Nat.zero_le _)))
    have K31 := sl.hid (K25.out.chg (sl.Chg.ofBelow (lo := 0) b29) (.inr (.inr (Nat.le_refl _))))
    have K32 := sl.hid (K26.out.chg (sl.Chg.ofBelow (lo := 0) b29) (.inr (.inr (Nat.le_refl _))))
    have K33 := sl.hid (K27.out.chg (sl.Chg.ofBelow (lo := 0) b29) (.inr (.inr (Nat.le_refl _))))
    have K34 := sl.hid (O23.out.chg (sl.Chg.ofBelow (lo := 0) b29) (.inr (.inr (Nat.le_refl _))))
    have C35 := sl.hid (C28.out.trans (b29.mono (by omega)))
    clear b29 K24 K25 K26 K27 O23 C28
    go_wp2_with fail
    refine (sl.markI xs1 v8 _ _ (1) W7 K32.out hn1 (by omega) (by omega)).mono ?_
    rintro e W8 ⟨rfl, o36, c36⟩
    have hz8 := c36.size
    have O36 := sl.hid o36
    clear o36 K32
    have K37 := sl.hid (K30.out.chg c36 (by omega))
    have K38 := sl.hid (K31.out.chg c36 (by omega))
    have K39 := sl.hid (K33.out.chg c36 (by omega))
    have C40 := sl.hid (C35.out.trans (c36.below (by omega) (by omega)))
    clear c36 K30 K31 K33 C35
    go_wp2_with fail
    refine (sl.eqS (fr.frW a0 xs1 (fr.invR xs1)) v12 v4 _ _ W8 K39.out.ints K38.out.ints hr).mono ?_
    rintro e W9 ⟨rfl, b41⟩
    have hz9 := b41.size
    have K42 := sl.hid (K37.out.chg (sl.Chg.ofBelow (lo := 0) b41) (.inr (Nat.zero_le _)))
    have K43 := sl.hid (K38.out.chg (sl.Chg.ofBelow (lo := 0) b41) (.inr (.inr (Nat.le_refl _))))
    have K44 := sl.hid (K39.out.chg (sl.Chg.ofBelow (lo := 0) b41) (.inr (.inr (Nat.le_refl _))))
    have C45 := sl.hid (C40.out.trans (b41.mono (by omega)))
    clear b41 K37 K38 K39 C40
    go_wp2_with fail
    refine (sl.markI (fr.frW a0 xs1 (fr.invR xs1)) v12 _ _ (1) W9 K44.out hr (by omega) (by omega)).mono ?_
    rintro e W10 ⟨rfl, o46, c46⟩
    have hz10 := c46.size
    have O46 := sl.hid o46
    clear o46 K44
    have K47 := sl.hid (K42.out.chg c46 (by omega))
    have K48 := sl.hid (K43.out.chg c46 (by omega))
    have C49 := sl.hid (C45.out.trans (c46.below (by omega) (by omega)))
    clear c46 K42 K43 C45
    go_wp2_with fail
    refine (sl.heldI (fr.frW a0 xs1 (fr.invR xs1)).length v12 _ 1 W10 O46.out.ints hr (by omega) (by omega)).mono ?_
    rintro e W11 ⟨rfl, rfl⟩
    go_wp2_with fail
    refine (sl.toI xs1 _ _ W10 K47.out (by omega) hn1).mono ?_
    rintro e W12 ⟨v50, rfl, o50, b50⟩
    have hz12 := b50.size
    have O50 := sl.hid o50
    clear o50
    have K51 := sl.hid (K47.out.chg (sl.Chg.ofBelow (lo := 0) b50) (.inr (Nat.zero_le _)))
    have K52 := sl.hid (K48.out.chg (sl.Chg.ofBelow (lo := 0) b50) (.inr (.inr (Nat.le_refl _))))
    have K53 := sl.hid (O46.out.chg (sl.Chg.ofBelow (lo := 0) b50) (.inr (.inr (Nat.le_refl _))))
    have C54 := sl.hid (C49.out.trans (b50.mono (by omega)))
    clear b50 K47 K48 O46 C49
    go_wp2_with fail
    refine (fr.implFreeInverse a0 xs1 v50 _ W12 O50.out.ints (by omega) hn1 (fn.capok_own O50.out)).mono ?_
    rintro e W13 ⟨v55, rfl, o55, b55⟩
    have hz13 := b55.size
    have O55 := sl.hid o55
    clear o55
    have K56 := sl.hid (K51.out.chg (sl.Chg.ofBelow (lo := 0) b55) (.inr (Nat.zero_le _)))
    have K57 := sl.hid (K52.out.chg (sl.Chg.ofBelow (lo := 0) b55) (.inr (.inr (Nat.le_refl _))))
    have K58 := sl.hid (K53.out.chg (sl.Chg.ofBelow (lo := 0) b55) (.inr (.inr (Nat.le_refl _))))
    have K59 := sl.hid (O50.out.chg (sl.Chg.ofBelow (lo := 0) b55) (.inr (.inr (Nat.le_refl _))))
    have C60 := sl.hid (C54.out.trans (b55.mono (by omega)))
    clear b55 K51 K52 K53 O50 C54
    go_wp2_with fail
    refine (sl.eqS (fr.frW a0 xs1 (fr.invR xs1)) v55 v4 _ _ W13 O55.out.ints K57.out.ints hr).mono ?_
    rintro e W14 ⟨rfl, b61⟩
    have hz14 := b61.size
    have K62 := sl.hid (K56.out.chg (sl.Chg.ofBelow (lo := 0) b61) (.inr (Nat.zero_le _)))
    have K63 := sl.hid (K57.out.chg (sl.Chg.ofBelow (lo := 0) b61) (.inr (.inr (Nat.le_refl _))))
    have K64 := sl.hid (K58.out.chg (sl.Chg.ofBelow (lo := 0) b61) (.inr (.inr (Nat.le_refl _))))
    have K65 := sl.hid (O55.out.chg (sl.Chg.ofBelow (lo := 0) b61) (.inr (.inr (Nat.le_refl _))))
    have C66 := sl.hid (C60.out.trans (b61.mono (by omega)))
    clear b61 K56 K57 K58 O55 C60
    go_wp2_with fail
    refine (sl.heldI (fr.frW a0 xs1 (fr.invR xs1)).length v12 _ 1 W14 K64.out.ints hr (by omega) (by omega)).mono ?_
    rintro e W15 ⟨rfl, rfl⟩
    go_wp2
    go_ret
    exact ⟨rfl, C66.out⟩
  · have hl1 : decide ((1048576 : Int) < (len1 : Int)) = true := by simp; omega
    go_enter Try.func5, Try.ntmps5
    go_wp2
    go_ret
    exact ⟨rfl, Below.refl _ _⟩

/-! ### The row's step. -/
set_option maxRecDepth 100000 in
theorem lifted (os : Os) (started : os.Started) (H : Type) (enc : TypeId × Value → H) :
    ReturnsInHanded {} Try.checked os 5 .any (Rows.fnExactFreeInverseSpec.pre6 enc Try.prog Try.f5 Rows.fnExactFreeInverseRow.domain false) (Rows.fnExactFreeInverseSpec.post enc Try.prog Try.f5 false true false false) := by
  refine returnsInHanded_of_change (C := Try.checked) own started (by kernel_rfl) Try.func5
    (ChangeSpec.witness6 (enc := enc) (C := Try.checked) false ⟨#[], #[.int .i64 0, .slice none 0 0], []⟩ 8 (by kernel_rfl) (by kernel_rfl) (by kernel_rfl) (by kernel_rfl)) ?_
  intro W base args ds gs before hval0 hW hcnd _
  have hval : ∀ (j : Nat) t v, Try.f5.params[j]? = some t → args[j]? = some v → Value.okWide Try.prog W .any base t v := hval0
  have hW' := hW
  obtain ⟨p, q, hA0, hV, rfl, hfz, hnd⟩ := hW
  have hA : DataW.TrodAll enc Try.prog W 0 (fun _ => true) true Try.f5.params.toList args.toList ds p := hA0
  rw [Try.params5] at hA hval
  obtain ⟨v0, vs0, d0, ds0, p0, q0, hargs, rfl, rfl, h0, r0⟩ := trodAll_cons hA
  obtain ⟨v1, vs1, d1, ds1, p1, q1, rfl, rfl, rfl, h1, r1⟩ := trodAll_cons r0
  obtain ⟨rfl, rfl, rfl⟩ := trodAll_nil r1
  obtain rfl : args = #[v0, v1] := by cases args; simp_all
  obtain ⟨rfl, rfl⟩ := trodVars_none hV
  obtain ⟨a0, rfl, rfl, rfl, w0⟩ := open_int Try.underlying2 (hval 0 2 v0 rfl rfl) h0
  obtain ⟨a1, len1, cap1, rfl⟩ := okWide_slice Try.underlying22 (hval 1 22 v1 rfl rfl)
  have k1 := h1
  have lt1 : ∀ x ∈ p1, x.block < W.heap.size := by obtain ⟨m, hm⟩ := k1; exact DataW.trod_lt m _ _ _ hm
  obtain ⟨z1, w1⟩ : ∃ zs, IsRow .i64 W a1 len1 cap1 zs := by
    obtain ⟨fuel, hf⟩ := h1
    rcases open_ints Try.underlying22 Try.underlying2 (by kernel_rfl) hf with ⟨hcs, _⟩ | ⟨x, l, c, zs, hcs, _, hl, hm, hz, _, hcell, hwz⟩
    · simp [Value.cells] at hcs
      obtain ⟨rfl, rfl, rfl⟩ := hcs
      exact ⟨[], .inl ⟨rfl, rfl, rfl, rfl⟩⟩
    · simp [Value.cells] at hcs
      obtain ⟨rfl, rfl, rfl⟩ := hcs
      exact ⟨zs, .inr ⟨_, rfl, hl, hm, by simpa using hz, hcell, hwz⟩⟩
  clear hA0 hval0
  refine (walk a0 a1 len1 cap1 z1 W w0 w1).mono fun e W' ⟨he, bel⟩ => ?_
  subst he
  exact ⟨_, rfl, _, _, _, [], _, [], hW', trodAll_mk1 (shut_bool Try.underlying4 _), (trodAll_cons_mk (shut_int Try.underlying2 w0) (trodAll_cons_mk (Below.trod laidOut (by kernel_rfl) (of_decide_eq_true (by kernel_rfl)) k1 bel lt1) trodAll_mk0)), rfl, bel.frame _, fun h => by cases h⟩

theorem over : Rows.fnExactFreeInverseRow.holds Try.pinned (OpenSpec.ofChange Rows.fnExactFreeInverseSpec) :=
  OpenClaim.holds_of_wide 5 Try.f5 rfl rfl rfl rfl rfl rfl rfl ⟨rfl, rfl, rfl, rfl, rfl⟩ rfl rfl rfl rfl rfl (by kernel_rfl) Try.func5 (by kernel_rfl)
    (of_decide_eq_true (by kernel_rfl)) (by unfold Func.isWrapper; first | (rw [if_pos (by decide +kernel)]; kernel_rfl) | (rw [if_neg (by decide +kernel)]; exact ⟨rfl, rfl⟩))
    (fun os started H enc _ => lifted os started H enc)

/-- The given statement. -/
theorem proved : Rows.FnExactFreeInverseSaid := over
end Go.Proofs.Ytbeaopblopmpeab.fnExactFreeInverse
