/-
Proved: for every list, impl.ValidPermutation answers as its model spec.ValidPermutation and changes nothing (FnExactValidPermutation returns true). No condition.
-/
import Derived.Test.YtlemecaianmdcabRows
import Derived.WalkKit
import Derived.ProofKit
import Derived.OpenShut
import Derived.ShutString
import Derived.ChangeOld
import Derived.Below
import Derived.Test.YtlemecaianmdcabPerm
namespace Go.Proofs.Ytlemecaianmdcab.fnExactValidPermutation
open Go.ChangeShapes Go.WideShapes Go.ChangeAt Go.RowKit
open Go.ChangeMaps (open_string shut_string)
set_option linter.unusedVariables false

theorem own : ownKnob Try.prog.godebug = none := by kernel_rfl
theorem laidOut : laidOutB Try.prog = true := by kernel_rfl

/-- A slice that came in: nil, or a row of cap cells whose numbers are zs. -/
def IsRow (k : IntKind) (w : World) (a : Option Addr) (len cap : Nat) (zs : List Int) : Prop :=
  (a = none ∧ len = 0 ∧ cap = 0 ∧ zs = []) ∨
  ∃ x, a = some x ∧ len ≤ cap ∧ cap ≤ maxLen ∧ zs.length = cap ∧ (∀ i, i < zs.length → w.cell? (x.add i) = some (.int k (zs.getD i 0))) ∧ ∀ n ∈ zs, (Lit.int k n).wf = true

theorem ints_of {w : World} {a : Option Addr} {len cap : Nat} {zs : List Int} (h : IsRow .i64 w a len cap zs) : ∃ xs, xs.length = len ∧ (∀ n ∈ xs, (Lit.int .i64 n).wf = true) ∧ sl.Ints w w.heap.size (.slice a len cap) xs := by
  rcases h with ⟨rfl, rfl, rfl, rfl⟩ | ⟨x, rfl, hl, hm, hz, hcell, hwz⟩
  · exact ⟨[], rfl, by simp, .inl ⟨rfl, _, _, rfl⟩⟩
  · have hlen : (zs.take len).length = len := by simp; omega
    refine ⟨zs.take len, hlen, fun n hn => hwz n (List.mem_of_mem_take hn), ?_⟩
    by_cases h0 : len = 0
    · subst h0; exact .inl ⟨by simp, _, _, rfl⟩
    · obtain ⟨b, off, spot⟩ := x
      have hc := hcell 0 (by omega)
      have hspot : spot = none := by simpa [Addr.add] using World.cell?_spot hc
      subst hspot
      refine .inr ⟨by omega, b, off, cap, by rw [hlen], ?_, fun j hj => ?_⟩
      · have := World.block_lt_of_cell? w _ hc
        simpa [Addr.add] using this
      · have h1 := hcell j (by omega)
        rw [Addr.add_lit] at h1
        rw [h1]
        have h2 : j < len := by omega
        simp [List.getD, h2]

theorem specValid (xs : List Int) (v : Value) (B : Nat) (w : World) (ha : sl.Ints w B v xs) (hB : B ≤ w.heap.size) (hn : xs.length ≤ 1099511627776) :
    Calls Try.prog 15 #[v] w fun e w' => e = .returned (.bool (pm.permB xs)) ∧ Below w.heap.size w w' := by
  have HA := sl.hid ha
  clear ha
  go_enter Try.func15, Try.ntmps15
  go_wp2_with fail
  refine (pm.specOk xs v B w HA.out hB hn).mono ?_
  rintro e w1 ⟨rfl, hb⟩
  go_wp2
  go_ret
  exact ⟨rfl, hb⟩

/-! ### The walk: the Go text returns true and writes nothing that was there. -/
theorem walk (a0 : Option Addr) (len0 cap0 : Nat) (z0 : List Int) (w : World) (w0 : IsRow .i64 w a0 len0 cap0 z0) :
    Calls Try.prog 3 #[.slice a0 len0 cap0] w fun e w' => e = .returned (.bool true) ∧ Below w.heap.size w w' := by
  obtain ⟨xs, hlen, hwf, ha⟩ := ints_of w0
  by_cases hbig : len0 ≤ 1048576
  · have hl : decide ((1048576 : Int) < (len0 : Int)) = false := by simp; omega
    have hn : xs.length ≤ 1099511627776 := by omega
    have HA := sl.hid ha
    have HL := sl.hid hlen
    have HW := sl.hid hwf
    clear ha hlen hwf w0
    go_enter Try.func3, Try.ntmps3
    go_wp2_with fail
    refine (sl.toI xs _ _ w HA.out (Nat.le_refl _) hn).mono ?_
    rintro e w1 ⟨t1, rfl, o1, b1⟩
    have O1 := sl.hid o1
    have C1 := sl.hid b1
    clear o1 b1
    go_wp2_with fail
    refine (specValid xs t1 _ w1 O1.out.ints (Nat.le_refl _) hn).mono ?_
    rintro e w2 ⟨rfl, b2⟩
    have HA2 := sl.hid ((HA.out.chg (sl.Chg.ofBelow C1.out) (.inl (Nat.le_refl _))).chg (sl.Chg.ofBelow b2) (.inl C1.out.size))
    have C2 := sl.hid (C1.out.trans (b2.mono C1.out.size))
    clear b2
    go_wp2_with fail
    refine (sl.toI xs _ _ w2 HA2.out C2.out.size hn).mono ?_
    rintro e w3 ⟨t3, rfl, o3, b3⟩
    have O3 := sl.hid o3
    have C3 := sl.hid (C2.out.trans (b3.mono C2.out.size))
    have HA3 := sl.hid (HA2.out.chg (sl.Chg.ofBelow b3) (.inl C2.out.size))
    clear o3 b3
    go_wp2_with fail
    refine (pm.implOk xs t3 _ w3 O3.out.ints (Nat.le_refl _) hn).mono ?_
    rintro e w4 ⟨rfl, b4⟩
    have O4 := sl.hid (O3.out.chg (sl.Chg.ofBelow b4) (.inl (Nat.le_refl _)))
    have C4 := sl.hid (C3.out.trans (b4.mono C3.out.size))
    have HA4 := sl.hid (HA3.out.chg (sl.Chg.ofBelow b4) (.inl C3.out.size))
    clear b4
    go_wp2_with fail
    refine (sl.toI xs _ _ w4 HA4.out C4.out.size hn).mono ?_
    rintro e w5 ⟨t5, rfl, o5, b5⟩
    have O5 := sl.hid o5
    have C5 := sl.hid (C4.out.trans (b5.mono C4.out.size))
    have O45 := sl.hid (O4.out.chg (sl.Chg.ofBelow b5) (.inl O4.out.2.2))
    clear o5 b5
    go_wp2_with fail
    refine (sl.eqI xs xs t3 t5 _ _ w5 O45.out.ints O5.out.ints hn hn).mono ?_
    rintro e w6 ⟨rfl, b6⟩
    have C6 := sl.hid (C5.out.trans (b6.mono C5.out.size))
    have hs := sl.sameB_self xs
    clear b6
    go_wp2
    go_ret
    exact ⟨rfl, C6.out⟩
  · have hl : decide ((1048576 : Int) < (len0 : Int)) = true := by simp; omega
    go_enter Try.func3, Try.ntmps3
    go_wp2
    go_ret
    exact ⟨rfl, Below.refl _ _⟩

/-! ### The row's step. -/
set_option maxRecDepth 100000 in
theorem lifted (os : Os) (started : os.Started) (H : Type) (enc : TypeId × Value → H) :
    ReturnsInHanded {} Try.checked os 3 .any (Rows.fnExactValidPermutationSpec.pre6 enc Try.prog Try.f3 Rows.fnExactValidPermutationRow.domain false) (Rows.fnExactValidPermutationSpec.post enc Try.prog Try.f3 false true false false) := by
  refine returnsInHanded_of_change (C := Try.checked) own started (by kernel_rfl) Try.func3
    (ChangeSpec.witness6 (enc := enc) (C := Try.checked) false ⟨#[], #[.slice none 0 0], []⟩ 8 (by kernel_rfl) (by kernel_rfl) (by kernel_rfl) (by kernel_rfl)) ?_
  intro W base args ds gs before hval0 hW hcnd _
  have hval : ∀ (j : Nat) t v, Try.f3.params[j]? = some t → args[j]? = some v → Value.okWide Try.prog W .any base t v := hval0
  have hW' := hW
  obtain ⟨p, q, hA0, hV, rfl, hfz, hnd⟩ := hW
  have hA : DataW.TrodAll enc Try.prog W 0 (fun _ => true) true Try.f3.params.toList args.toList ds p := hA0
  rw [Try.params3] at hA hval
  obtain ⟨v0, vs0, d0, ds0, p0, q0, hargs, rfl, rfl, h0, r0⟩ := trodAll_cons hA
  obtain ⟨rfl, rfl, rfl⟩ := trodAll_nil r0
  obtain rfl : args = #[v0] := by cases args; simp_all
  obtain ⟨rfl, rfl⟩ := trodVars_none hV
  obtain ⟨a0, len0, cap0, rfl⟩ := okWide_slice Try.underlying22 (hval 0 22 v0 rfl rfl)
  have k0 := h0
  have lt0 : ∀ x ∈ p0, x.block < W.heap.size := by obtain ⟨m, hm⟩ := k0; exact DataW.trod_lt m _ _ _ hm
  obtain ⟨z0, w0⟩ : ∃ zs, IsRow .i64 W a0 len0 cap0 zs := by
    obtain ⟨fuel, hf⟩ := h0
    rcases open_ints Try.underlying22 Try.underlying2 (by kernel_rfl) hf with ⟨hcs, _⟩ | ⟨x, l, c, zs, hcs, _, hl, hm, hz, _, hcell, hwz⟩
    · simp [Value.cells] at hcs
      obtain ⟨rfl, rfl, rfl⟩ := hcs
      exact ⟨[], .inl ⟨rfl, rfl, rfl, rfl⟩⟩
    · simp [Value.cells] at hcs
      obtain ⟨rfl, rfl, rfl⟩ := hcs
      exact ⟨zs, .inr ⟨_, rfl, hl, hm, by simpa using hz, hcell, hwz⟩⟩
  clear hA0 hval0
  refine (walk a0 len0 cap0 z0 W w0).mono fun e W' ⟨he, bel⟩ => ?_
  subst he
  exact ⟨_, rfl, _, _, _, [], _, [], hW', trodAll_mk1 (shut_bool Try.underlying4 _), (trodAll_cons_mk (Below.trod laidOut (by kernel_rfl) (of_decide_eq_true (by kernel_rfl)) k0 bel lt0) trodAll_mk0), rfl, bel.frame _, fun h => by cases h⟩

theorem over : Rows.fnExactValidPermutationRow.holds Try.pinned (OpenSpec.ofChange Rows.fnExactValidPermutationSpec) :=
  OpenClaim.holds_of_wide 3 Try.f3 rfl rfl rfl rfl rfl rfl rfl ⟨rfl, rfl, rfl, rfl, rfl⟩ rfl rfl rfl rfl rfl (by kernel_rfl) Try.func3 (by kernel_rfl)
    (of_decide_eq_true (by kernel_rfl)) (by unfold Func.isWrapper; first | (rw [if_pos (by decide +kernel)]; kernel_rfl) | (rw [if_neg (by decide +kernel)]; exact ⟨rfl, rfl⟩))
    (fun os started H enc _ => lifted os started H enc)

/-- The given statement. -/
theorem proved : Rows.FnExactValidPermutationSaid := over
end Go.Proofs.Ytlemecaianmdcab.fnExactValidPermutation
