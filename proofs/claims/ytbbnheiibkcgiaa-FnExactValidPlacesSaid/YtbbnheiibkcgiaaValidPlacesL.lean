/-
Proved: for every list, impl.ValidPlaces answers as its model and changes no argument (FnExactValidPlaces returns true). No condition.
-/
import Derived.Test.YtbbnheiibkcgiaaRows
import Derived.WalkKit
import Derived.ProofKit
import Derived.OpenShut
import Derived.ShutString
import Derived.ChangeOld
import Derived.Below
import Derived.Lib.SmallJoins
import Derived.Test.YtbbnheiibkcgiaaPl0
namespace Go.Proofs.Ytbbnheiibkcgiaa.fnExactValidPlaces
open Go.ChangeShapes Go.WideShapes Go.ChangeAt Go.RowKit
open Go.ChangeMaps (open_string shut_string)
set_option linter.unusedVariables false

theorem own : ownKnob Try.prog.godebug = none := by kernel_rfl
theorem laidOut : laidOutB Try.prog = true := by kernel_rfl

/-- A slice that came in. -/
def IsRow (k : IntKind) (w : World) (a : Option Addr) (len cap : Nat) (zs : List Int) : Prop :=
  (a = none ∧ len = 0 ∧ cap = 0 ∧ zs = []) ∨
  ∃ x, a = some x ∧ len ≤ cap ∧ cap ≤ maxLen ∧ zs.length = cap ∧ (∀ i, i < zs.length → w.cell? (x.add i) = some (.int k (zs.getD i 0))) ∧ ∀ n ∈ zs, (Lit.int k n).wf = true

theorem ints_of {w : World} {a : Option Addr} {len cap : Nat} {zs : List Int} (h : IsRow .i64 w a len cap zs) : ∃ xs, xs.length = len ∧ (∀ n ∈ xs, (Lit.int .i64 n).wf = true) ∧ sl.Ints w w.heap.size (.slice a len cap) xs := by
  rcases h with ⟨rfl, rfl, rfl, rfl⟩ | ⟨x, rfl, hl, hm, hz, hcell, hwz⟩
  · exact ⟨[], rfl, by simp, .inl ⟨rfl, _, _, rfl⟩⟩
  · have hlen : (zs.take len).length = len := by simp; omega
    refine ⟨zs.take len, hlen, fun n hn => hwz n (List.mem_of_mem_take hn), ?_⟩
    by_cases h0 : len = 0
    · subst h0; exact .inl ⟨by simp, _, _, rfl⟩
    · obtain ⟨b, off, spot⟩ := x
      have hc := hcell 0 (by omega)
      have hspot : spot = none := by simpa [Addr.add] using World.cell?_spot hc
      subst hspot
      refine .inr ⟨by omega, b, off, cap, by rw [hlen], ?_, fun j hj => ?_⟩
      · have := World.block_lt_of_cell? w _ hc
        simpa [Addr.add] using this
      · have h1 := hcell j (by omega)
        rw [Addr.add_lit] at h1
        rw [h1]
        have h2 : j < len := by omega
        simp [List.getD, h2]

/-! ### The walk: the Go text returns true and writes nothing that was there. -/
theorem walk (a0 : Option Addr) (len0 cap0 : Nat) (z0 : List Int) (w : World) (w0 : IsRow .i64 w a0 len0 cap0 z0) :
    Calls Try.prog 5 #[.slice a0 len0 cap0] w fun e w' => e = .returned (.bool true) ∧ Below w.heap.size w w' := by
  obtain ⟨xs0, hlen0, hwf0, ha0⟩ := ints_of w0
  by_cases hbig0 : len0 ≤ 1048576
  · have hl0 : decide ((1048576 : Int) < (len0 : Int)) = false := by simp; omega
    have hn0 : xs0.length ≤ 1099511627776 := by omega
    have hm0 : xs0.length ≤ 1048576 := by omega
    have HA0_0 := sl.hid ha0
    have HW0 := sl.hid hwf0
    have HL0 := sl.hid hlen0
    have C0 : Hid (Below w.heap.size w w) := sl.hid (Below.refl _ _)
    clear ha0 hlen0 hwf0 w0
    go_enter Try.func5, Try.ntmps5
    go_wp2_with fail
    refine (sl.toI xs0 _ _ w HA0_0.out (by omega) hn0).mono ?_
    rintro e W1 ⟨v1, rfl, o1, b1⟩
    have hz1 := b1.size
    have O1 := sl.hid o1
    clear o1
    have K2 := sl.hid (HA0_0.out.chg (sl.Chg.ofBelow (lo := 0) b1) (.inr (Nat.zero_le _)))
    have C3 := sl.hid (C0.out.trans (b1.mono (by omega)))
    clear b1 HA0_0 C0
    go_wp2_with fail
    refine (mo.specVPl xs0 v1 _ W1 O1.out.ints (by omega) hn0).mono ?_
    rintro e W2 ⟨rfl, b4⟩
    have hz2 := b4.size
    have K5 := sl.hid (K2.out.chg (sl.Chg.ofBelow (lo := 0) b4) (.inr (Nat.zero_le _)))
    have K6 := sl.hid (O1.out.chg (sl.Chg.ofBelow (lo := 0) b4) (.inr (.inr (Nat.le_refl _))))
    have C7 := sl.hid (C3.out.trans (b4.mono (by omega)))
    clear b4 K2 O1 C3
    go_wp2_with fail
    refine (sl.toI xs0 _ _ W2 K5.out (by omega) hn0).mono ?_
    rintro e W3 ⟨v8, rfl, o8, b8⟩
    have hz3 := b8.size
    have O8 := sl.hid o8
    clear o8
    have K9 := sl.hid (K5.out.chg (sl.Chg.ofBelow (lo := 0) b8) (.inr (Nat.zero_le _)))
    have C10 := sl.hid (C7.out.trans (b8.mono (by omega)))
    clear b8 K5 C7
    go_wp2_with fail
    refine (mo.implVPl xs0 v8 _ W3 O8.out.ints (by omega) hn0).mono ?_
    rintro e W4 ⟨rfl, b11⟩
    have hz4 := b11.size
    have K12 := sl.hid (K9.out.chg (sl.Chg.ofBelow (lo := 0) b11) (.inr (Nat.zero_le _)))
    have K13 := sl.hid (O8.out.chg (sl.Chg.ofBelow (lo := 0) b11) (.inr (.inr (Nat.le_refl _))))
    have C14 := sl.hid (C10.out.trans (b11.mono (by omega)))
    clear b11 K9 O8 C10
    go_wp2_with fail
    refine (sl.toI xs0 _ _ W4 K12.out (by omega) hn0).mono ?_
    rintro e W5 ⟨v15, rfl, o15, b15⟩
    have hz5 := b15.size
    have O15 := sl.hid o15
    clear o15
    have K16 := sl.hid (K12.out.chg (sl.Chg.ofBelow (lo := 0) b15) (.inr (Nat.zero_le _)))
    have K17 := sl.hid (K13.out.chg (sl.Chg.ofBelow (lo := 0) b15) (.inr (.inr (Nat.le_refl _))))
    have C18 := sl.hid (C14.out.trans (b15.mono (by omega)))
    clear b15 K12 K13 C14
    go_wp2_with fail
    refine (sl.eqS xs0 v8 v15 _ _ W5 K17.out.ints O15.out.ints hn0).mono ?_
    rintro e W6 ⟨rfl, b19⟩
    have hz6 := b19.size
    have K20 := sl.hid (K16.out.chg (sl.Chg.ofBelow (lo := 0) b19) (.inr (Nat.zero_le _)))
    have K21 := sl.hid (K17.out.chg (sl.Chg.ofBelow (lo := 0) b19) (.inr (.inr (Nat.le_refl _))))
    have K22 := sl.hid (O15.out.chg (sl.Chg.ofBelow (lo := 0) b19) (.inr (.inr (Nat.le_refl _))))
    have C23 := sl.hid (C18.out.trans (b19.mono (by omega)))
    clear b19 K16 K17 O15 C18
    go_wp2
    go_ret
    exact ⟨rfl, C23.out⟩
  · have hl0 : decide ((1048576 : Int) < (len0 : Int)) = true := by simp; omega
    go_enter Try.func5, Try.ntmps5
    go_wp2
    go_ret
    exact ⟨rfl, Below.refl _ _⟩

/-! ### The row's step. -/
set_option maxRecDepth 100000 in
theorem lifted (os : Os) (started : os.Started) (H : Type) (enc : TypeId × Value → H) :
    ReturnsInHanded {} Try.checked os 5 .any (Rows.fnExactValidPlacesSpec.pre6 enc Try.prog Try.f5 Rows.fnExactValidPlacesRow.domain false) (Rows.fnExactValidPlacesSpec.post enc Try.prog Try.f5 false true false false) := by
  refine returnsInHanded_of_change (C := Try.checked) own started (by kernel_rfl) Try.func5
    (ChangeSpec.witness6 (enc := enc) (C := Try.checked) false ⟨#[], #[.slice none 0 0], []⟩ 8 (by kernel_rfl) (by kernel_rfl) (by kernel_rfl) (by kernel_rfl)) ?_
  intro W base args ds gs before hval0 hW hcnd _
  have hval : ∀ (j : Nat) t v, Try.f5.params[j]? = some t → args[j]? = some v → Value.okWide Try.prog W .any base t v := hval0
  have hW' := hW
  obtain ⟨p, q, hA0, hV, rfl, hfz, hnd⟩ := hW
  have hA : DataW.TrodAll enc Try.prog W 0 (fun _ => true) true Try.f5.params.toList args.toList ds p := hA0
  rw [Try.params5] at hA hval
  obtain ⟨v0, vs0, d0, ds0, p0, q0, hargs, rfl, rfl, h0, r0⟩ := trodAll_cons hA
  obtain ⟨rfl, rfl, rfl⟩ := trodAll_nil r0
  obtain rfl : args = #[v0] := by cases args; simp_all
  obtain ⟨rfl, rfl⟩ := trodVars_none hV
  have k0 := h0
  have lt0 : ∀ x ∈ p0, x.block < W.heap.size := by obtain ⟨m, hm⟩ := k0; exact DataW.trod_lt m _ _ _ hm
  have R0 : ∀ W' : World, Below W.heap.size W W' → DataW.Trod enc Try.prog W' 0 (fun b => decide (b < W.heap.size)) true 25 v0 d0 p0 := fun W' bel => Below.trod laidOut (by kernel_rfl) (of_decide_eq_true (by kernel_rfl)) k0 bel lt0
  obtain ⟨a0, len0, cap0, rfl⟩ := okWide_slice Try.underlying25 (hval 0 25 v0 rfl rfl)
  obtain ⟨z0, w0⟩ : ∃ zs, IsRow .i64 W a0 len0 cap0 zs := by
    obtain ⟨fuel, hf⟩ := h0
    rcases open_ints Try.underlying25 Try.underlying2 (by kernel_rfl) hf with ⟨hcs, _⟩ | ⟨x, l, c, zs, hcs, _, hl, hm, hz, _, hcell, hwz⟩
    · simp [Value.cells] at hcs
      obtain ⟨rfl, rfl, rfl⟩ := hcs
      exact ⟨[], .inl ⟨rfl, rfl, rfl, rfl⟩⟩
    · simp [Value.cells] at hcs
      obtain ⟨rfl, rfl, rfl⟩ := hcs
      exact ⟨zs, .inr ⟨_, rfl, hl, hm, by simpa using hz, hcell, hwz⟩⟩
  clear hA0 hval0
  refine (walk a0 len0 cap0 z0 W w0).mono fun e W' ⟨he, bel⟩ => ?_
  subst he
  exact ⟨_, rfl, _, _, _, [], _, [], hW', trodAll_mk1 (shut_bool Try.underlying4 _), (trodAll_cons_mk (R0 _ bel) trodAll_mk0), rfl, bel.frame _, fun h => by cases h⟩
end Go.Proofs.Ytbbnheiibkcgiaa.fnExactValidPlaces
