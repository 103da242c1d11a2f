/-
Proved: for all pairs of lists, impl.LeftWeighted answers as its model and changes no argument (FnExactLeftWeighted returns true). No condition.
-/
import Derived.Test.YtnnbhgiaaelkiaaRows
import Derived.WalkKit
import Derived.ProofKit
import Derived.OpenShut
import Derived.ShutString
import Derived.ChangeOld
import Derived.Below
import Derived.Test.YtnnbhgiaaelkiaaH5
namespace Go.Proofs.Ytnnbhgiaaelkiaa.fnExactLeftWeighted
open Go.ChangeShapes Go.WideShapes Go.ChangeAt Go.RowKit
open Go.ChangeMaps (open_string shut_string)
set_option linter.unusedVariables false

theorem own : ownKnob Try.prog.godebug = none := by kernel_rfl
theorem laidOut : laidOutB Try.prog = true := by kernel_rfl

/-- A slice that came in: nil, or a row of cap cells whose numbers are zs. -/
def IsRow (k : IntKind) (w : World) (a : Option Addr) (len cap : Nat) (zs : List Int) : Prop :=
  (a = none ∧ len = 0 ∧ cap = 0 ∧ zs = []) ∨
  ∃ x, a = some x ∧ len ≤ cap ∧ cap ≤ maxLen ∧ zs.length = cap ∧ (∀ i, i < zs.length → w.cell? (x.add i) = some (.int k (zs.getD i 0))) ∧ ∀ n ∈ zs, (Lit.int k n).wf = true

theorem ints_of {w : World} {a : Option Addr} {len cap : Nat} {zs : List Int} (h : IsRow .i64 w a len cap zs) : ∃ xs, xs.length = len ∧ (∀ n ∈ xs, (Lit.int .i64 n).wf = true) ∧ sl.Ints w w.heap.size (.slice a len cap) xs := by
  rcases h with ⟨rfl, rfl, rfl, rfl⟩ | ⟨x, rfl, hl, hm, hz, hcell, hwz⟩
  · exact ⟨[], rfl, by simp, .inl ⟨rfl, _, _, rfl⟩⟩
  · have hlen : (zs.take len).length = len := by simp; omega
    refine ⟨zs.take len, hlen, fun n hn => hwz n (List.mem_of_mem_take hn), ?_⟩
    by_cases h0 : len = 0
    · subst h0; exact .inl ⟨by simp, _, _, rfl⟩
    · obtain ⟨b, off, spot⟩ := x
      have hc := hcell 0 (by omega)
      have hspot : spot = none := by simpa [Addr.add] using World.cell?_spot hc
      subst hspot
      refine .inr ⟨by omega, b, off, cap, by rw [hlen], ?_, fun j hj => ?_⟩
      · have := World.block_lt_of_cell? w _ hc
        simpa [Addr.add] using this
      · have h1 := hcell j (by omega)
        rw [Addr.add_lit] at h1
        rw [h1]
        have h2 : j < len := by omega
        simp [List.getD, h2]

/-! ### The walk: the Go text returns true and writes nothing that was there. -/
theorem walk (a0 : Option Addr) (len0 cap0 : Nat) (z0 : List Int) (a1 : Option Addr) (len1 cap1 : Nat) (z1 : List Int) (w : World) (w0 : IsRow .i64 w a0 len0 cap0 z0) (w1 : IsRow .i64 w a1 len1 cap1 z1) :
    Calls Try.prog 10 #[.slice a0 len0 cap0, .slice a1 len1 cap1] w fun e w' => e = .returned (.bool true) ∧ Below w.heap.size w w' := by
  obtain ⟨xs0, hlen0, hwf0, ha0⟩ := ints_of w0
  obtain ⟨xs1, hlen1, hwf1, ha1⟩ := ints_of w1
  by_cases hbig0 : len0 ≤ 1048576
  · have hl0 : decide ((1048576 : Int) < (len0 : Int)) = false := by simp; omega
    by_cases hbig1 : len1 ≤ 1048576
    · have hl1 : decide ((1048576 : Int) < (len1 : Int)) = false := by simp; omega
      have hn0 : xs0.length ≤ 1099511627776 := by omega
      have hm0 : xs0.length ≤ 1048576 := by omega
      have HA0_0 := sl.hid ha0
      have HW0 := sl.hid hwf0
      have HL0 := sl.hid hlen0
      have hn1 : xs1.length ≤ 1099511627776 := by omega
      have hm1 : xs1.length ≤ 1048576 := by omega
      have HA1_0 := sl.hid ha1
      have HW1 := sl.hid hwf1
      have HL1 := sl.hid hlen1
      have C0 : Hid (Below w.heap.size w w) := sl.hid (Below.refl _ _)
      clear ha0 hlen0 hwf0 w0 ha1 hlen1 hwf1 w1
      go_enter Try.func10, Try.ntmps10
      go_wp2_with fail
      refine (sl.toI xs0 _ _ w HA0_0.out (by omega) hn0).mono ?_
      rintro e W1 ⟨v1, rfl, o1, b1⟩
      have hz1 := b1.size
      have O1 := sl.hid o1
      clear o1
      have K2 := sl.hid (HA0_0.out.chg (sl.Chg.ofBelow (lo := 0) b1) (.inr (Nat.zero_le _)))
      have K3 := sl.hid (HA1_0.out.chg (sl.Chg.ofBelow (lo := 0) b1) (.inr (Nat.zero_le _)))
      have C4 := sl.hid (C0.out.trans (b1.mono (by omega)))
      clear b1 HA0_0 HA1_0 C0
      go_wp2_with fail
      refine (sl.toI xs1 _ _ W1 K3.out (by omega) hn1).mono ?_
      rintro e W2 ⟨v5, rfl, o5, b5⟩
      have hz2 := b5.size
      have O5 := sl.hid o5
      clear o5
      have K6 := sl.hid (K2.out.chg (sl.Chg.ofBelow (lo := 0) b5) (.inr (Nat.zero_le _)))
      have K7 := sl.hid (K3.out.chg (sl.Chg.ofBelow (lo := 0) b5) (.inr (Nat.zero_le _)))
      have K8 := sl.hid (O1.out.chg (sl.Chg.ofBelow (lo := 0) b5) (.inr (.inr (Nat.le_refl _))))
      have C9 := sl.hid (C4.out.trans (b5.mono (by omega)))
      clear b5 K2 K3 O1 C4
      go_wp2_with fail
      refine (fn.specLeft xs0 xs1 v1 v5 _ _ W2 K8.out.ints O5.out.ints (by omega) (by omega) hn0 hn1 (fn.capok_own K8.out) (fn.capok_own O5.out)).mono ?_
      rintro e W3 ⟨rfl, b10⟩
      have hz3 := b10.size
      have K11 := sl.hid (K6.out.chg (sl.Chg.ofBelow (lo := 0) b10) (.inr (Nat.zero_le _)))
      have K12 := sl.hid (K7.out.chg (sl.Chg.ofBelow (lo := 0) b10) (.inr (Nat.zero_le _)))
      have K13 := sl.hid (K8.out.chg (sl.Chg.ofBelow (lo := 0) b10) (.inr (.inr (Nat.le_refl _))))
      have K14 := sl.hid (O5.out.chg (sl.Chg.ofBelow (lo := 0) b10) (.inr (.inr (Nat.le_refl _))))
      have C15 := sl.hid (C9.out.trans (b10.mono (by omega)))
      clear b10 K6 K7 K8 O5 C9
      go_wp2_with fail
      refine (sl.toI xs0 _ _ W3 K11.out (by omega) hn0).mono ?_
      rintro e W4 ⟨v16, rfl, o16, b16⟩
      have hz4 := b16.size
      have O16 := sl.hid o16
      clear o16
      have K17 := sl.hid (K11.out.chg (sl.Chg.ofBelow (lo := 0) b16) (.inr (Nat.zero_le _)))
      have K18 := sl.hid (K12.out.chg (sl.Chg.ofBelow (lo := 0) b16) (.inr (Nat.zero_le _)))
      have C19 := sl.hid (C15.out.trans (b16.mono (by omega)))
      clear b16 K11 K12 C15
      go_wp2_with fail
      refine (sl.toI xs1 _ _ W4 K18.out (by omega) hn1).mono ?_
      rintro e W5 ⟨v20, rfl, o20, b20⟩
      have hz5 := b20.size
      have O20 := sl.hid o20
      clear o20
      have K21 := sl.hid (K17.out.chg (sl.Chg.ofBelow (lo := 0) b20) (.inr (Nat.zero_le _)))
      have K22 := sl.hid (K18.out.chg (sl.Chg.ofBelow (lo := 0) b20) (.inr (Nat.zero_le _)))
      have K23 := sl.hid (O16.out.chg (sl.Chg.ofBelow (lo := 0) b20) (.inr (.inr (Nat.le_refl _))))
      have C24 := sl.hid (C19.out.trans (b20.mono (by omega)))
      clear b20 K17 K18 O16 C19
      go_wp2_with fail
      refine (fn.implLeft xs0 xs1 v16 v20 _ _ W5 K23.out.ints O20.out.ints (by omega) (by omega) hn0 hn1 (fn.capok_own K23.out) (fn.capok_own O20.out)).mono ?_
      rintro e W6 ⟨rfl, b25⟩
      have hz6 := b25.size
      have K26 := sl.hid (K21.out.chg (sl.Chg.ofBelow (lo := 0) b25) (.inr (Nat.zero_le _)))
      have K27 := sl.hid (K22.out.chg (sl.Chg.ofBelow (lo := 0) b25) (.inr (Nat.zero_le _)))
      have K28 := sl.hid (K23.out.chg (sl.Chg.ofBelow (lo := 0) b25) (.inr (.inr (Nat.le_refl _))))
      have K29 := sl.hid (O20.out.chg (sl.Chg.ofBelow (lo := 0) b25) (.inr (.inr (Nat.le_refl _))))
      have C30 := sl.hid (C24.out.trans (b25.mono (by omega)))
      clear b25 K21 K22 K23 O20 C24
      go_wp2_with fail
      refine (sl.toI xs0 _ _ W6 K26.out (by omega) hn0).mono ?_
      rintro e W7 ⟨v31, rfl, o31, b31⟩
      have hz7 := b31.size
      have O31 := sl.hid o31
      clear o31
      have K32 := sl.hid (K26.out.chg (sl.Chg.ofBelow (lo := 0) b31) (.inr (Nat.zero_le _)))
      have K33 := sl.hid (K27.out.chg (sl.Chg.ofBelow (lo := 0) b31) (.inr (Nat.zero_le _)))
      have K34 := sl.hid (K28.out.chg (sl.Chg.ofBelow (lo := 0) b31) (.inr (.inr (Nat.le_refl _))))
      have K35 := sl.hid (K29.out.chg (sl.Chg.ofBelow (lo := 0) b31) (.inr (.inr (Nat.le_refl _))))
      have C36 := sl.hid (C30.out.trans (b31.mono (by omega)))
      clear b31 K26 K27 K28 K29 C30
      go_wp2_with fail
      refine (sl.eqS xs0 v16 v31 _ _ W7 K34.out.ints O31.out.ints hn0).mono ?_
      rintro e W8 ⟨rfl, b37⟩
      have hz8 := b37.size
      have K38 := sl.hid (K32.out.chg (sl.Chg.ofBelow (lo := 0) b37) (.inr (Nat.zero_le _)))
      have K39 := sl.hid (K33.out.chg (sl.Chg.ofBelow (lo := 0) b37) (.inr (Nat.zero_le _)))
      have K40 := sl.hid (K34.out.chg (sl.Chg.ofBelow (lo := 0) b37) (.inr (.inr (Nat.le_refl _))))
      have K41 := sl.hid (K35.out.chg (sl.Chg.ofBelow (lo := 0) b37) (.inr (.inr (Nat.le_refl _))))
      have K42 := sl.hid (O31.out.chg (sl.Chg.ofBelow (lo := 0) b37) (.inr (.inr (Nat.le_refl _))))
      have C43 := sl.hid (C36.out.trans (b37.mono (by omega)))
      clear b37 K32 K33 K34 K35 O31 C36
      go_wp2_with fail
      refine (sl.toI xs1 _ _ W8 K39.out (by omega) hn1).mono ?_
      rintro e W9 ⟨v44, rfl, o44, b44⟩
      have hz9 := b44.size
      have O44 := sl.hid o44
      clear o44
      have K45 := sl.hid (K38.out.chg (sl.Chg.ofBelow (lo := 0) b44) (.inr (Nat.zero_le _)))
      have K46 := sl.hid (K39.out.chg (sl.Chg.ofBelow (lo := 0) b44) (.inr (Nat.zero_le _)))
      have K47 := sl.hid (K40.out.chg (sl.Chg.ofBelow (lo := 0) b44) (.inr (.inr (Nat.le_refl _))))
      have K48 := sl.hid (K41.out.chg (sl.Chg.ofBelow (lo := 0) b44) (.inr (.inr (Nat.le_refl _))))
      have C49 := sl.hid (C43.out.trans (b44.mono (by omega)))
      clear b44 K38 K39 K40 K41 C43
      go_wp2_with fail
      refine (sl.eqS xs1 v20 v44 _ _ W9 K48.out.ints O44.out.ints hn1).mono ?_
      rintro e W10 ⟨rfl, b50⟩
      have hz10 := b50.size
      have K51 := sl.hid (K45.out.chg (sl.Chg.ofBelow (lo := 0) b50) (.inr (Nat.zero_le _)))
      have K52 := sl.hid (K46.out.chg (sl.Chg.ofBelow (lo := 0) b50) (.inr (Nat.zero_le _)))
      have K53 := sl.hid (K47.out.chg (sl.Chg.ofBelow (lo := 0) b50) (.inr (.inr (Nat.le_refl _))))
      have K54 := sl.hid (K48.out.chg (sl.Chg.ofBelow (lo := 0) b50) (.inr (.inr (Nat.le_refl _))))
      have K55 := sl.hid (O44.out.chg (sl.Chg.ofBelow (lo := 0) b50) (.inr (.inr (Nat.le_refl _))))
      have C56 := sl.hid (C49.out.trans (b50.mono (by omega)))
      clear b50 K45 K46 K47 K48 O44 C49
      go_wp2
      go_ret
      exact ⟨rfl, C56.out⟩
    · have hl1 : decide ((1048576 : Int) < (len1 : Int)) = true := by simp; omega
      go_enter Try.func10, Try.ntmps10
      go_wp2
      go_ret
      exact ⟨rfl, Below.refl _ _⟩
  · have hl0 : decide ((1048576 : Int) < (len0 : Int)) = true := by simp; omega
    go_enter Try.func10, Try.ntmps10
    go_wp2
    go_ret
    exact ⟨rfl, Below.refl _ _⟩

/-! ### The row's step. -/
set_option maxRecDepth 100000 in
theorem lifted (os : Os) (started : os.Started) (H : Type) (enc : TypeId × Value → H) :
    ReturnsInHanded {} Try.checked os 10 .any (Rows.fnExactLeftWeightedSpec.pre6 enc Try.prog Try.f10 Rows.fnExactLeftWeightedRow.domain false) (Rows.fnExactLeftWeightedSpec.post enc Try.prog Try.f10 false true false false) := by
  refine returnsInHanded_of_change (C := Try.checked) own started (by kernel_rfl) Try.func10
    (ChangeSpec.witness6 (enc := enc) (C := Try.checked) false ⟨#[], #[.slice none 0 0, .slice none 0 0], []⟩ 8 (by kernel_rfl) (by kernel_rfl) (by kernel_rfl) (by kernel_rfl)) ?_
  intro W base args ds gs before hval0 hW hcnd _
  have hval : ∀ (j : Nat) t v, Try.f10.params[j]? = some t → args[j]? = some v → Value.okWide Try.prog W .any base t v := hval0
  have hW' := hW
  obtain ⟨p, q, hA0, hV, rfl, hfz, hnd⟩ := hW
  have hA : DataW.TrodAll enc Try.prog W 0 (fun _ => true) true Try.f10.params.toList args.toList ds p := hA0
  rw [Try.params10] at hA hval
  obtain ⟨v0, vs0, d0, ds0, p0, q0, hargs, rfl, rfl, h0, r0⟩ := trodAll_cons hA
  obtain ⟨v1, vs1, d1, ds1, p1, q1, rfl, rfl, rfl, h1, r1⟩ := trodAll_cons r0
  obtain ⟨rfl, rfl, rfl⟩ := trodAll_nil r1
  obtain rfl : args = #[v0, v1] := by cases args; simp_all
  obtain ⟨rfl, rfl⟩ := trodVars_none hV
  obtain ⟨a0, len0, cap0, rfl⟩ := okWide_slice Try.underlying22 (hval 0 22 v0 rfl rfl)
  have k0 := h0
  have lt0 : ∀ x ∈ p0, x.block < W.heap.size := by obtain ⟨m, hm⟩ := k0; exact DataW.trod_lt m _ _ _ hm
  obtain ⟨z0, w0⟩ : ∃ zs, IsRow .i64 W a0 len0 cap0 zs := by
    obtain ⟨fuel, hf⟩ := h0
    rcases open_ints Try.underlying22 Try.underlying2 (by kernel_rfl) hf with ⟨hcs, _⟩ | ⟨x, l, c, zs, hcs, _, hl, hm, hz, _, hcell, hwz⟩
    · simp [Value.cells] at hcs
      obtain ⟨rfl, rfl, rfl⟩ := hcs
      exact ⟨[], .inl ⟨rfl, rfl, rfl, rfl⟩⟩
    · simp [Value.cells] at hcs
      obtain ⟨rfl, rfl, rfl⟩ := hcs
      exact ⟨zs, .inr ⟨_, rfl, hl, hm, by simpa using hz, hcell, hwz⟩⟩
  obtain ⟨a1, len1, cap1, rfl⟩ := okWide_slice Try.underlying22 (hval 1 22 v1 rfl rfl)
  have k1 := h1
  have lt1 : ∀ x ∈ p1, x.block < W.heap.size := by obtain ⟨m, hm⟩ := k1; exact DataW.trod_lt m _ _ _ hm
  obtain ⟨z1, w1⟩ : ∃ zs, IsRow .i64 W a1 len1 cap1 zs := by
    obtain ⟨fuel, hf⟩ := h1
    rcases open_ints Try.underlying22 Try.underlying2 (by kernel_rfl) hf with ⟨hcs, _⟩ | ⟨x, l, c, zs, hcs, _, hl, hm, hz, _, hcell, hwz⟩
    · simp [Value.cells] at hcs
      obtain ⟨rfl, rfl, rfl⟩ := hcs
      exact ⟨[], .inl ⟨rfl, rfl, rfl, rfl⟩⟩
    · simp [Value.cells] at hcs
      obtain ⟨rfl, rfl, rfl⟩ := hcs
      exact ⟨zs, .inr ⟨_, rfl, hl, hm, by simpa using hz, hcell, hwz⟩⟩
  clear hA0 hval0
  refine (walk a0 len0 cap0 z0 a1 len1 cap1 z1 W w0 w1).mono fun e W' ⟨he, bel⟩ => ?_
  subst he
  exact ⟨_, rfl, _, _, _, [], _, [], hW', trodAll_mk1 (shut_bool Try.underlying4 _), (trodAll_cons_mk (Below.trod laidOut (by kernel_rfl) (of_decide_eq_true (by kernel_rfl)) k0 bel lt0) (trodAll_cons_mk (Below.trod laidOut (by kernel_rfl) (of_decide_eq_true (by kernel_rfl)) k1 bel lt1) trodAll_mk0)), rfl, bel.frame _, fun h => by cases h⟩

theorem over : Rows.fnExactLeftWeightedRow.holds Try.pinned (OpenSpec.ofChange Rows.fnExactLeftWeightedSpec) :=
  OpenClaim.holds_of_wide 10 Try.f10 rfl rfl rfl rfl rfl rfl rfl ⟨rfl, rfl, rfl, rfl, rfl⟩ rfl rfl rfl rfl rfl (by kernel_rfl) Try.func10 (by kernel_rfl)
    (of_decide_eq_true (by kernel_rfl)) (by unfold Func.isWrapper; first | (rw [if_pos (by decide +kernel)]; kernel_rfl) | (rw [if_neg (by decide +kernel)]; exact ⟨rfl, rfl⟩))
    (fun os started H enc _ => lifted os started H enc)

/-- The given statement. -/
theorem proved : Rows.FnExactLeftWeightedSaid := over
end Go.Proofs.Ytnnbhgiaaelkiaa.fnExactLeftWeighted
