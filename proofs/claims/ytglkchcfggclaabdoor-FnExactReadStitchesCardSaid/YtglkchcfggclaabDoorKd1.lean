/-
  ReadStitches of the program: the map of symbols, a range over a text.
-/
import Derived.Test.YtglkchcfggclaabDoorKd0
import Derived.Test.YtglkchcfggclaabDoorSr
import Derived.Maps.OwnOps
import Derived.Maps.OwnSet
import Derived.Maps.Views
import Derived.Maps.AppendAt
import Derived.Lib.OthersKept
namespace Go.Proofs.YtglkchcfggclaabDoor.kd
open Go.RowKit Go.Sort Go.Maps Go.Proofs.YtglkchcfggclaabDoor.sl Go.Proofs.YtglkchcfggclaabDoor.st
set_option linter.unusedVariables false
set_option linter.unusedSimpArgs false

theorem lawK : Keyed Tryd.prog 21 := int_keyed Tryd.underlying21
theorem zeroI (w : World) : (zeroValue 2).run Tryd.prog w = .ok (.int .i64 0) w := by kernel_rfl
theorem key_of (x : Int) (hx : -2147483648 ≤ x ∧ x ≤ 2147483647) : keyOf Tryd.prog 21 (.int .i32 x) = some (.int .i32 x) := keyOf_int_mk Tryd.underlying21 (WalkArith.wf_i32 (by omega))

/-- The map of the first i symbols. -/
def CS (X : World) (b i : Nat) : Prop := ∃ D : DataW Unit, X.ownsMap Tryd.prog 21 (plainElem Tryd.prog 2) b i D ∧ (∀ x : Int, Maps.has D (.int .i32 x) = decide (1 ≤ sk x ∧ sk x ≤ (i : Int))) ∧ ∀ x : Int, 1 ≤ sk x ∧ sk x ≤ (i : Int) → D.atKey (.int .i32 x) (.lit (.int .i64 0)) = .lit (.int .i64 (sk x))
theorem cs_made (w : World) : CS (w.alloc (.map #[] 0)) w.heap.size 0 := ⟨.map [], World.ownsMap_made _ _ _ _, fun x => by
  have : ¬ (1 ≤ sk x ∧ sk x ≤ ((0 : Nat) : Int)) := by omega
  rw [decide_eq_false this]; rfl, fun x h => by omega⟩
theorem CS.kept {w w' : World} {b i : Nat} {row : Option Nat} (h : CS w b i) (hg : w.grownBy w' row) (hne : some b ≠ row) : CS w' b i := by
  obtain ⟨D, h1, h2⟩ := h
  exact ⟨D, World.ownsMap.kept h1 hg hne, h2⟩
theorem CS.lt {w : World} {b i : Nat} (h : CS w b i) : b < w.heap.size := by
  obtain ⟨D, h1, h2⟩ := h
  exact World.ownsMap.lt h1
theorem sy_bnd {j : Nat} (h : j ≤ 11) : 0 ≤ syT.getD j 0 ∧ syT.getD j 0 ≤ 121 := all12 (fun j => 0 ≤ syT.getD j 0 ∧ syT.getD j 0 ≤ 121) (by decide) h
set_option maxRecDepth 100000 in
theorem CS.upd {w : World} {b i : Nat} (h : CS w b i) (hi : i + 1 ≤ 11) :
    ∃ w', (Instr.mapUpdate 33 (.map (some b)) (.int .i32 (syT.getD (i + 1) 0)) (.int .i64 ((i + 1 : Nat) : Int))).run Tryd.prog w = .ok () w' ∧ CS w' b (i + 1) ∧ w.grownBy w' (some b) := by
  obtain ⟨D, h1, h2, h3⟩ := h
  have hm := h1.isMap
  have hsb := sy_bnd hi
  have hsk := sk_sy (j := i + 1) ⟨by omega, hi⟩
  obtain ⟨w', r, o, g⟩ := h1.update lawK Tryd.underlying33 (by unfold maxLen; omega) (key_of (syT.getD (i + 1) 0) (by omega)) (plainElem_int Tryd.underlying2 (WalkArith.wf_i64 (n := ((i + 1 : Nat) : Int)) (by omega)))
  have hne : ∀ y : Int, y ≠ syT.getD (i + 1) 0 → sk y ≠ ((i + 1 : Nat) : Int) := fun y hy e => by
    have := (sk_inv (x := y) (by rw [e]; omega)).1
    rw [e, Int.toNat_natCast] at this
    exact hy this
  refine ⟨w', r, ⟨_, o, fun y => ?_, fun y hsy => ?_⟩, g⟩
  · by_cases e : y = syT.getD (i + 1) 0
    · subst e
      rw [has_put_same hm (by simp [WideAt.IsKeyLit]), hsk, decide_eq_true (by omega)]
    · rw [has_put_other (by simpa using e), h2 y]
      have := hne y e
      by_cases h : 1 ≤ sk y ∧ sk y ≤ (i : Int)
      · rw [decide_eq_true h, decide_eq_true (by omega)]
      · rw [decide_eq_false h, decide_eq_false (by omega)]
  · by_cases e : y = syT.getD (i + 1) 0
    · subst e
      rw [atKey_put_same hm (by simp [WideAt.IsKeyLit]), hsk]
    · rw [atKey_put_other (by simpa using e)]
      have := hne y e
      exact h3 y (by omega)

set_option maxRecDepth 20000 in
theorem implKinds (w : World) (hT : stb.Tab w) : Calls Tryd.prog 17 #[] w fun e w' => e = .returned (.map (some w.heap.size)) ∧ CS w' w.heap.size 11 ∧ Below w.heap.size w w' := by
  have hmm := @run_makeMap Tryd.prog
  have HT := hid hT
  have HC0 := hid (cs_made w)
  have HB0 := hid ((Below.refl w.heap.size w).alloc (Nat.le_refl _) (.map #[] 0))
  clear hT
  go_enter Tryd.func17, Tryd.ntmps17
  go_wp2
  go_loopw [2] (fun q wr => ∃ i : Nat, i ≤ 11 ∧ q = .int .i64 ((i + 1 : Nat) : Int) ∧ CS wr w.heap.size i ∧ Below w.heap.size w wr) (fun q _ => 12 - (intOf q).toNat)
  case atStart => exact ⟨0, by omega, rfl, HC0.out, HB0.out⟩
  case round =>
    obtain ⟨i, hi, rfl, hcs, hbel⟩ := hrel
    have HC := hid hcs
    have HB := hid hbel
    clear hcs hbel HC0 HB0
    by_cases hlt : i + 1 ≤ 11
    · have hd : decide ((i : Int) + 1 ≤ 11) = true := by simp; omega
      obtain ⟨w2, hrun, hc2, hg2⟩ := HC.out.upd hlt
      rw [show ((i + 1 : Nat) : Int) = (i : Int) + 1 from by omega] at hrun
      have hcell := (stb.carry HT.out HB.out).sy (i + 1) (by omega)
      have hl := (stb.carry HT.out HB.out).lt
      have HC2 := hid hc2
      have HB2 := hid (show Below w.heap.size w w2 from HB.out.trans ⟨hg2.os, hg2.tape, hg2.output, hg2.size, fun k hk => hg2.block k (Nat.lt_of_lt_of_le hk HB.out.size) (by intro e; simp only [Option.some.injEq] at e; omega)⟩)
      generalize syT.getD (i + 1) 0 = x at *
      clear hc2 hg2 HC
      go_wp2
      go_roundw
      case rel => exact ⟨i + 1, by omega, by go_num, HC2.out, HB2.out⟩
      case measure => simp [intOf]; omega
    · obtain rfl : i = 11 := by omega
      go_wp2
      go_ret
      exact ⟨rfl, HC.out, HB.out⟩
end Go.Proofs.YtglkchcfggclaabDoor.kd
