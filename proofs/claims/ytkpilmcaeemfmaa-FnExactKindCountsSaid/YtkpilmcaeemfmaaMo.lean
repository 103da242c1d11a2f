/-
  markOpS: writes into operations of the call's own.
-/
import Derived.Test.YtkpilmcaeemfmaaOto
namespace Go.Proofs.Ytkpilmcaeemfmaa.os
open Go.RowKit Go.Sort Go.Proofs.Ytkpilmcaeemfmaa.sl Go.Proofs.Ytkpilmcaeemfmaa.vo Go.Proofs.Ytkpilmcaeemfmaa.nd
set_option linter.unusedVariables false
set_option linter.unusedSimpArgs false

/-- The cells of a block are there and may be written. -/
def Wr (w : World) (g m : Nat) : Prop := g < w.heap.size ∧ ∀ o, o < m → w.frozen? ⟨g, o, none⟩ = false ∧ ∃ u, w.cell? ⟨g, o, none⟩ = some u
theorem Wr.set {w : World} {g m : Nat} (h : Wr w g m) (i : Nat) (v : Value) (hi : i < m) : Wr (w.setCell ⟨g, i, none⟩ v) g m := by
  refine ⟨by simpa using h.1, fun o ho => ⟨by rw [World.frozen?_setCell]; exact (h.2 o ho).1, ?_⟩⟩
  obtain ⟨u, hu⟩ := (h.2 o ho).2
  by_cases e : o = i
  · subst e; exact ⟨v, ss.same_at hu⟩
  · exact ⟨u, by rw [ss.other_at e]; exact hu⟩
theorem chg_set {lo hi g i : Nat} {w w' : World} (h : Chg lo hi w w') (v : Value) (h1 : lo ≤ g) (h2 : g < hi) : Chg lo hi w (w'.setCell ⟨g, i, none⟩ v) := by
  have hb := (Below.refl g w').setCell (p := ⟨g, i, none⟩) (Nat.le_refl _) v
  refine ⟨hb.os.trans h.os, hb.tape.trans h.tape, hb.output.trans h.output, Nat.le_trans h.size hb.size, fun k hk hk' => ?_⟩
  rw [← h.block k hk hk']
  exact Below.heap_setCell w' ⟨g, i, none⟩ v k (by show k ≠ g; omega)

set_option maxRecDepth 100000 in
set_option maxHeartbeats 800000 in
theorem markOS (xs : List OpV) (v : Value) (lo hi : Nat) (k0 : Int) (w : World) (ho : OOwn w lo hi v xs) (hq : Small xs) (hk0 : 0 ≤ k0) (hk1 : k0 ≤ 1099511627776) :
    Calls Try.prog 63 #[v, .int .i64 k0] w fun e w' => e = .returned (.int .i64 (k0 + ((8 * xs.length : Nat) : Int))) ∧ True ∧ Chg lo hi w w' := by
  have hn := hq.len
  clear hq
  obtain ⟨hh, hr⟩ := ho
  rcases hr with ⟨rfl, ao, cap, rfl⟩ | ⟨hp, g, cap, rfl, h1, h2, h3, h4⟩
  · go_enter Try.func63, Try.ntmps63
    go_wp2
    refine wp_loop_rounds 1 ?_
    rw [rounds_succ]
    go_wp2
    go_ret
    exact ⟨by simp, trivial, ⟨rfl, rfl, rfl, Nat.le_refl _, fun _ _ _ => rfl⟩⟩
  · have HW : Hid (Wr w g (xs.length * 8)) := hid ⟨by omega, fun o ho => ⟨h3 o ho, by
      have A := h4 (o / 8) (by omega)
      have hi8 : o % 8 < 8 := Nat.mod_lt _ (by omega)
      have e : o = 0 + o / 8 * 8 + o % 8 := by omega
      rw [e]
      generalize o % 8 = i at hi8
      match i, hi8 with
      | 0, _ => exact ⟨_, A.c0⟩
      | 1, _ => exact ⟨_, A.c1⟩
      | 2, _ => exact ⟨_, A.c2⟩
      | 3, _ => exact ⟨_, A.c3⟩
      | 4, _ => exact ⟨_, A.c4⟩
      | 5, _ => exact ⟨_, A.c5⟩
      | 6, _ => exact ⟨_, A.c6⟩
      | 7, _ => exact ⟨_, A.c7⟩⟩⟩
    have HC0 : Hid (Chg lo hi w w) := hid ⟨rfl, rfl, rfl, Nat.le_refl _, fun _ _ _ => rfl⟩
    clear h3 h4 hh
    generalize xs.length = n at *
    go_enter Try.func63, Try.ntmps63
    go_wp2
    go_loopw [1, 5] (fun q i wr => ∃ k : Nat, k ≤ n ∧ i = .int .i64 k ∧ q = .int .i64 (k0 + 8 * (k : Int)) ∧ Wr wr g (n * 8) ∧ Chg lo hi w wr) (fun _ i _ => n - (intOf i).toNat)
    case atStart => exact ⟨0, Nat.zero_le _, rfl, by simp, HW.out, HC0.out⟩
    case round =>
      obtain ⟨k, hk, rfl, rfl, hw1, hc1⟩ := hrel
      have HCw := hid hc1
      have HWw := hid hw1
      clear hw1 hc1 HW HC0
      by_cases hlt : k < n
      · obtain ⟨y, hy⟩ : ∃ y, y = k0 + 8 * (k : Int) := ⟨_, rfl⟩
        have hyb : 0 ≤ y ∧ y ≤ 1100000000000 := by omega
        have HY : Hid (k0 + 8 * ((k + 1 : Nat) : Int) = y + 8) := hid (by omega)
        rw [← hy]
        clear hy
        obtain ⟨f0, u0, z0⟩ := HWw.out.2 (k * 8) (by omega)
        obtain ⟨f1, u1, z1⟩ := HWw.out.2 (k * 8 + 1) (by omega)
        obtain ⟨f2, u2, z2⟩ := HWw.out.2 (k * 8 + 2) (by omega)
        obtain ⟨f3, u3, z3⟩ := HWw.out.2 (k * 8 + 3) (by omega)
        obtain ⟨f4, u4, z4⟩ := HWw.out.2 (k * 8 + 4) (by omega)
        obtain ⟨f5, u5, z5⟩ := HWw.out.2 (k * 8 + 5) (by omega)
        obtain ⟨f6, u6, z6⟩ := HWw.out.2 (k * 8 + 6) (by omega)
        obtain ⟨f7, u7, z7⟩ := HWw.out.2 (k * 8 + 7) (by omega)
        go_wp2
        clear f0 f1 f2 f3 f4 f5 f6 f7 z0 z1 z2 z3 z4 z5 z6 z7
        go_roundw
        case rel =>
          refine ⟨k + 1, by omega, by go_num, by rw [HY.out]; go_num, ?_, ?_⟩
          · exact (((((((HWw.out.set (k * 8) _ (by omega)).set (k * 8 + 1) _ (by omega)).set (k * 8 + 2) _ (by omega)).set (k * 8 + 3) _ (by omega)).set (k * 8 + 4) _ (by omega)).set (k * 8 + 5) _ (by omega)).set (k * 8 + 6) _ (by omega)).set (k * 8 + 7) _ (by omega)
          · exact chg_set (chg_set (chg_set (chg_set (chg_set (chg_set (chg_set (chg_set HCw.out _ h1 h2) _ h1 h2) _ h1 h2) _ h1 h2) _ h1 h2) _ h1 h2) _ h1 h2) _ h1 h2
        case measure => simp [intOf]; omega
      · obtain rfl : k = n := by omega
        go_wp2
        go_ret
        exact ⟨by simp, trivial, HCw.out⟩
end Go.Proofs.Ytkpilmcaeemfmaa.os
