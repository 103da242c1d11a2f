/-
  The walk of the law of ReduceHandle.
-/
import Derived.Test.YtedajefapddekaaRhm
import Derived.Test.YtedajefapddekaaMk1
import Derived.Deep.RegionHeld3
import Derived.Deep.CutRange
namespace Go.Proofs.Ytedajefapddekaa.wreduceHandle
open Go.RowKit
set_option linter.unusedVariables false

set_option maxRecDepth 100000 in
set_option maxHeartbeats 20000000 in
theorem law (a0 : Int) (f0_0 : Value) (xs0 : List Int) (a1 c1 : Int) (w : World) (hi0 : l5.IntsIn w f0_0 xs0) (ha0 : -9223372036854775808 ≤ a0 ∧ a0 ≤ 9223372036854775807) (ha1 : -9223372036854775808 ≤ a1 ∧ a1 ≤ 9223372036854775807) (hc1 : -9223372036854775808 ≤ c1 ∧ c1 ≤ 9223372036854775807) :
    Calls Try.prog 9 #[.agg #[.int .i64 a0, f0_0], .agg #[.int .i64 a1, .int .i64 c1]] w fun e w' => e = .returned (.bool true) ∧ Below w.heap.size w w' := by
  have HI0 := sl.hid hi0.rd
  have HZ0 := sl.hid (fun W B h => l5.szRb a0 xs0 f0_0 B (1048576) W h hi0.len hi0.short (by omega) (by omega))
  rcases l5.szL_pos (n := xs0.length) (left := 1048576) (by omega) with hzc0 | hzc0
  · rw [hzc0] at HZ0
    clear hzc0 hi0 ha0 ha1 hc1
    go_enter Try.func9, Try.ntmps9
    go_wp2_with fail
    have bE : Below w.heap.size w ((w.alloc (.cells #[.int .i64 a0, f0_0] 37)).alloc (.cells #[.int .i64 a1, .int .i64 c1] 55)) := (((Below.refl w.heap.size w).alloc (by simp) _).alloc (by simp) _)
    have hzW0 : w.heap.size + 2 ≤ ((w.alloc (.cells #[.int .i64 a0, f0_0] 37)).alloc (.cells #[.int .i64 a1, .int .i64 c1] 55)).heap.size := by simp
    have kp0_0W0 : ((w.alloc (.cells #[.int .i64 a0, f0_0] 37)).alloc (.cells #[.int .i64 a1, .int .i64 c1] 55)).cell? ⟨w.heap.size, 0, none⟩ = some (.int .i64 a0) := (World.cell?_alloc_past _ _ _ (by first | (simp; done) | (simp; omega))).trans (World.cell?_alloc_at _ _ _ _ (by simp))
    have kp0_1W0 : ((w.alloc (.cells #[.int .i64 a0, f0_0] 37)).alloc (.cells #[.int .i64 a1, .int .i64 c1] 55)).cell? ⟨w.heap.size, 1, none⟩ = some (f0_0) := (World.cell?_alloc_past _ _ _ (by first | (simp; done) | (simp; omega))).trans (World.cell?_alloc_at _ _ _ _ (by simp))
    have kp1_0W0 : ((w.alloc (.cells #[.int .i64 a0, f0_0] 37)).alloc (.cells #[.int .i64 a1, .int .i64 c1] 55)).cell? ⟨w.heap.size + 1, 0, none⟩ = some (.int .i64 a1) := World.cell?_alloc_at _ _ _ _ (by simp)
    have kp1_1W0 : ((w.alloc (.cells #[.int .i64 a0, f0_0] 37)).alloc (.cells #[.int .i64 a1, .int .i64 c1] 55)).cell? ⟨w.heap.size + 1, 1, none⟩ = some (.int .i64 c1) := World.cell?_alloc_at _ _ _ _ (by simp)
    have A0W0 := sl.hid (HI0.out.chg (sl.Chg.ofBelow (lo := 0) bE) (.inr (Nat.zero_le _)))
    have CW0 := sl.hid bE
    clear bE HI0
    generalize ((w.alloc (.cells #[.int .i64 a0, f0_0] 37)).alloc (.cells #[.int .i64 a1, .int .i64 c1] 55)) = W0 at *
    go_wp2_with fail
    refine (HZ0.out W0 _ A0W0.out).mono ?_
    rintro e W1 ⟨rfl, b1⟩
    have hzW1 : W0.heap.size ≤ W1.heap.size := b1.size
    have kp0_0W1 := (b1.cell (p := ⟨w.heap.size, 0, none⟩) (by show w.heap.size < W0.heap.size; omega)).trans kp0_0W0
    have kp0_1W1 := (b1.cell (p := ⟨w.heap.size, 1, none⟩) (by show w.heap.size < W0.heap.size; omega)).trans kp0_1W0
    have kp1_0W1 := (b1.cell (p := ⟨w.heap.size + 1, 0, none⟩) (by show w.heap.size + 1 < W0.heap.size; omega)).trans kp1_0W0
    have kp1_1W1 := (b1.cell (p := ⟨w.heap.size + 1, 1, none⟩) (by show w.heap.size + 1 < W0.heap.size; omega)).trans kp1_1W0
    have A0W1 := sl.hid (A0W0.out.chg (sl.Chg.ofBelow (lo := 0) b1) (.inr (Nat.zero_le _)))
    have CW1 := sl.hid (CW0.out.trans (b1.mono (by show w.heap.size ≤ W0.heap.size; omega)))
    clear b1 kp0_0W0 kp0_1W0 kp1_0W0 kp1_1W0 A0W0 CW0
    go_wp2
    go_ret
    exact ⟨rfl, CW1.out⟩
  · have HQ0 := sl.hid (l5.small_of (by omega) (by omega) hzc0)
    have hzl0 := (l5.szL_bound (n := xs0.length) (left := 1048576) (by omega) hzc0).1
    generalize br.szL 1048576 xs0.length = z0 at *
    have SP : Hid (∀ (g0_0 : Value) (W : World) (B0 : Nat), l5.IntsC W B0 g0_0 xs0 → B0 ≤ W.heap.size → Calls Try.prog 40 #[.agg #[.int .i64 a0, g0_0], .agg #[.int .i64 a1, .int .i64 c1]] W fun e w' => ∃ ao cap, e = .returned (.tuple #[.agg #[.int .i64 (hl.rhS a0 xs0 a1 c1), .slice ao (hl.rhW a0 xs0 a1 c1).length cap], .int .i64 (hl.rhC a0 xs0 a1 c1)]) ∧ sl.Own w' W.heap.size w'.heap.size (.slice ao (hl.rhW a0 xs0 a1 c1).length cap) (hl.rhW a0 xs0 a1 c1) ∧ Below W.heap.size W w') := sl.hid (fun g0_0 W B0 j0 l0 => rh5.specR a0 xs0 a1 c1 g0_0 B0 W j0 l0 HQ0.out )
    have IP : Hid (∀ (g0_0 : Value) (W : World) (B0 : Nat), l5.IntsC W B0 g0_0 xs0 → B0 ≤ W.heap.size → Calls Try.prog 42 #[.agg #[.int .i64 a0, g0_0], .agg #[.int .i64 a1, .int .i64 c1]] W fun e w' => ∃ ao cap, e = .returned (.tuple #[.agg #[.int .i64 (hl.rhS a0 xs0 a1 c1), .slice ao (hl.rhW a0 xs0 a1 c1).length cap], .int .i64 (hl.rhC a0 xs0 a1 c1)]) ∧ sl.Own w' W.heap.size w'.heap.size (.slice ao (hl.rhW a0 xs0 a1 c1).length cap) (hl.rhW a0 xs0 a1 c1) ∧ Below W.heap.size W w') := sl.hid (fun g0_0 W B0 j0 l0 => rh5.implR a0 xs0 a1 c1 g0_0 B0 W j0 l0 HQ0.out )
    have hr0 : (hl.rhW a0 xs0 a1 c1).length ≤ 20000 := Nat.le_trans (hl.rh_len a0 xs0 a1 c1) (by omega)
    have hr : (hl.rhW a0 xs0 a1 c1).length ≤ 1099511627776 := by omega
    clear hr0
    generalize hl.rhW a0 xs0 a1 c1 = zr at *
    generalize hl.rhS a0 xs0 a1 c1 = sr at *
    generalize hl.rhC a0 xs0 a1 c1 = q1 at *
    clear hi0 ha0 ha1 hc1
    go_enter Try.func9, Try.ntmps9
    go_wp2_with fail
    have bE : Below w.heap.size w ((w.alloc (.cells #[.int .i64 a0, f0_0] 37)).alloc (.cells #[.int .i64 a1, .int .i64 c1] 55)) := (((Below.refl w.heap.size w).alloc (by simp) _).alloc (by simp) _)
    have hzW0 : w.heap.size + 2 ≤ ((w.alloc (.cells #[.int .i64 a0, f0_0] 37)).alloc (.cells #[.int .i64 a1, .int .i64 c1] 55)).heap.size := by simp
    have kp0_0W0 : ((w.alloc (.cells #[.int .i64 a0, f0_0] 37)).alloc (.cells #[.int .i64 a1, .int .i64 c1] 55)).cell? ⟨w.heap.size, 0, none⟩ = some (.int .i64 a0) := (World.cell?_alloc_past _ _ _ (by first | (simp; done) | (simp; omega))).trans (World.cell?_alloc_at _ _ _ _ (by simp))
    have kp0_1W0 : ((w.alloc (.cells #[.int .i64 a0, f0_0] 37)).alloc (.cells #[.int .i64 a1, .int .i64 c1] 55)).cell? ⟨w.heap.size, 1, none⟩ = some (f0_0) := (World.cell?_alloc_past _ _ _ (by first | (simp; done) | (simp; omega))).trans (World.cell?_alloc_at _ _ _ _ (by simp))
    have kp1_0W0 : ((w.alloc (.cells #[.int .i64 a0, f0_0] 37)).alloc (.cells #[.int .i64 a1, .int .i64 c1] 55)).cell? ⟨w.heap.size + 1, 0, none⟩ = some (.int .i64 a1) := World.cell?_alloc_at _ _ _ _ (by simp)
    have kp1_1W0 : ((w.alloc (.cells #[.int .i64 a0, f0_0] 37)).alloc (.cells #[.int .i64 a1, .int .i64 c1] 55)).cell? ⟨w.heap.size + 1, 1, none⟩ = some (.int .i64 c1) := World.cell?_alloc_at _ _ _ _ (by simp)
    have A0W0 := sl.hid (HI0.out.chg (sl.Chg.ofBelow (lo := 0) bE) (.inr (Nat.zero_le _)))
    have CW0 := sl.hid bE
    clear bE HI0
    generalize ((w.alloc (.cells #[.int .i64 a0, f0_0] 37)).alloc (.cells #[.int .i64 a1, .int .i64 c1] 55)) = W0 at *
    go_wp2_with fail
    refine (HZ0.out W0 _ A0W0.out).mono ?_
    rintro e W2 ⟨rfl, b2⟩
    have hzW2 : W0.heap.size ≤ W2.heap.size := b2.size
    have kp0_0W2 := (b2.cell (p := ⟨w.heap.size, 0, none⟩) (by show w.heap.size < W0.heap.size; omega)).trans kp0_0W0
    have kp0_1W2 := (b2.cell (p := ⟨w.heap.size, 1, none⟩) (by show w.heap.size < W0.heap.size; omega)).trans kp0_1W0
    have kp1_0W2 := (b2.cell (p := ⟨w.heap.size + 1, 0, none⟩) (by show w.heap.size + 1 < W0.heap.size; omega)).trans kp1_0W0
    have kp1_1W2 := (b2.cell (p := ⟨w.heap.size + 1, 1, none⟩) (by show w.heap.size + 1 < W0.heap.size; omega)).trans kp1_1W0
    have A0W2 := sl.hid (A0W0.out.chg (sl.Chg.ofBelow (lo := 0) b2) (.inr (Nat.zero_le _)))
    have CW2 := sl.hid (CW0.out.trans (b2.mono (by show w.heap.size ≤ W0.heap.size; omega)))
    clear b2 kp0_0W0 kp0_1W0 kp1_0W0 kp1_1W0 A0W0 CW0
    go_upto_region 5 with fail
    have HKW2 : Hid (rh5.Kh (fun X : World => sl.Ints X w.heap.size (f0_0) xs0) W2 (w.heap.size) (w.heap.size + 1) a0 (f0_0) a1 c1 W2) := sl.hid ⟨kp0_0W2, kp0_1W2, kp1_0W2, kp1_1W2, by omega, by omega, Nat.le_refl _, A0W2.out, rh5.ints_js, Below.refl _ _⟩
    have TBW2 : Hid (∀ X : World, rh5.Kh (fun X : World => sl.Ints X w.heap.size (f0_0) xs0) W2 (w.heap.size) (w.heap.size + 1) a0 (f0_0) a1 c1 X → Calls Try.prog 29 #[.agg #[.int .i64 a0, f0_0]] X fun e X' => ∃ f', e = .returned (.agg #[.int .i64 a0, f']) ∧ rh5.Iq X' f' xs0 ∧ Below X.heap.size X X') := sl.hid (fun X k => (l5.toR a0 xs0 _ _ X k.j (by have := k.ls; have := k.lm; omega) HQ0.out).mono (by rintro e X2 ⟨f', rfl, o, b⟩; exact ⟨f', rfl, ⟨_, Nat.le_refl _, o.c⟩, b⟩))
    have JPW2 : Hid (∀ (X : World) (u : Value), rh5.Iq X u xs0 → Calls Try.prog 40 #[.agg #[.int .i64 a0, u], .agg #[.int .i64 a1, .int .i64 c1]] X fun e X' => ∃ ao cap, e = .returned (.tuple #[.agg #[.int .i64 sr, .slice ao zr.length cap], .int .i64 q1]) ∧ sl.Own X' X.heap.size X'.heap.size (.slice ao zr.length cap) zr ∧ Below X.heap.size X X') := sl.hid (fun X u k => by obtain ⟨B, hB, h⟩ := k; exact SP.out u X B h hB)
    have hnmW2 : ¬ (w.heap.size = W2.heap.size) := by omega
    have hvmW2 : ¬ (W2.heap.size = w.heap.size) := by omega
    have hndW2 : ¬ (w.heap.size + 1 = W2.heap.size) := by omega
    have hvdW2 : ¬ (W2.heap.size = w.heap.size + 1) := by omega
    go_cut [6, 7] from 21 to 28 (fun p q wc => ∃ (g : Nat) (ao : Option Addr) (cap lo hi : Nat), p = .pointer (some ⟨g, 0, none⟩) ∧ q = .int .i64 q1 ∧ rh5.Rq W2 sr zr g ao cap lo hi wc)
    case first =>
      go_region_held3 (fun w' => w'.cell? ⟨w.heap.size, 0, none⟩ = some (.int .i64 a0) ∧ w'.cell? ⟨w.heap.size, 1, none⟩ = some (f0_0) ∧ w'.cell? ⟨w.heap.size + 1, 0, none⟩ = some (.int .i64 a1) ∧ w'.cell? ⟨w.heap.size + 1, 1, none⟩ = some (.int .i64 c1)) (go_keep)
        (first
          | (go_at_call_of 29 (Value.agg #[.int .i64 a0, f0_0])
             have hchk := HTY1
             refine (TBW2.out _ ?_).mono ?_
             · (first | exact HKA.out | exact HKA.out.drew | exact HKA.out.alloc _ | exact (HKA.out.alloc _).drew | exact (HKA.out.drew).alloc _)
             rintro e Y2 ⟨gc, rfl, ic, bb⟩
             have HCY2 := sl.hid ic
             clear ic
             have HKB := sl.hid ((show rh5.Kh (fun X : World => sl.Ints X w.heap.size (f0_0) xs0) W2 (w.heap.size) (w.heap.size + 1) a0 (f0_0) a1 c1 _ from by (first | exact HKA.out | exact HKA.out.drew | exact HKA.out.alloc _ | exact (HKA.out.alloc _).drew | exact (HKA.out.drew).alloc _)).below bb)
             obtain ⟨hcY2, hfY2⟩ := br.bcell bb
             have hzY2 := bb.size
             obtain ⟨rY2_0, rY2_1, rY2_2, rY2_3, hlmY2, hldY2, hlsY2, hjjY2, hstY2, hblY2⟩ := HKB.out
             clear hjjY2 hstY2 hblY2
             have hnmY2 : ¬ (w.heap.size = Y2.heap.size) := by omega
             have hvmY2 : ¬ (Y2.heap.size = w.heap.size) := by omega
             have hndY2 : ¬ (w.heap.size + 1 = Y2.heap.size) := by omega
             have hvdY2 : ¬ (Y2.heap.size = w.heap.size + 1) := by omega
             try simp at hcY2
             try simp at hfY2
             try simp at hzY2
             try have hqW2Y2 : W2.heap.size < Y2.heap.size := by omega
             try have hqY1Y2 : Y1.heap.size < Y2.heap.size := by omega
             try have hrY2 : Y1.heap.size ≤ Y2.heap.size := by first | exact hzY2 | omega
             clear bb hchk)
          | (go_at_call_of 41 (Value.agg #[.int .i64 a1, .int .i64 c1])
             have hchk := HCY1
             refine (l5.toH a1 c1 _).mono ?_
             rintro e Y2 ⟨rfl, bb⟩
             have HTY2 := sl.hid True.intro
             have HCY2 := sl.hid ((show rh5.Iq _ gc xs0 from by (first | exact HCY1.out | exact HCY1.out.drew | exact HCY1.out.alloc _ | exact (HCY1.out.alloc _).drew | exact (HCY1.out.drew).alloc _)).below bb)
             have HKB := sl.hid ((show rh5.Kh (fun X : World => sl.Ints X w.heap.size (f0_0) xs0) W2 (w.heap.size) (w.heap.size + 1) a0 (f0_0) a1 c1 _ from by (first | exact HKA.out | exact HKA.out.drew | exact HKA.out.alloc _ | exact (HKA.out.alloc _).drew | exact (HKA.out.drew).alloc _)).below bb)
             obtain ⟨hcY2, hfY2⟩ := br.bcell bb
             have hzY2 := bb.size
             obtain ⟨rY2_0, rY2_1, rY2_2, rY2_3, hlmY2, hldY2, hlsY2, hjjY2, hstY2, hblY2⟩ := HKB.out
             clear hjjY2 hstY2 hblY2
             have hnmY2 : ¬ (w.heap.size = Y2.heap.size) := by omega
             have hvmY2 : ¬ (Y2.heap.size = w.heap.size) := by omega
             have hndY2 : ¬ (w.heap.size + 1 = Y2.heap.size) := by omega
             have hvdY2 : ¬ (Y2.heap.size = w.heap.size + 1) := by omega
             try simp at hcY2
             try simp at hfY2
             try simp at hzY2
             try have hqW2Y2 : W2.heap.size < Y2.heap.size := by omega
             try have hqY1Y2 : Y1.heap.size < Y2.heap.size := by omega
             try have hrY2 : Y1.heap.size ≤ Y2.heap.size := by first | exact hzY2 | omega
             clear bb hchk)
          | (go_at_call_of 29 (Value.agg #[.int .i64 a0, f0_0])
             refine (TBW2.out _ ?_).mono ?_
             · (first | exact HKW2.out | exact HKW2.out.drew | exact HKW2.out.alloc _ | exact (HKW2.out.alloc _).drew | exact (HKW2.out.drew).alloc _)
             rintro e Y1 ⟨gc, rfl, ic, bb⟩
             have HCY1 := sl.hid ic
             clear ic
             have HKA := sl.hid ((show rh5.Kh (fun X : World => sl.Ints X w.heap.size (f0_0) xs0) W2 (w.heap.size) (w.heap.size + 1) a0 (f0_0) a1 c1 _ from by (first | exact HKW2.out | exact HKW2.out.drew | exact HKW2.out.alloc _ | exact (HKW2.out.alloc _).drew | exact (HKW2.out.drew).alloc _)).below bb)
             obtain ⟨hcY1, hfY1⟩ := br.bcell bb
             have hzY1 := bb.size
             obtain ⟨rY1_0, rY1_1, rY1_2, rY1_3, hlmY1, hldY1, hlsY1, hjjY1, hstY1, hblY1⟩ := HKA.out
             clear hjjY1 hstY1 hblY1
             have hnmY1 : ¬ (w.heap.size = Y1.heap.size) := by omega
             have hvmY1 : ¬ (Y1.heap.size = w.heap.size) := by omega
             have hndY1 : ¬ (w.heap.size + 1 = Y1.heap.size) := by omega
             have hvdY1 : ¬ (Y1.heap.size = w.heap.size + 1) := by omega
             try simp at hcY1
             try simp at hfY1
             try simp at hzY1
             try have hqW2Y1 : W2.heap.size < Y1.heap.size := by omega
             try have hrY1 : W2.heap.size ≤ Y1.heap.size := by first | exact hzY1 | omega
             clear bb)
          | (go_at_call_of 41 (Value.agg #[.int .i64 a1, .int .i64 c1])
             refine (l5.toH a1 c1 _).mono ?_
             rintro e Y1 ⟨rfl, bb⟩
             have HTY1 := sl.hid True.intro
             have HKA := sl.hid ((show rh5.Kh (fun X : World => sl.Ints X w.heap.size (f0_0) xs0) W2 (w.heap.size) (w.heap.size + 1) a0 (f0_0) a1 c1 _ from by (first | exact HKW2.out | exact HKW2.out.drew | exact HKW2.out.alloc _ | exact (HKW2.out.alloc _).drew | exact (HKW2.out.drew).alloc _)).below bb)
             obtain ⟨hcY1, hfY1⟩ := br.bcell bb
             have hzY1 := bb.size
             obtain ⟨rY1_0, rY1_1, rY1_2, rY1_3, hlmY1, hldY1, hlsY1, hjjY1, hstY1, hblY1⟩ := HKA.out
             clear hjjY1 hstY1 hblY1
             have hnmY1 : ¬ (w.heap.size = Y1.heap.size) := by omega
             have hvmY1 : ¬ (Y1.heap.size = w.heap.size) := by omega
             have hndY1 : ¬ (w.heap.size + 1 = Y1.heap.size) := by omega
             have hvdY1 : ¬ (Y1.heap.size = w.heap.size + 1) := by omega
             try simp at hcY1
             try simp at hfY1
             try simp at hzY1
             try have hqW2Y1 : W2.heap.size < Y1.heap.size := by omega
             try have hrY1 : W2.heap.size ≤ Y1.heap.size := by first | exact hzY1 | omega
             clear bb)
          | (go_at_call 40
             refine (JPW2.out _ _ ?_).mono ?_
             · (first | exact HCY2.out | exact HCY2.out.drew | exact HCY2.out.alloc _ | exact (HCY2.out.alloc _).drew | exact (HCY2.out.drew).alloc _)
             rintro e Y3 ⟨aor, capr, rfl, oR, bb⟩
             have HO := sl.hid oR
             have HKC := sl.hid ((show rh5.Kh (fun X : World => sl.Ints X w.heap.size (f0_0) xs0) W2 (w.heap.size) (w.heap.size + 1) a0 (f0_0) a1 c1 _ from by (first | exact HKB.out | exact HKB.out.drew | exact HKB.out.alloc _ | exact (HKB.out.alloc _).drew | exact (HKB.out.drew).alloc _)).below bb)
             obtain ⟨hcY3, hfY3⟩ := br.bcell bb
             have hzY3 := bb.size
             obtain ⟨rY3_0, rY3_1, rY3_2, rY3_3, hlmY3, hldY3, hlsY3, hjjY3, hstY3, hblY3⟩ := HKC.out
             clear hjjY3 hstY3 hblY3
             have hnmY3 : ¬ (w.heap.size = Y3.heap.size) := by omega
             have hvmY3 : ¬ (Y3.heap.size = w.heap.size) := by omega
             have hndY3 : ¬ (w.heap.size + 1 = Y3.heap.size) := by omega
             have hvdY3 : ¬ (Y3.heap.size = w.heap.size + 1) := by omega
             try simp at hcY3
             try simp at hfY3
             try simp at hzY3
             try have hqW2Y3 : W2.heap.size < Y3.heap.size := by omega
             try have hqY1Y3 : Y1.heap.size < Y3.heap.size := by omega
             try have hqY2Y3 : Y2.heap.size < Y3.heap.size := by omega
             try have hrY3 : Y2.heap.size ≤ Y3.heap.size := by first | exact hzY3 | omega
             clear bb oR))
      all_goals
        go_wp2_with fail
        go_meet
        first
          | exact ⟨_, aor, capr, _, _, rfl, rfl, rh5.meetA HKC.out.bl HO.out (by first | omega | (simp; done) | (simp; omega))⟩
          | exact ⟨_, aor, capr, _, _, rfl, rfl, rh5.meetB HKC.out.bl HO.out (by first | omega | (simp; done) | (simp; omega)) W2.heap.size (by first | omega | (simp; done) | (simp; omega)) (by first | omega | (simp; done) | (simp; omega)) (by first | omega | (simp; done) | (simp; omega)) ((hcY3 _ _ (by first | omega | (simp; done) | (simp; omega))).trans ((hcY2 _ _ (by first | omega | (simp; done) | (simp; omega))).trans ((hcY1 _ _ (by first | omega | (simp; done) | (simp; omega))).trans (World.cell?_alloc_at _ _ _ _ rfl)))) ((hcY3 _ _ (by first | omega | (simp; done) | (simp; omega))).trans ((hcY2 _ _ (by first | omega | (simp; done) | (simp; omega))).trans ((hcY1 _ _ (by first | omega | (simp; done) | (simp; omega))).trans (World.cell?_alloc_at _ _ _ _ rfl))))⟩
          | exact ⟨_, aor, capr, _, _, rfl, rfl, rh5.meetB HKC.out.bl HO.out (by first | omega | (simp; done) | (simp; omega)) Y1.heap.size (by first | omega | (simp; done) | (simp; omega)) (by first | omega | (simp; done) | (simp; omega)) (by first | omega | (simp; done) | (simp; omega)) ((hcY3 _ _ (by first | omega | (simp; done) | (simp; omega))).trans ((hcY2 _ _ (by first | omega | (simp; done) | (simp; omega))).trans (World.cell?_alloc_at _ _ _ _ rfl))) ((hcY3 _ _ (by first | omega | (simp; done) | (simp; omega))).trans ((hcY2 _ _ (by first | omega | (simp; done) | (simp; omega))).trans (World.cell?_alloc_at _ _ _ _ rfl)))⟩
          | exact ⟨_, aor, capr, _, _, rfl, rfl, rh5.meetB HKC.out.bl HO.out (by first | omega | (simp; done) | (simp; omega)) Y2.heap.size (by first | omega | (simp; done) | (simp; omega)) (by first | omega | (simp; done) | (simp; omega)) (by first | omega | (simp; done) | (simp; omega)) ((hcY3 _ _ (by first | omega | (simp; done) | (simp; omega))).trans (World.cell?_alloc_at _ _ _ _ rfl)) ((hcY3 _ _ (by first | omega | (simp; done) | (simp; omega))).trans (World.cell?_alloc_at _ _ _ _ rfl))⟩
    case rest =>
      obtain ⟨g3, ao3, cap3, lo3, hi3, rfl, rfl, c03, c13, o3, hlo3, hhi3, hgd3, hg3, hk3, b3⟩ := hcut
      generalize wc = W3 at *
      have On3 := sl.hid o3
      clear o3
      have hzW3 : W2.heap.size ≤ W3.heap.size := b3.size
      have kp0_0W3 := (b3.cell (p := ⟨w.heap.size, 0, none⟩) (by show w.heap.size < W2.heap.size; omega)).trans kp0_0W2
      have kp0_1W3 := (b3.cell (p := ⟨w.heap.size, 1, none⟩) (by show w.heap.size < W2.heap.size; omega)).trans kp0_1W2
      have kp1_0W3 := (b3.cell (p := ⟨w.heap.size + 1, 0, none⟩) (by show w.heap.size + 1 < W2.heap.size; omega)).trans kp1_0W2
      have kp1_1W3 := (b3.cell (p := ⟨w.heap.size + 1, 1, none⟩) (by show w.heap.size + 1 < W2.heap.size; omega)).trans kp1_1W2
      have A0W3 := sl.hid (A0W2.out.chg (sl.Chg.ofBelow (lo := 0) b3) (.inr (Nat.zero_le _)))
      have CW3 := sl.hid (CW2.out.trans (b3.mono (by show w.heap.size ≤ W2.heap.size; omega)))
      clear b3 kp0_0W2 kp0_1W2 kp1_0W2 kp1_1W2 A0W2 CW2 HKW2 TBW2 JPW2
      go_wp2_with fail
      refine (l5.toR a0 xs0 f0_0 _ W3 A0W3.out (by omega) HQ0.out).mono ?_
      rintro e W4 ⟨f0_0_4, rfl, o4, b4⟩
      obtain ⟨ao4_0, ln4_0, cp4_0, rfl⟩ := l5.rval o4
      have On4 := sl.hid o4
      clear o4
      have hzW4 : W3.heap.size ≤ W4.heap.size := b4.size
      have kp0_0W4 := (b4.cell (p := ⟨w.heap.size, 0, none⟩) (by show w.heap.size < W3.heap.size; omega)).trans kp0_0W3
      have kp0_1W4 := (b4.cell (p := ⟨w.heap.size, 1, none⟩) (by show w.heap.size < W3.heap.size; omega)).trans kp0_1W3
      have kp1_0W4 := (b4.cell (p := ⟨w.heap.size + 1, 0, none⟩) (by show w.heap.size + 1 < W3.heap.size; omega)).trans kp1_0W3
      have kp1_1W4 := (b4.cell (p := ⟨w.heap.size + 1, 1, none⟩) (by show w.heap.size + 1 < W3.heap.size; omega)).trans kp1_1W3
      have kbr_0W4 := (b4.cell (p := ⟨g3, 0, none⟩) (by show g3 < W3.heap.size; omega)).trans c03
      have kbr_1W4 := (b4.cell (p := ⟨g3, 1, none⟩) (by show g3 < W3.heap.size; omega)).trans c13
      have A0W4 := sl.hid (A0W3.out.chg (sl.Chg.ofBelow (lo := 0) b4) (.inr (Nat.zero_le _)))
      have OrW4 := sl.hid (On3.out.chg (sl.Chg.ofBelow (lo := 0) b4) (.inr (.inr (Nat.zero_le _))))
      have CW4 := sl.hid (CW3.out.trans (b4.mono (by show w.heap.size ≤ W3.heap.size; omega)))
      clear b4 kp0_0W3 kp0_1W3 kp1_0W3 kp1_1W3 c03 c13 A0W3 On3 CW3
      have bE : Below W4.heap.size W4 (W4.alloc (.cells #[.int .i64 a0, .slice ao4_0 ln4_0 cp4_0] 39)) := (Below.refl _ _).alloc (Nat.le_refl _) _
      have kx0_0W5 : (W4.alloc (.cells #[.int .i64 a0, .slice ao4_0 ln4_0 cp4_0] 39)).cell? ⟨W4.heap.size, 0, none⟩ = some (.int .i64 a0) := World.cell?_alloc_at _ _ _ _ rfl
      have kx0_1W5 : (W4.alloc (.cells #[.int .i64 a0, .slice ao4_0 ln4_0 cp4_0] 39)).cell? ⟨W4.heap.size, 1, none⟩ = some (.slice ao4_0 ln4_0 cp4_0) := World.cell?_alloc_at _ _ _ _ rfl
      have hsW5 : W4.heap.size < (W4.alloc (.cells #[.int .i64 a0, .slice ao4_0 ln4_0 cp4_0] 39)).heap.size := by simp
      have hzW5 : W4.heap.size ≤ (W4.alloc (.cells #[.int .i64 a0, .slice ao4_0 ln4_0 cp4_0] 39)).heap.size := bE.size
      have kp0_0W5 := (bE.cell (p := ⟨w.heap.size, 0, none⟩) (by show w.heap.size < W4.heap.size; omega)).trans kp0_0W4
      have kp0_1W5 := (bE.cell (p := ⟨w.heap.size, 1, none⟩) (by show w.heap.size < W4.heap.size; omega)).trans kp0_1W4
      have kp1_0W5 := (bE.cell (p := ⟨w.heap.size + 1, 0, none⟩) (by show w.heap.size + 1 < W4.heap.size; omega)).trans kp1_0W4
      have kp1_1W5 := (bE.cell (p := ⟨w.heap.size + 1, 1, none⟩) (by show w.heap.size + 1 < W4.heap.size; omega)).trans kp1_1W4
      have kbr_0W5 := (bE.cell (p := ⟨g3, 0, none⟩) (by show g3 < W4.heap.size; omega)).trans kbr_0W4
      have kbr_1W5 := (bE.cell (p := ⟨g3, 1, none⟩) (by show g3 < W4.heap.size; omega)).trans kbr_1W4
      have A0W5 := sl.hid (A0W4.out.chg (sl.Chg.ofBelow (lo := 0) bE) (.inr (Nat.zero_le _)))
      have OrW5 := sl.hid (OrW4.out.chg (sl.Chg.ofBelow (lo := 0) bE) (.inr (.inr (Nat.zero_le _))))
      have Ox0W5 := sl.hid (On4.out.chg (sl.Chg.ofBelow (lo := 0) bE) (.inr (.inr (Nat.zero_le _))))
      have CW5 := sl.hid (CW4.out.trans (bE.mono (by show w.heap.size ≤ W4.heap.size; omega)))
      clear bE kp0_0W4 kp0_1W4 kp1_0W4 kp1_1W4 kbr_0W4 kbr_1W4 A0W4 OrW4 On4 CW4
      go_upto_region 7 with fail
      generalize (W4.alloc (.cells #[.int .i64 a0, .slice ao4_0 ln4_0 cp4_0] 39)) = W5 at *
      have HKW5 : Hid (rh5.Kh (fun X : World => rh5.Iq X (.slice ao4_0 ln4_0 cp4_0) xs0) W5 (W4.heap.size) (w.heap.size + 1) a0 (.slice ao4_0 ln4_0 cp4_0) a1 c1 W5) := sl.hid ⟨kx0_0W5, kx0_1W5, kp1_0W5, kp1_1W5, by omega, by omega, Nat.le_refl _, ⟨_, by omega, Ox0W5.out.c⟩, fun X X' h b => h.below b, Below.refl _ _⟩
      have JPW5 : Hid (∀ (X : World) (u : Value), rh5.Iq X u xs0 → Calls Try.prog 42 #[.agg #[.int .i64 a0, u], .agg #[.int .i64 a1, .int .i64 c1]] X fun e X' => ∃ ao cap, e = .returned (.tuple #[.agg #[.int .i64 sr, .slice ao zr.length cap], .int .i64 q1]) ∧ sl.Own X' X.heap.size X'.heap.size (.slice ao zr.length cap) zr ∧ Below X.heap.size X X') := sl.hid (fun X u k => by obtain ⟨B, hB, h⟩ := k; exact IP.out u X B h hB)
      have hnmW5 : ¬ (W4.heap.size = W5.heap.size) := by omega
      have hvmW5 : ¬ (W5.heap.size = W4.heap.size) := by omega
      have hndW5 : ¬ (w.heap.size + 1 = W5.heap.size) := by omega
      have hvdW5 : ¬ (W5.heap.size = w.heap.size + 1) := by omega
      go_cut [9, 10] from 31 to 37 (fun p q wc => ∃ (g : Nat) (ao : Option Addr) (cap lo hi : Nat), p = .pointer (some ⟨g, 0, none⟩) ∧ q = .int .i64 q1 ∧ rh5.Rq W5 sr zr g ao cap lo hi wc)
      case first =>
        go_region_held3 (fun w' => w'.cell? ⟨W4.heap.size, 0, none⟩ = some (.int .i64 a0) ∧ w'.cell? ⟨W4.heap.size, 1, none⟩ = some (.slice ao4_0 ln4_0 cp4_0) ∧ w'.cell? ⟨w.heap.size + 1, 0, none⟩ = some (.int .i64 a1) ∧ w'.cell? ⟨w.heap.size + 1, 1, none⟩ = some (.int .i64 c1)) (go_keep)
          (first
            | (go_at_call_of 41 (Value.agg #[.int .i64 a1, .int .i64 c1])
               refine (l5.toH a1 c1 _).mono ?_
               rintro e Y1 ⟨rfl, bb⟩
               have HTY1 := sl.hid True.intro
               have HKA := sl.hid ((show rh5.Kh (fun X : World => rh5.Iq X (.slice ao4_0 ln4_0 cp4_0) xs0) W5 (W4.heap.size) (w.heap.size + 1) a0 (.slice ao4_0 ln4_0 cp4_0) a1 c1 _ from by (first | exact HKW5.out | exact HKW5.out.drew | exact HKW5.out.alloc _ | exact (HKW5.out.alloc _).drew | exact (HKW5.out.drew).alloc _)).below bb)
               obtain ⟨hcY1, hfY1⟩ := br.bcell bb
               have hzY1 := bb.size
               obtain ⟨rY1_0, rY1_1, rY1_2, rY1_3, hlmY1, hldY1, hlsY1, hjjY1, hstY1, hblY1⟩ := HKA.out
               clear hjjY1 hstY1 hblY1
               have hnmY1 : ¬ (W4.heap.size = Y1.heap.size) := by omega
               have hvmY1 : ¬ (Y1.heap.size = W4.heap.size) := by omega
               have hndY1 : ¬ (w.heap.size + 1 = Y1.heap.size) := by omega
               have hvdY1 : ¬ (Y1.heap.size = w.heap.size + 1) := by omega
               try simp at hcY1
               try simp at hfY1
               try simp at hzY1
               try have hqW5Y1 : W5.heap.size < Y1.heap.size := by omega
               try have hrY1 : W5.heap.size ≤ Y1.heap.size := by first | exact hzY1 | omega
               clear bb)
            | (go_at_call 42
               refine (JPW5.out _ _ ?_).mono ?_
               · (exact (show rh5.Kh (fun X : World => rh5.Iq X (.slice ao4_0 ln4_0 cp4_0) xs0) W5 (W4.heap.size) (w.heap.size + 1) a0 (.slice ao4_0 ln4_0 cp4_0) a1 c1 _ from by (first | exact HKA.out | exact HKA.out.drew | exact HKA.out.alloc _ | exact (HKA.out.alloc _).drew | exact (HKA.out.drew).alloc _)).j)
               rintro e Y2 ⟨aor, capr, rfl, oR, bb⟩
               have HO := sl.hid oR
               have HKB := sl.hid ((show rh5.Kh (fun X : World => rh5.Iq X (.slice ao4_0 ln4_0 cp4_0) xs0) W5 (W4.heap.size) (w.heap.size + 1) a0 (.slice ao4_0 ln4_0 cp4_0) a1 c1 _ from by (first | exact HKA.out | exact HKA.out.drew | exact HKA.out.alloc _ | exact (HKA.out.alloc _).drew | exact (HKA.out.drew).alloc _)).below bb)
               obtain ⟨hcY2, hfY2⟩ := br.bcell bb
               have hzY2 := bb.size
               obtain ⟨rY2_0, rY2_1, rY2_2, rY2_3, hlmY2, hldY2, hlsY2, hjjY2, hstY2, hblY2⟩ := HKB.out
               clear hjjY2 hstY2 hblY2
               have hnmY2 : ¬ (W4.heap.size = Y2.heap.size) := by omega
               have hvmY2 : ¬ (Y2.heap.size = W4.heap.size) := by omega
               have hndY2 : ¬ (w.heap.size + 1 = Y2.heap.size) := by omega
               have hvdY2 : ¬ (Y2.heap.size = w.heap.size + 1) := by omega
               try simp at hcY2
               try simp at hfY2
               try simp at hzY2
               try have hqW5Y2 : W5.heap.size < Y2.heap.size := by omega
               try have hqY1Y2 : Y1.heap.size < Y2.heap.size := by omega
               try have hrY2 : Y1.heap.size ≤ Y2.heap.size := by first | exact hzY2 | omega
               clear bb oR))
        all_goals
          go_wp2_with fail
          go_meet
          first
            | exact ⟨_, aor, capr, _, _, rfl, rfl, rh5.meetA HKB.out.bl HO.out (by first | omega | (simp; done) | (simp; omega))⟩
            | exact ⟨_, aor, capr, _, _, rfl, rfl, rh5.meetB HKB.out.bl HO.out (by first | omega | (simp; done) | (simp; omega)) W5.heap.size (by first | omega | (simp; done) | (simp; omega)) (by first | omega | (simp; done) | (simp; omega)) (by first | omega | (simp; done) | (simp; omega)) ((hcY2 _ _ (by first | omega | (simp; done) | (simp; omega))).trans ((hcY1 _ _ (by first | omega | (simp; done) | (simp; omega))).trans (World.cell?_alloc_at _ _ _ _ rfl))) ((hcY2 _ _ (by first | omega | (simp; done) | (simp; omega))).trans ((hcY1 _ _ (by first | omega | (simp; done) | (simp; omega))).trans (World.cell?_alloc_at _ _ _ _ rfl)))⟩
            | exact ⟨_, aor, capr, _, _, rfl, rfl, rh5.meetB HKB.out.bl HO.out (by first | omega | (simp; done) | (simp; omega)) Y1.heap.size (by first | omega | (simp; done) | (simp; omega)) (by first | omega | (simp; done) | (simp; omega)) (by first | omega | (simp; done) | (simp; omega)) ((hcY2 _ _ (by first | omega | (simp; done) | (simp; omega))).trans (World.cell?_alloc_at _ _ _ _ rfl)) ((hcY2 _ _ (by first | omega | (simp; done) | (simp; omega))).trans (World.cell?_alloc_at _ _ _ _ rfl))⟩
      case rest =>
        obtain ⟨g6, ao6, cap6, lo6, hi6, rfl, rfl, c06, c16, o6, hlo6, hhi6, hgd6, hg6, hk6, b6⟩ := hcut
        generalize wc = W6 at *
        have On6 := sl.hid o6
        clear o6
        have hzW6 : W5.heap.size ≤ W6.heap.size := b6.size
        have kp0_0W6 := (b6.cell (p := ⟨w.heap.size, 0, none⟩) (by show w.heap.size < W5.heap.size; omega)).trans kp0_0W5
        have kp0_1W6 := (b6.cell (p := ⟨w.heap.size, 1, none⟩) (by show w.heap.size < W5.heap.size; omega)).trans kp0_1W5
        have kp1_0W6 := (b6.cell (p := ⟨w.heap.size + 1, 0, none⟩) (by show w.heap.size + 1 < W5.heap.size; omega)).trans kp1_0W5
        have kp1_1W6 := (b6.cell (p := ⟨w.heap.size + 1, 1, none⟩) (by show w.heap.size + 1 < W5.heap.size; omega)).trans kp1_1W5
        have kbr_0W6 := (b6.cell (p := ⟨g3, 0, none⟩) (by show g3 < W5.heap.size; omega)).trans kbr_0W5
        have kbr_1W6 := (b6.cell (p := ⟨g3, 1, none⟩) (by show g3 < W5.heap.size; omega)).trans kbr_1W5
        have kx0_0W6 := (b6.cell (p := ⟨W4.heap.size, 0, none⟩) (by show W4.heap.size < W5.heap.size; omega)).trans kx0_0W5
        have kx0_1W6 := (b6.cell (p := ⟨W4.heap.size, 1, none⟩) (by show W4.heap.size < W5.heap.size; omega)).trans kx0_1W5
        have A0W6 := sl.hid (A0W5.out.chg (sl.Chg.ofBelow (lo := 0) b6) (.inr (Nat.zero_le _)))
        have OrW6 := sl.hid (OrW5.out.chg (sl.Chg.ofBelow (lo := 0) b6) (.inr (.inr (Nat.zero_le _))))
        have Ox0W6 := sl.hid (Ox0W5.out.chg (sl.Chg.ofBelow (lo := 0) b6) (.inr (.inr (Nat.zero_le _))))
        have CW6 := sl.hid (CW5.out.trans (b6.mono (by show w.heap.size ≤ W5.heap.size; omega)))
        clear b6 kp0_0W5 kp0_1W5 kp1_0W5 kp1_1W5 kbr_0W5 kbr_1W5 kx0_0W5 kx0_1W5 A0W5 OrW5 Ox0W5 CW5 HKW5  JPW5
        go_wp2_with fail
        refine (br.eqBS sr zr _ _ _ _ W6 On6.out.ints OrW6.out.ints hr).mono ?_
        rintro e W7 ⟨rfl, b7⟩
        have hzW7 : W6.heap.size ≤ W7.heap.size := b7.size
        have kp0_0W7 := (b7.cell (p := ⟨w.heap.size, 0, none⟩) (by show w.heap.size < W6.heap.size; omega)).trans kp0_0W6
        have kp0_1W7 := (b7.cell (p := ⟨w.heap.size, 1, none⟩) (by show w.heap.size < W6.heap.size; omega)).trans kp0_1W6
        have kp1_0W7 := (b7.cell (p := ⟨w.heap.size + 1, 0, none⟩) (by show w.heap.size + 1 < W6.heap.size; omega)).trans kp1_0W6
        have kp1_1W7 := (b7.cell (p := ⟨w.heap.size + 1, 1, none⟩) (by show w.heap.size + 1 < W6.heap.size; omega)).trans kp1_1W6
        have kbr_0W7 := (b7.cell (p := ⟨g3, 0, none⟩) (by show g3 < W6.heap.size; omega)).trans kbr_0W6
        have kbr_1W7 := (b7.cell (p := ⟨g3, 1, none⟩) (by show g3 < W6.heap.size; omega)).trans kbr_1W6
        have kx0_0W7 := (b7.cell (p := ⟨W4.heap.size, 0, none⟩) (by show W4.heap.size < W6.heap.size; omega)).trans kx0_0W6
        have kx0_1W7 := (b7.cell (p := ⟨W4.heap.size, 1, none⟩) (by show W4.heap.size < W6.heap.size; omega)).trans kx0_1W6
        have kbg_0W7 := (b7.cell (p := ⟨g6, 0, none⟩) (by show g6 < W6.heap.size; omega)).trans c06
        have kbg_1W7 := (b7.cell (p := ⟨g6, 1, none⟩) (by show g6 < W6.heap.size; omega)).trans c16
        have A0W7 := sl.hid (A0W6.out.chg (sl.Chg.ofBelow (lo := 0) b7) (.inr (Nat.zero_le _)))
        have OrW7 := sl.hid (OrW6.out.chg (sl.Chg.ofBelow (lo := 0) b7) (.inr (.inr (Nat.zero_le _))))
        have Ox0W7 := sl.hid (Ox0W6.out.chg (sl.Chg.ofBelow (lo := 0) b7) (.inr (.inr (Nat.zero_le _))))
        have OgW7 := sl.hid (On6.out.chg (sl.Chg.ofBelow (lo := 0) b7) (.inr (.inr (Nat.zero_le _))))
        have CW7 := sl.hid (CW6.out.trans (b7.mono (by show w.heap.size ≤ W6.heap.size; omega)))
        clear b7 kp0_0W6 kp0_1W6 kp1_0W6 kp1_1W6 kbr_0W6 kbr_1W6 kx0_0W6 kx0_1W6 c06 c16 A0W6 OrW6 Ox0W6 On6 CW6
        go_wp2_with fail
        have bD := (Below.refl W7.heap.size W7).drew
        have A0dW7 := sl.hid (A0W7.out.chg (sl.Chg.ofBelow (lo := 0) bD) (.inr (Nat.zero_le _)))
        have OrdW7 := sl.hid (OrW7.out.chg (sl.Chg.ofBelow (lo := 0) bD) (.inr (.inr (Nat.zero_le _))))
        have Ox0dW7 := sl.hid (Ox0W7.out.chg (sl.Chg.ofBelow (lo := 0) bD) (.inr (.inr (Nat.zero_le _))))
        have OgdW7 := sl.hid (OgW7.out.chg (sl.Chg.ofBelow (lo := 0) bD) (.inr (.inr (Nat.zero_le _))))
        have CdW7 := sl.hid (CW7.out.drew)
        clear bD A0W7 OrW7 Ox0W7 OgW7 CW7
        go_region_held3 (fun w' => w'.cell? ⟨w.heap.size, 0, none⟩ = some (.int .i64 a0) ∧ w'.cell? ⟨w.heap.size, 1, none⟩ = some (f0_0) ∧ w'.cell? ⟨W4.heap.size, 0, none⟩ = some (.int .i64 a0) ∧ w'.cell? ⟨W4.heap.size, 1, none⟩ = some (.slice ao4_0 ln4_0 cp4_0)) (go_keep)
          (first
            | (go_at_call 29
               refine (l5.toR a0 xs0 f0_0 _ _ A0dW7.out (by show w.heap.size ≤ W7.heap.size; omega) HQ0.out).mono ?_
               rintro e W9 ⟨fc0_0, rfl, oc0, bB⟩
               have HJ0 := sl.hid oc0.c
               have hzW9 : W7.heap.size ≤ W9.heap.size := bB.size
               have kp0_0W9 := (bB.cell (p := ⟨w.heap.size, 0, none⟩) (by show w.heap.size < W7.heap.size; omega)).trans kp0_0W7
               have kp0_1W9 := (bB.cell (p := ⟨w.heap.size, 1, none⟩) (by show w.heap.size < W7.heap.size; omega)).trans kp0_1W7
               have kp1_0W9 := (bB.cell (p := ⟨w.heap.size + 1, 0, none⟩) (by show w.heap.size + 1 < W7.heap.size; omega)).trans kp1_0W7
               have kp1_1W9 := (bB.cell (p := ⟨w.heap.size + 1, 1, none⟩) (by show w.heap.size + 1 < W7.heap.size; omega)).trans kp1_1W7
               have kbr_0W9 := (bB.cell (p := ⟨g3, 0, none⟩) (by show g3 < W7.heap.size; omega)).trans kbr_0W7
               have kbr_1W9 := (bB.cell (p := ⟨g3, 1, none⟩) (by show g3 < W7.heap.size; omega)).trans kbr_1W7
               have kx0_0W9 := (bB.cell (p := ⟨W4.heap.size, 0, none⟩) (by show W4.heap.size < W7.heap.size; omega)).trans kx0_0W7
               have kx0_1W9 := (bB.cell (p := ⟨W4.heap.size, 1, none⟩) (by show W4.heap.size < W7.heap.size; omega)).trans kx0_1W7
               have kbg_0W9 := (bB.cell (p := ⟨g6, 0, none⟩) (by show g6 < W7.heap.size; omega)).trans kbg_0W7
               have kbg_1W9 := (bB.cell (p := ⟨g6, 1, none⟩) (by show g6 < W7.heap.size; omega)).trans kbg_1W7
               have A0W9 := sl.hid (A0dW7.out.chg (sl.Chg.ofBelow (lo := 0) bB) (.inr (Nat.zero_le _)))
               have OrW9 := sl.hid (OrdW7.out.chg (sl.Chg.ofBelow (lo := 0) bB) (.inr (.inr (Nat.zero_le _))))
               have Ox0W9 := sl.hid (Ox0dW7.out.chg (sl.Chg.ofBelow (lo := 0) bB) (.inr (.inr (Nat.zero_le _))))
               have OgW9 := sl.hid (OgdW7.out.chg (sl.Chg.ofBelow (lo := 0) bB) (.inr (.inr (Nat.zero_le _))))
               have CW9 := sl.hid (CdW7.out.trans (bB.mono (by show w.heap.size ≤ W7.heap.size; omega)))
               clear oc0 bB kp0_0W7 kp0_1W7 kp1_0W7 kp1_1W7 kbr_0W7 kbr_1W7 kx0_0W7 kx0_1W7 kbg_0W7 kbg_1W7 A0dW7 OrdW7 Ox0dW7 OgdW7 CdW7)
            | (go_at_call 32
               refine (l5.eqRS a0 xs0 _ _ _ _ W9 Ox0W9.out.c HJ0.out HQ0.out).mono ?_
               rintro e W10 ⟨rfl, bC⟩
               have hzW10 : W9.heap.size ≤ W10.heap.size := bC.size
               have kp0_0W10 := (bC.cell (p := ⟨w.heap.size, 0, none⟩) (by show w.heap.size < W9.heap.size; omega)).trans kp0_0W9
               have kp0_1W10 := (bC.cell (p := ⟨w.heap.size, 1, none⟩) (by show w.heap.size < W9.heap.size; omega)).trans kp0_1W9
               have kp1_0W10 := (bC.cell (p := ⟨w.heap.size + 1, 0, none⟩) (by show w.heap.size + 1 < W9.heap.size; omega)).trans kp1_0W9
               have kp1_1W10 := (bC.cell (p := ⟨w.heap.size + 1, 1, none⟩) (by show w.heap.size + 1 < W9.heap.size; omega)).trans kp1_1W9
               have kbr_0W10 := (bC.cell (p := ⟨g3, 0, none⟩) (by show g3 < W9.heap.size; omega)).trans kbr_0W9
               have kbr_1W10 := (bC.cell (p := ⟨g3, 1, none⟩) (by show g3 < W9.heap.size; omega)).trans kbr_1W9
               have kx0_0W10 := (bC.cell (p := ⟨W4.heap.size, 0, none⟩) (by show W4.heap.size < W9.heap.size; omega)).trans kx0_0W9
               have kx0_1W10 := (bC.cell (p := ⟨W4.heap.size, 1, none⟩) (by show W4.heap.size < W9.heap.size; omega)).trans kx0_1W9
               have kbg_0W10 := (bC.cell (p := ⟨g6, 0, none⟩) (by show g6 < W9.heap.size; omega)).trans kbg_0W9
               have kbg_1W10 := (bC.cell (p := ⟨g6, 1, none⟩) (by show g6 < W9.heap.size; omega)).trans kbg_1W9
               have A0W10 := sl.hid (A0W9.out.chg (sl.Chg.ofBelow (lo := 0) bC) (.inr (Nat.zero_le _)))
               have OrW10 := sl.hid (OrW9.out.chg (sl.Chg.ofBelow (lo := 0) bC) (.inr (.inr (Nat.zero_le _))))
               have Ox0W10 := sl.hid (Ox0W9.out.chg (sl.Chg.ofBelow (lo := 0) bC) (.inr (.inr (Nat.zero_le _))))
               have OgW10 := sl.hid (OgW9.out.chg (sl.Chg.ofBelow (lo := 0) bC) (.inr (.inr (Nat.zero_le _))))
               have CW10 := sl.hid (CW9.out.trans (bC.mono (by show w.heap.size ≤ W9.heap.size; omega)))
               clear HJ0 bC kp0_0W9 kp0_1W9 kp1_0W9 kp1_1W9 kbr_0W9 kbr_1W9 kx0_0W9 kx0_1W9 kbg_0W9 kbg_1W9 A0W9 OrW9 Ox0W9 OgW9 CW9))
        go_wp2_with fail
        refine (ct.markR1 a0 xs0 _ _ _ 1 W10 Ox0W10.out HQ0.out (by omega) (by omega)).mono ?_
        rintro e W11 ⟨km11, rfl, hkm11, c11⟩
        have hkd11 : decide (km11 < 0) = false := by simp; omega
        clear Ox0W10
        have hzW11 : W10.heap.size ≤ W11.heap.size := c11.size
        have kp0_0W11 := (World.cell?_of_block (w := W10) (w' := W11) (a := ⟨w.heap.size, 0, none⟩) (c11.block (w.heap.size) (by omega) (by omega))).trans kp0_0W10
        have kp0_1W11 := (World.cell?_of_block (w := W10) (w' := W11) (a := ⟨w.heap.size, 1, none⟩) (c11.block (w.heap.size) (by omega) (by omega))).trans kp0_1W10
        have kp1_0W11 := (World.cell?_of_block (w := W10) (w' := W11) (a := ⟨w.heap.size + 1, 0, none⟩) (c11.block (w.heap.size + 1) (by omega) (by omega))).trans kp1_0W10
        have kp1_1W11 := (World.cell?_of_block (w := W10) (w' := W11) (a := ⟨w.heap.size + 1, 1, none⟩) (c11.block (w.heap.size + 1) (by omega) (by omega))).trans kp1_1W10
        have kbr_0W11 := (World.cell?_of_block (w := W10) (w' := W11) (a := ⟨g3, 0, none⟩) (c11.block (g3) (by omega) (by omega))).trans kbr_0W10
        have kbr_1W11 := (World.cell?_of_block (w := W10) (w' := W11) (a := ⟨g3, 1, none⟩) (c11.block (g3) (by omega) (by omega))).trans kbr_1W10
        have kbg_0W11 := (World.cell?_of_block (w := W10) (w' := W11) (a := ⟨g6, 0, none⟩) (c11.block (g6) (by omega) (by omega))).trans kbg_0W10
        have kbg_1W11 := (World.cell?_of_block (w := W10) (w' := W11) (a := ⟨g6, 1, none⟩) (c11.block (g6) (by omega) (by omega))).trans kbg_1W10
        have A0W11 := sl.hid (A0W10.out.chg c11 (by omega))
        have OrW11 := sl.hid (OrW10.out.chg c11 (by omega))
        have OgW11 := sl.hid (OgW10.out.chg c11 (by omega))
        have CW11 := sl.hid (CW10.out.trans (c11.below (by omega) (by omega)))
        clear c11 kp0_0W10 kp0_1W10 kp1_0W10 kp1_1W10 kbr_0W10 kbr_1W10 kbg_0W10 kbg_1W10 A0W10 OrW10 OgW10 CW10
        go_wp2_with fail
        refine (br.eqBS sr zr _ _ _ _ W11 OgW11.out.ints OrW11.out.ints hr).mono ?_
        rintro e W12 ⟨rfl, b12⟩
        have hzW12 : W11.heap.size ≤ W12.heap.size := b12.size
        have kp0_0W12 := (b12.cell (p := ⟨w.heap.size, 0, none⟩) (by show w.heap.size < W11.heap.size; omega)).trans kp0_0W11
        have kp0_1W12 := (b12.cell (p := ⟨w.heap.size, 1, none⟩) (by show w.heap.size < W11.heap.size; omega)).trans kp0_1W11
        have kp1_0W12 := (b12.cell (p := ⟨w.heap.size + 1, 0, none⟩) (by show w.heap.size + 1 < W11.heap.size; omega)).trans kp1_0W11
        have kp1_1W12 := (b12.cell (p := ⟨w.heap.size + 1, 1, none⟩) (by show w.heap.size + 1 < W11.heap.size; omega)).trans kp1_1W11
        have kbr_0W12 := (b12.cell (p := ⟨g3, 0, none⟩) (by show g3 < W11.heap.size; omega)).trans kbr_0W11
        have kbr_1W12 := (b12.cell (p := ⟨g3, 1, none⟩) (by show g3 < W11.heap.size; omega)).trans kbr_1W11
        have kbg_0W12 := (b12.cell (p := ⟨g6, 0, none⟩) (by show g6 < W11.heap.size; omega)).trans kbg_0W11
        have kbg_1W12 := (b12.cell (p := ⟨g6, 1, none⟩) (by show g6 < W11.heap.size; omega)).trans kbg_1W11
        have A0W12 := sl.hid (A0W11.out.chg (sl.Chg.ofBelow (lo := 0) b12) (.inr (Nat.zero_le _)))
        have OrW12 := sl.hid (OrW11.out.chg (sl.Chg.ofBelow (lo := 0) b12) (.inr (.inr (Nat.zero_le _))))
        have OgW12 := sl.hid (OgW11.out.chg (sl.Chg.ofBelow (lo := 0) b12) (.inr (.inr (Nat.zero_le _))))
        have CW12 := sl.hid (CW11.out.trans (b12.mono (by show w.heap.size ≤ W11.heap.size; omega)))
        clear b12 kp0_0W11 kp0_1W11 kp1_0W11 kp1_1W11 kbr_0W11 kbr_1W11 kbg_0W11 kbg_1W11 A0W11 OrW11 OgW11 CW11
        go_wp2_with fail
        refine (br.markB sr zr _ _ _ 1 W12 OgW12.out hr (by omega) (by omega)).mono ?_
        rintro e W13 ⟨rfl, o13, c13⟩
        have hzW13 : W12.heap.size ≤ W13.heap.size := c13.size
        have kp0_0W13 := (World.cell?_of_block (w := W12) (w' := W13) (a := ⟨w.heap.size, 0, none⟩) (c13.block (w.heap.size) (by omega) (by omega))).trans kp0_0W12
        have kp0_1W13 := (World.cell?_of_block (w := W12) (w' := W13) (a := ⟨w.heap.size, 1, none⟩) (c13.block (w.heap.size) (by omega) (by omega))).trans kp0_1W12
        have kp1_0W13 := (World.cell?_of_block (w := W12) (w' := W13) (a := ⟨w.heap.size + 1, 0, none⟩) (c13.block (w.heap.size + 1) (by omega) (by omega))).trans kp1_0W12
        have kp1_1W13 := (World.cell?_of_block (w := W12) (w' := W13) (a := ⟨w.heap.size + 1, 1, none⟩) (c13.block (w.heap.size + 1) (by omega) (by omega))).trans kp1_1W12
        have kbr_0W13 := (World.cell?_of_block (w := W12) (w' := W13) (a := ⟨g3, 0, none⟩) (c13.block (g3) (by omega) (by omega))).trans kbr_0W12
        have kbr_1W13 := (World.cell?_of_block (w := W12) (w' := W13) (a := ⟨g3, 1, none⟩) (c13.block (g3) (by omega) (by omega))).trans kbr_1W12
        have kbg_0W13 := (World.cell?_of_block (w := W12) (w' := W13) (a := ⟨g6, 0, none⟩) (c13.block (g6) (by omega) (by omega))).trans kbg_0W12
        have kbg_1W13 := (World.cell?_of_block (w := W12) (w' := W13) (a := ⟨g6, 1, none⟩) (c13.block (g6) (by omega) (by omega))).trans kbg_1W12
        have A0W13 := sl.hid (A0W12.out.chg c13 (by omega))
        have OrW13 := sl.hid (OrW12.out.chg c13 (by omega))
        have CW13 := sl.hid (CW12.out.trans (c13.below (by omega) (by omega)))
        clear c13 kp0_0W12 kp0_1W12 kp1_0W12 kp1_1W12 kbr_0W12 kbr_1W12 kbg_0W12 kbg_1W12 A0W12 OrW12 CW12
        have On13 := sl.hid o13
        clear o13 OgW12
        go_wp2_with fail
        refine (br.heldB sr zr.length _ _ 1 W13 On13.out.ints hr (by omega) (by omega)).mono ?_
        rintro e W14 ⟨rfl, b14⟩
        have hzW14 : W13.heap.size ≤ W14.heap.size := b14.size
        have kp0_0W14 := (b14.cell (p := ⟨w.heap.size, 0, none⟩) (by show w.heap.size < W13.heap.size; omega)).trans kp0_0W13
        have kp0_1W14 := (b14.cell (p := ⟨w.heap.size, 1, none⟩) (by show w.heap.size < W13.heap.size; omega)).trans kp0_1W13
        have kp1_0W14 := (b14.cell (p := ⟨w.heap.size + 1, 0, none⟩) (by show w.heap.size + 1 < W13.heap.size; omega)).trans kp1_0W13
        have kp1_1W14 := (b14.cell (p := ⟨w.heap.size + 1, 1, none⟩) (by show w.heap.size + 1 < W13.heap.size; omega)).trans kp1_1W13
        have kbr_0W14 := (b14.cell (p := ⟨g3, 0, none⟩) (by show g3 < W13.heap.size; omega)).trans kbr_0W13
        have kbr_1W14 := (b14.cell (p := ⟨g3, 1, none⟩) (by show g3 < W13.heap.size; omega)).trans kbr_1W13
        have kbg_0W14 := (b14.cell (p := ⟨g6, 0, none⟩) (by show g6 < W13.heap.size; omega)).trans kbg_0W13
        have kbg_1W14 := (b14.cell (p := ⟨g6, 1, none⟩) (by show g6 < W13.heap.size; omega)).trans kbg_1W13
        have A0W14 := sl.hid (A0W13.out.chg (sl.Chg.ofBelow (lo := 0) b14) (.inr (Nat.zero_le _)))
        have OrW14 := sl.hid (OrW13.out.chg (sl.Chg.ofBelow (lo := 0) b14) (.inr (.inr (Nat.zero_le _))))
        have OgW14 := sl.hid (On13.out.chg (sl.Chg.ofBelow (lo := 0) b14) (.inr (.inr (Nat.zero_le _))))
        have CW14 := sl.hid (CW13.out.trans (b14.mono (by show w.heap.size ≤ W13.heap.size; omega)))
        clear b14 kp0_0W13 kp0_1W13 kp1_0W13 kp1_1W13 kbr_0W13 kbr_1W13 kbg_0W13 kbg_1W13 A0W13 OrW13 On13 CW13
        go_upto_region 24 with fail
        have HKW14 : Hid (rh5.Kh (fun X : World => sl.Ints X w.heap.size (f0_0) xs0) W14 (w.heap.size) (w.heap.size + 1) a0 (f0_0) a1 c1 W14) := sl.hid ⟨kp0_0W14, kp0_1W14, kp1_0W14, kp1_1W14, by omega, by omega, Nat.le_refl _, A0W14.out, rh5.ints_js, Below.refl _ _⟩
        have TBW14 : Hid (∀ X : World, rh5.Kh (fun X : World => sl.Ints X w.heap.size (f0_0) xs0) W14 (w.heap.size) (w.heap.size + 1) a0 (f0_0) a1 c1 X → Calls Try.prog 29 #[.agg #[.int .i64 a0, f0_0]] X fun e X' => ∃ f', e = .returned (.agg #[.int .i64 a0, f']) ∧ rh5.Iq X' f' xs0 ∧ Below X.heap.size X X') := sl.hid (fun X k => (l5.toR a0 xs0 _ _ X k.j (by have := k.ls; have := k.lm; omega) HQ0.out).mono (by rintro e X2 ⟨f', rfl, o, b⟩; exact ⟨f', rfl, ⟨_, Nat.le_refl _, o.c⟩, b⟩))
        have JPW14 : Hid (∀ (X : World) (u : Value), rh5.Iq X u xs0 → Calls Try.prog 42 #[.agg #[.int .i64 a0, u], .agg #[.int .i64 a1, .int .i64 c1]] X fun e X' => ∃ ao cap, e = .returned (.tuple #[.agg #[.int .i64 sr, .slice ao zr.length cap], .int .i64 q1]) ∧ sl.Own X' X.heap.size X'.heap.size (.slice ao zr.length cap) zr ∧ Below X.heap.size X X') := sl.hid (fun X u k => by obtain ⟨B, hB, h⟩ := k; exact IP.out u X B h hB)
        have hnmW14 : ¬ (w.heap.size = W14.heap.size) := by omega
        have hvmW14 : ¬ (W14.heap.size = w.heap.size) := by omega
        have hndW14 : ¬ (w.heap.size + 1 = W14.heap.size) := by omega
        have hvdW14 : ¬ (W14.heap.size = w.heap.size + 1) := by omega
        go_cut [14, 15] from 79 to 86 (fun p q wc => ∃ (g : Nat) (ao : Option Addr) (cap lo hi : Nat), p = .pointer (some ⟨g, 0, none⟩) ∧ q = .int .i64 q1 ∧ rh5.Rq W14 sr zr g ao cap lo hi wc)
        case first =>
          go_region_held3 (fun w' => w'.cell? ⟨w.heap.size, 0, none⟩ = some (.int .i64 a0) ∧ w'.cell? ⟨w.heap.size, 1, none⟩ = some (f0_0) ∧ w'.cell? ⟨w.heap.size + 1, 0, none⟩ = some (.int .i64 a1) ∧ w'.cell? ⟨w.heap.size + 1, 1, none⟩ = some (.int .i64 c1)) (go_keep)
            (first
              | (go_at_call_of 29 (Value.agg #[.int .i64 a0, f0_0])
                 have hchk := HTY1
                 refine (TBW14.out _ ?_).mono ?_
                 · (first | exact HKA.out | exact HKA.out.drew | exact HKA.out.alloc _ | exact (HKA.out.alloc _).drew | exact (HKA.out.drew).alloc _)
                 rintro e Y2 ⟨gc, rfl, ic, bb⟩
                 have HCY2 := sl.hid ic
                 clear ic
                 have HKB := sl.hid ((show rh5.Kh (fun X : World => sl.Ints X w.heap.size (f0_0) xs0) W14 (w.heap.size) (w.heap.size + 1) a0 (f0_0) a1 c1 _ from by (first | exact HKA.out | exact HKA.out.drew | exact HKA.out.alloc _ | exact (HKA.out.alloc _).drew | exact (HKA.out.drew).alloc _)).below bb)
                 obtain ⟨hcY2, hfY2⟩ := br.bcell bb
                 have hzY2 := bb.size
                 obtain ⟨rY2_0, rY2_1, rY2_2, rY2_3, hlmY2, hldY2, hlsY2, hjjY2, hstY2, hblY2⟩ := HKB.out
                 clear hjjY2 hstY2 hblY2
                 have hnmY2 : ¬ (w.heap.size = Y2.heap.size) := by omega
                 have hvmY2 : ¬ (Y2.heap.size = w.heap.size) := by omega
                 have hndY2 : ¬ (w.heap.size + 1 = Y2.heap.size) := by omega
                 have hvdY2 : ¬ (Y2.heap.size = w.heap.size + 1) := by omega
                 try simp at hcY2
                 try simp at hfY2
                 try simp at hzY2
                 try have hqW14Y2 : W14.heap.size < Y2.heap.size := by omega
                 try have hqY1Y2 : Y1.heap.size < Y2.heap.size := by omega
                 try have hrY2 : Y1.heap.size ≤ Y2.heap.size := by first | exact hzY2 | omega
                 clear bb hchk)
              | (go_at_call_of 41 (Value.agg #[.int .i64 a1, .int .i64 c1])
                 have hchk := HCY1
                 refine (l5.toH a1 c1 _).mono ?_
                 rintro e Y2 ⟨rfl, bb⟩
                 have HTY2 := sl.hid True.intro
                 have HCY2 := sl.hid ((show rh5.Iq _ gc xs0 from by (first | exact HCY1.out | exact HCY1.out.drew | exact HCY1.out.alloc _ | exact (HCY1.out.alloc _).drew | exact (HCY1.out.drew).alloc _)).below bb)
                 have HKB := sl.hid ((show rh5.Kh (fun X : World => sl.Ints X w.heap.size (f0_0) xs0) W14 (w.heap.size) (w.heap.size + 1) a0 (f0_0) a1 c1 _ from by (first | exact HKA.out | exact HKA.out.drew | exact HKA.out.alloc _ | exact (HKA.out.alloc _).drew | exact (HKA.out.drew).alloc _)).below bb)
                 obtain ⟨hcY2, hfY2⟩ := br.bcell bb
                 have hzY2 := bb.size
                 obtain ⟨rY2_0, rY2_1, rY2_2, rY2_3, hlmY2, hldY2, hlsY2, hjjY2, hstY2, hblY2⟩ := HKB.out
                 clear hjjY2 hstY2 hblY2
                 have hnmY2 : ¬ (w.heap.size = Y2.heap.size) := by omega
                 have hvmY2 : ¬ (Y2.heap.size = w.heap.size) := by omega
                 have hndY2 : ¬ (w.heap.size + 1 = Y2.heap.size) := by omega
                 have hvdY2 : ¬ (Y2.heap.size = w.heap.size + 1) := by omega
                 try simp at hcY2
                 try simp at hfY2
                 try simp at hzY2
                 try have hqW14Y2 : W14.heap.size < Y2.heap.size := by omega
                 try have hqY1Y2 : Y1.heap.size < Y2.heap.size := by omega
                 try have hrY2 : Y1.heap.size ≤ Y2.heap.size := by first | exact hzY2 | omega
                 clear bb hchk)
              | (go_at_call_of 29 (Value.agg #[.int .i64 a0, f0_0])
                 refine (TBW14.out _ ?_).mono ?_
                 · (first | exact HKW14.out | exact HKW14.out.drew | exact HKW14.out.alloc _ | exact (HKW14.out.alloc _).drew | exact (HKW14.out.drew).alloc _)
                 rintro e Y1 ⟨gc, rfl, ic, bb⟩
                 have HCY1 := sl.hid ic
                 clear ic
                 have HKA := sl.hid ((show rh5.Kh (fun X : World => sl.Ints X w.heap.size (f0_0) xs0) W14 (w.heap.size) (w.heap.size + 1) a0 (f0_0) a1 c1 _ from by (first | exact HKW14.out | exact HKW14.out.drew | exact HKW14.out.alloc _ | exact (HKW14.out.alloc _).drew | exact (HKW14.out.drew).alloc _)).below bb)
                 obtain ⟨hcY1, hfY1⟩ := br.bcell bb
                 have hzY1 := bb.size
                 obtain ⟨rY1_0, rY1_1, rY1_2, rY1_3, hlmY1, hldY1, hlsY1, hjjY1, hstY1, hblY1⟩ := HKA.out
                 clear hjjY1 hstY1 hblY1
                 have hnmY1 : ¬ (w.heap.size = Y1.heap.size) := by omega
                 have hvmY1 : ¬ (Y1.heap.size = w.heap.size) := by omega
                 have hndY1 : ¬ (w.heap.size + 1 = Y1.heap.size) := by omega
                 have hvdY1 : ¬ (Y1.heap.size = w.heap.size + 1) := by omega
                 try simp at hcY1
                 try simp at hfY1
                 try simp at hzY1
                 try have hqW14Y1 : W14.heap.size < Y1.heap.size := by omega
                 try have hrY1 : W14.heap.size ≤ Y1.heap.size := by first | exact hzY1 | omega
                 clear bb)
              | (go_at_call_of 41 (Value.agg #[.int .i64 a1, .int .i64 c1])
                 refine (l5.toH a1 c1 _).mono ?_
                 rintro e Y1 ⟨rfl, bb⟩
                 have HTY1 := sl.hid True.intro
                 have HKA := sl.hid ((show rh5.Kh (fun X : World => sl.Ints X w.heap.size (f0_0) xs0) W14 (w.heap.size) (w.heap.size + 1) a0 (f0_0) a1 c1 _ from by (first | exact HKW14.out | exact HKW14.out.drew | exact HKW14.out.alloc _ | exact (HKW14.out.alloc _).drew | exact (HKW14.out.drew).alloc _)).below bb)
                 obtain ⟨hcY1, hfY1⟩ := br.bcell bb
                 have hzY1 := bb.size
                 obtain ⟨rY1_0, rY1_1, rY1_2, rY1_3, hlmY1, hldY1, hlsY1, hjjY1, hstY1, hblY1⟩ := HKA.out
                 clear hjjY1 hstY1 hblY1
                 have hnmY1 : ¬ (w.heap.size = Y1.heap.size) := by omega
                 have hvmY1 : ¬ (Y1.heap.size = w.heap.size) := by omega
                 have hndY1 : ¬ (w.heap.size + 1 = Y1.heap.size) := by omega
                 have hvdY1 : ¬ (Y1.heap.size = w.heap.size + 1) := by omega
                 try simp at hcY1
                 try simp at hfY1
                 try simp at hzY1
                 try have hqW14Y1 : W14.heap.size < Y1.heap.size := by omega
                 try have hrY1 : W14.heap.size ≤ Y1.heap.size := by first | exact hzY1 | omega
                 clear bb)
              | (go_at_call 42
                 refine (JPW14.out _ _ ?_).mono ?_
                 · (first | exact HCY2.out | exact HCY2.out.drew | exact HCY2.out.alloc _ | exact (HCY2.out.alloc _).drew | exact (HCY2.out.drew).alloc _)
                 rintro e Y3 ⟨aor, capr, rfl, oR, bb⟩
                 have HO := sl.hid oR
                 have HKC := sl.hid ((show rh5.Kh (fun X : World => sl.Ints X w.heap.size (f0_0) xs0) W14 (w.heap.size) (w.heap.size + 1) a0 (f0_0) a1 c1 _ from by (first | exact HKB.out | exact HKB.out.drew | exact HKB.out.alloc _ | exact (HKB.out.alloc _).drew | exact (HKB.out.drew).alloc _)).below bb)
                 obtain ⟨hcY3, hfY3⟩ := br.bcell bb
                 have hzY3 := bb.size
                 obtain ⟨rY3_0, rY3_1, rY3_2, rY3_3, hlmY3, hldY3, hlsY3, hjjY3, hstY3, hblY3⟩ := HKC.out
                 clear hjjY3 hstY3 hblY3
                 have hnmY3 : ¬ (w.heap.size = Y3.heap.size) := by omega
                 have hvmY3 : ¬ (Y3.heap.size = w.heap.size) := by omega
                 have hndY3 : ¬ (w.heap.size + 1 = Y3.heap.size) := by omega
                 have hvdY3 : ¬ (Y3.heap.size = w.heap.size + 1) := by omega
                 try simp at hcY3
                 try simp at hfY3
                 try simp at hzY3
                 try have hqW14Y3 : W14.heap.size < Y3.heap.size := by omega
                 try have hqY1Y3 : Y1.heap.size < Y3.heap.size := by omega
                 try have hqY2Y3 : Y2.heap.size < Y3.heap.size := by omega
                 try have hrY3 : Y2.heap.size ≤ Y3.heap.size := by first | exact hzY3 | omega
                 clear bb oR))
          all_goals
            go_wp2_with fail
            go_meet
            first
              | exact ⟨_, aor, capr, _, _, rfl, rfl, rh5.meetA HKC.out.bl HO.out (by first | omega | (simp; done) | (simp; omega))⟩
              | exact ⟨_, aor, capr, _, _, rfl, rfl, rh5.meetB HKC.out.bl HO.out (by first | omega | (simp; done) | (simp; omega)) W14.heap.size (by first | omega | (simp; done) | (simp; omega)) (by first | omega | (simp; done) | (simp; omega)) (by first | omega | (simp; done) | (simp; omega)) ((hcY3 _ _ (by first | omega | (simp; done) | (simp; omega))).trans ((hcY2 _ _ (by first | omega | (simp; done) | (simp; omega))).trans ((hcY1 _ _ (by first | omega | (simp; done) | (simp; omega))).trans (World.cell?_alloc_at _ _ _ _ rfl)))) ((hcY3 _ _ (by first | omega | (simp; done) | (simp; omega))).trans ((hcY2 _ _ (by first | omega | (simp; done) | (simp; omega))).trans ((hcY1 _ _ (by first | omega | (simp; done) | (simp; omega))).trans (World.cell?_alloc_at _ _ _ _ rfl))))⟩
              | exact ⟨_, aor, capr, _, _, rfl, rfl, rh5.meetB HKC.out.bl HO.out (by first | omega | (simp; done) | (simp; omega)) Y1.heap.size (by first | omega | (simp; done) | (simp; omega)) (by first | omega | (simp; done) | (simp; omega)) (by first | omega | (simp; done) | (simp; omega)) ((hcY3 _ _ (by first | omega | (simp; done) | (simp; omega))).trans ((hcY2 _ _ (by first | omega | (simp; done) | (simp; omega))).trans (World.cell?_alloc_at _ _ _ _ rfl))) ((hcY3 _ _ (by first | omega | (simp; done) | (simp; omega))).trans ((hcY2 _ _ (by first | omega | (simp; done) | (simp; omega))).trans (World.cell?_alloc_at _ _ _ _ rfl)))⟩
              | exact ⟨_, aor, capr, _, _, rfl, rfl, rh5.meetB HKC.out.bl HO.out (by first | omega | (simp; done) | (simp; omega)) Y2.heap.size (by first | omega | (simp; done) | (simp; omega)) (by first | omega | (simp; done) | (simp; omega)) (by first | omega | (simp; done) | (simp; omega)) ((hcY3 _ _ (by first | omega | (simp; done) | (simp; omega))).trans (World.cell?_alloc_at _ _ _ _ rfl)) ((hcY3 _ _ (by first | omega | (simp; done) | (simp; omega))).trans (World.cell?_alloc_at _ _ _ _ rfl))⟩
        case rest =>
          obtain ⟨g15, ao15, cap15, lo15, hi15, rfl, rfl, c015, c115, o15, hlo15, hhi15, hgd15, hg15, hk15, b15⟩ := hcut
          generalize wc = W15 at *
          have On15 := sl.hid o15
          clear o15
          have hzW15 : W14.heap.size ≤ W15.heap.size := b15.size
          have kp0_0W15 := (b15.cell (p := ⟨w.heap.size, 0, none⟩) (by show w.heap.size < W14.heap.size; omega)).trans kp0_0W14
          have kp0_1W15 := (b15.cell (p := ⟨w.heap.size, 1, none⟩) (by show w.heap.size < W14.heap.size; omega)).trans kp0_1W14
          have kp1_0W15 := (b15.cell (p := ⟨w.heap.size + 1, 0, none⟩) (by show w.heap.size + 1 < W14.heap.size; omega)).trans kp1_0W14
          have kp1_1W15 := (b15.cell (p := ⟨w.heap.size + 1, 1, none⟩) (by show w.heap.size + 1 < W14.heap.size; omega)).trans kp1_1W14
          have kbr_0W15 := (b15.cell (p := ⟨g3, 0, none⟩) (by show g3 < W14.heap.size; omega)).trans kbr_0W14
          have kbr_1W15 := (b15.cell (p := ⟨g3, 1, none⟩) (by show g3 < W14.heap.size; omega)).trans kbr_1W14
          have kbg_0W15 := (b15.cell (p := ⟨g6, 0, none⟩) (by show g6 < W14.heap.size; omega)).trans kbg_0W14
          have kbg_1W15 := (b15.cell (p := ⟨g6, 1, none⟩) (by show g6 < W14.heap.size; omega)).trans kbg_1W14
          have A0W15 := sl.hid (A0W14.out.chg (sl.Chg.ofBelow (lo := 0) b15) (.inr (Nat.zero_le _)))
          have OrW15 := sl.hid (OrW14.out.chg (sl.Chg.ofBelow (lo := 0) b15) (.inr (.inr (Nat.zero_le _))))
          have OgW15 := sl.hid (OgW14.out.chg (sl.Chg.ofBelow (lo := 0) b15) (.inr (.inr (Nat.zero_le _))))
          have CW15 := sl.hid (CW14.out.trans (b15.mono (by show w.heap.size ≤ W14.heap.size; omega)))
          clear b15 kp0_0W14 kp0_1W14 kp1_0W14 kp1_1W14 kbr_0W14 kbr_1W14 kbg_0W14 kbg_1W14 A0W14 OrW14 OgW14 CW14 HKW14 TBW14 JPW14
          go_wp2_with fail
          refine (br.eqBS sr zr _ _ _ _ W15 On15.out.ints OrW15.out.ints hr).mono ?_
          rintro e W16 ⟨rfl, b16⟩
          have hzW16 : W15.heap.size ≤ W16.heap.size := b16.size
          have kp0_0W16 := (b16.cell (p := ⟨w.heap.size, 0, none⟩) (by show w.heap.size < W15.heap.size; omega)).trans kp0_0W15
          have kp0_1W16 := (b16.cell (p := ⟨w.heap.size, 1, none⟩) (by show w.heap.size < W15.heap.size; omega)).trans kp0_1W15
          have kp1_0W16 := (b16.cell (p := ⟨w.heap.size + 1, 0, none⟩) (by show w.heap.size + 1 < W15.heap.size; omega)).trans kp1_0W15
          have kp1_1W16 := (b16.cell (p := ⟨w.heap.size + 1, 1, none⟩) (by show w.heap.size + 1 < W15.heap.size; omega)).trans kp1_1W15
          have kbr_0W16 := (b16.cell (p := ⟨g3, 0, none⟩) (by show g3 < W15.heap.size; omega)).trans kbr_0W15
          have kbr_1W16 := (b16.cell (p := ⟨g3, 1, none⟩) (by show g3 < W15.heap.size; omega)).trans kbr_1W15
          have kbg_0W16 := (b16.cell (p := ⟨g6, 0, none⟩) (by show g6 < W15.heap.size; omega)).trans kbg_0W15
          have kbg_1W16 := (b16.cell (p := ⟨g6, 1, none⟩) (by show g6 < W15.heap.size; omega)).trans kbg_1W15
          have kbh_0W16 := (b16.cell (p := ⟨g15, 0, none⟩) (by show g15 < W15.heap.size; omega)).trans c015
          have kbh_1W16 := (b16.cell (p := ⟨g15, 1, none⟩) (by show g15 < W15.heap.size; omega)).trans c115
          have A0W16 := sl.hid (A0W15.out.chg (sl.Chg.ofBelow (lo := 0) b16) (.inr (Nat.zero_le _)))
          have OrW16 := sl.hid (OrW15.out.chg (sl.Chg.ofBelow (lo := 0) b16) (.inr (.inr (Nat.zero_le _))))
          have OgW16 := sl.hid (OgW15.out.chg (sl.Chg.ofBelow (lo := 0) b16) (.inr (.inr (Nat.zero_le _))))
          have OhW16 := sl.hid (On15.out.chg (sl.Chg.ofBelow (lo := 0) b16) (.inr (.inr (Nat.zero_le _))))
          have CW16 := sl.hid (CW15.out.trans (b16.mono (by show w.heap.size ≤ W15.heap.size; omega)))
          clear b16 kp0_0W15 kp0_1W15 kp1_0W15 kp1_1W15 kbr_0W15 kbr_1W15 kbg_0W15 kbg_1W15 c015 c115 A0W15 OrW15 OgW15 On15 CW15
          go_wp2_with fail
          refine (br.heldB sr zr.length _ _ 1 W16 OgW16.out.ints hr (by omega) (by omega)).mono ?_
          rintro e W17 ⟨rfl, b17⟩
          have hzW17 : W16.heap.size ≤ W17.heap.size := b17.size
          have kp0_0W17 := (b17.cell (p := ⟨w.heap.size, 0, none⟩) (by show w.heap.size < W16.heap.size; omega)).trans kp0_0W16
          have kp0_1W17 := (b17.cell (p := ⟨w.heap.size, 1, none⟩) (by show w.heap.size < W16.heap.size; omega)).trans kp0_1W16
          have kp1_0W17 := (b17.cell (p := ⟨w.heap.size + 1, 0, none⟩) (by show w.heap.size + 1 < W16.heap.size; omega)).trans kp1_0W16
          have kp1_1W17 := (b17.cell (p := ⟨w.heap.size + 1, 1, none⟩) (by show w.heap.size + 1 < W16.heap.size; omega)).trans kp1_1W16
          have kbr_0W17 := (b17.cell (p := ⟨g3, 0, none⟩) (by show g3 < W16.heap.size; omega)).trans kbr_0W16
          have kbr_1W17 := (b17.cell (p := ⟨g3, 1, none⟩) (by show g3 < W16.heap.size; omega)).trans kbr_1W16
          have kbg_0W17 := (b17.cell (p := ⟨g6, 0, none⟩) (by show g6 < W16.heap.size; omega)).trans kbg_0W16
          have kbg_1W17 := (b17.cell (p := ⟨g6, 1, none⟩) (by show g6 < W16.heap.size; omega)).trans kbg_1W16
          have kbh_0W17 := (b17.cell (p := ⟨g15, 0, none⟩) (by show g15 < W16.heap.size; omega)).trans kbh_0W16
          have kbh_1W17 := (b17.cell (p := ⟨g15, 1, none⟩) (by show g15 < W16.heap.size; omega)).trans kbh_1W16
          have A0W17 := sl.hid (A0W16.out.chg (sl.Chg.ofBelow (lo := 0) b17) (.inr (Nat.zero_le _)))
          have OrW17 := sl.hid (OrW16.out.chg (sl.Chg.ofBelow (lo := 0) b17) (.inr (.inr (Nat.zero_le _))))
          have OgW17 := sl.hid (OgW16.out.chg (sl.Chg.ofBelow (lo := 0) b17) (.inr (.inr (Nat.zero_le _))))
          have OhW17 := sl.hid (OhW16.out.chg (sl.Chg.ofBelow (lo := 0) b17) (.inr (.inr (Nat.zero_le _))))
          have CW17 := sl.hid (CW16.out.trans (b17.mono (by show w.heap.size ≤ W16.heap.size; omega)))
          clear b17 kp0_0W16 kp0_1W16 kp1_0W16 kp1_1W16 kbr_0W16 kbr_1W16 kbg_0W16 kbg_1W16 kbh_0W16 kbh_1W16 A0W16 OrW16 OgW16 OhW16 CW16
          go_wp2
          go_ret
          exact ⟨rfl, CW17.out⟩
end Go.Proofs.Ytedajefapddekaa.wreduceHandle
