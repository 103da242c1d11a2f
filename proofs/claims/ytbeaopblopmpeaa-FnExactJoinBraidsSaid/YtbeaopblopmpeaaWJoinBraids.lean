/-
  The walk of the law of JoinBraids.
-/
import Derived.Test.YtbeaopblopmpeaaJu
import Derived.Deep.RegionHeld3
import Derived.Deep.CutRange
namespace Go.Proofs.Ytbeaopblopmpeaa.wjoinBraids
open Go.RowKit
set_option linter.unusedVariables false

set_option maxRecDepth 20000 in
set_option maxHeartbeats 20000000 in
theorem law (a0 : Int) (b0 : Option Addr) (cap0 : Nat) (xs0 : List Int) (a1 : Int) (b1 : Option Addr) (cap1 : Nat) (xs1 : List Int) (w : World) (ha0 : sl.Ints w w.heap.size (.slice b0 xs0.length cap0) xs0) (hcap0 : xs0.length ≤ 9223372036854775807) (h0 : -9223372036854775808 ≤ a0 ∧ a0 ≤ 9223372036854775807) (ha1 : sl.Ints w w.heap.size (.slice b1 xs1.length cap1) xs1) (hcap1 : xs1.length ≤ 9223372036854775807) (h1 : -9223372036854775808 ≤ a1 ∧ a1 ≤ 9223372036854775807) :
    Calls Try.prog 10 #[.agg #[.int .i64 a0, .slice b0 xs0.length cap0], .agg #[.int .i64 a1, .slice b1 xs1.length cap1]] w fun e w' => e = .returned (.bool true) ∧ Below w.heap.size w w' := by
  have HS := sl.hid (br.szB a0 b0 xs0.length cap0 1048576 ((w.alloc (.cells #[.int .i64 a0, .slice b0 xs0.length cap0] 24)).alloc (.cells #[.int .i64 a1, .slice b1 xs1.length cap1] 24)) hcap0 (by omega) (by omega))
  by_cases hbig0 : xs0.length ≤ 1048576
  · have hq : br.szL 1048576 xs0.length = 1048576 - (xs0.length : Int) := by unfold br.szL; rw [if_neg (by omega)]
    have HS1 : ∀ W : World, _ := fun W => br.szB a1 b1 xs1.length cap1 (1048576 - (xs0.length : Int)) W hcap1 (by omega) (by omega)
    have HS1 := sl.hid HS1
    rw [hq] at HS
    by_cases hbig1 : xs0.length + xs1.length ≤ 1048576
    · have hq1 : br.szL (1048576 - (xs0.length : Int)) xs1.length = 1048576 - (xs0.length : Int) - (xs1.length : Int) := by unfold br.szL; rw [if_neg (by omega)]
      rw [hq1] at HS1
      clear hq1
      have hn0 : xs0.length ≤ 1099511627776 := by omega
      have HA0 := sl.hid ha0
      have hn1 : xs1.length ≤ 1099511627776 := by omega
      have HA1 := sl.hid ha1
      have HC0 := sl.hid (Below.refl w.heap.size w)
      have SP : Hid (∀ (v0 : Value) (v1 : Value) (W : World) (B0 : Nat) (B1 : Nat), sl.Ints W B0 v0 xs0 → B0 ≤ W.heap.size → sl.Ints W B1 v1 xs1 → B1 ≤ W.heap.size → fn.NilOk v0 → fn.NilOk v1 → Calls Try.prog 37 #[.agg #[.int .i64 a0, v0], .agg #[.int .i64 a1, v1]] W fun e w' => ∃ ao cap, e = .returned (.tuple #[.agg #[.int .i64 (br.jnS a0 a1 xs0 xs1), .slice ao (br.jnW a0 a1 xs0 xs1).length cap], .int .i64 (br.jnC a0 a1 xs0 xs1)]) ∧ sl.Own w' W.heap.size w'.heap.size (.slice ao (br.jnW a0 a1 xs0 xs1).length cap) (br.jnW a0 a1 xs0 xs1) ∧ Below W.heap.size W w') := sl.hid (fun v0 v1 W B0 B1 i0 l0 i1 l1 n0 n1 => br.specJoinP a0 xs0 a1 xs1 v0 v1 B0 B1 W i0 l0 i1 l1 hn0 hn1 n0 n1)
      have IP : Hid (∀ (v0 : Value) (v1 : Value) (W : World) (B0 : Nat) (B1 : Nat), sl.Ints W B0 v0 xs0 → B0 ≤ W.heap.size → sl.Ints W B1 v1 xs1 → B1 ≤ W.heap.size → fn.NilOk v0 → fn.NilOk v1 → Calls Try.prog 38 #[.agg #[.int .i64 a0, v0], .agg #[.int .i64 a1, v1]] W fun e w' => ∃ ao cap, e = .returned (.tuple #[.agg #[.int .i64 (br.jnS a0 a1 xs0 xs1), .slice ao (br.jnW a0 a1 xs0 xs1).length cap], .int .i64 (br.jnC a0 a1 xs0 xs1)]) ∧ sl.Own w' W.heap.size w'.heap.size (.slice ao (br.jnW a0 a1 xs0 xs1).length cap) (br.jnW a0 a1 xs0 xs1) ∧ Below W.heap.size W w') := sl.hid (fun v0 v1 W B0 B1 i0 l0 i1 l1 n0 n1 => br.implJoinP a0 xs0 a1 xs1 v0 v1 B0 B1 W i0 l0 i1 l1 hn0 hn1 n0 n1)
      have hr : (br.jnW a0 a1 xs0 xs1).length ≤ 1099511627776 := Nat.le_trans (br.jnW_len a0 a1 xs0 xs1) (by omega)
      generalize br.jnW a0 a1 xs0 xs1 = zr at *
      generalize br.jnS a0 a1 xs0 xs1 = sr at *
      generalize br.jnC a0 a1 xs0 xs1 = qi at *
      clear hq ha0 hcap0 ha1 hcap1 h0 h1
      go_enter Try.func10, Try.ntmps10
      go_wp2_with fail
      refine HS.out.mono ?_
      rintro e W1 ⟨rfl, b1⟩
      clear HS
      have hb := br.box2 b1
      have kp0aW1 := hb.1 0
      have kp0bW1 := hb.1 1
      have kp1aW1 := hb.2.1 0
      have kp1bW1 := hb.2.1 1
      simp at kp0aW1 kp0bW1 kp1aW1 kp1bW1
      have kp1aW1 := kp1aW1.1
      have kp1bW1 := kp1bW1.1
      have hzW1 := hb.2.2.2
      have CW1 := sl.hid (HC0.out.trans hb.2.2.1)
      have Aa0W1 := sl.hid (HA0.out.chg (sl.Chg.ofBelow (lo := 0) hb.2.2.1) (.inr (Nat.zero_le _)))
      have Aa1W1 := sl.hid (HA1.out.chg (sl.Chg.ofBelow (lo := 0) hb.2.2.1) (.inr (Nat.zero_le _)))
      clear b1 hb HC0 HA0 HA1
      go_wp2_with fail
      refine (HS1.out _).mono ?_
      rintro e W2 ⟨rfl, b2⟩
      clear HS1
      have hzW2 : W1.heap.size ≤ W2.heap.size := b2.size
      have kp0aW2 := (b2.cell (p := ⟨w.heap.size, 0, none⟩) (by show w.heap.size < W1.heap.size; omega)).trans kp0aW1
      have kp0bW2 := (b2.cell (p := ⟨w.heap.size, 1, none⟩) (by show w.heap.size < W1.heap.size; omega)).trans kp0bW1
      have kp1aW2 := (b2.cell (p := ⟨w.heap.size + 1, 0, none⟩) (by show w.heap.size + 1 < W1.heap.size; omega)).trans kp1aW1
      have kp1bW2 := (b2.cell (p := ⟨w.heap.size + 1, 1, none⟩) (by show w.heap.size + 1 < W1.heap.size; omega)).trans kp1bW1
      have Aa0W2 := sl.hid (Aa0W1.out.chg (sl.Chg.ofBelow (lo := 0) b2) (.inr (Nat.zero_le _)))
      have Aa1W2 := sl.hid (Aa1W1.out.chg (sl.Chg.ofBelow (lo := 0) b2) (.inr (Nat.zero_le _)))
      have CW2 := sl.hid (CW1.out.trans (b2.mono (by omega)))
      clear b2 kp0aW1 kp0bW1 kp1aW1 kp1bW1 Aa0W1 Aa1W1 CW1
      have HKW2 : Hid (br.Kq w W2 a0 a1 (.slice b0 xs0.length cap0) xs0 (.slice b1 xs1.length cap1) xs1 W2) := sl.hid ⟨⟨Aa0W2.out, Aa1W2.out, Nat.le_refl _, Below.refl _ _⟩, by omega, kp0aW2, kp0bW2, kp1aW2, kp1bW2⟩
      have TB0W2 : Hid (∀ W : World, br.Kq w W2 a0 a1 (.slice b0 xs0.length cap0) xs0 (.slice b1 xs1.length cap1) xs1 W → Calls Try.prog 17 #[.agg #[.int .i64 a0, (.slice b0 xs0.length cap0)]] W fun e W' => ∃ ao cap, e = .returned (.agg #[.int .i64 a0, .slice ao xs0.length cap]) ∧ br.Iq W' (.slice ao xs0.length cap) xs0 ∧ fn.NilOk (.slice ao xs0.length cap) ∧ Below W.heap.size W W') := sl.hid (fun W k => br.toBq a0 _ _ xs0 hn0 W _ k.1.1 (by have := k.1.2.2.1; have := k.2.1; omega))
      have TB1W2 : Hid (∀ W : World, br.Kq w W2 a0 a1 (.slice b0 xs0.length cap0) xs0 (.slice b1 xs1.length cap1) xs1 W → Calls Try.prog 17 #[.agg #[.int .i64 a1, (.slice b1 xs1.length cap1)]] W fun e W' => ∃ ao cap, e = .returned (.agg #[.int .i64 a1, .slice ao xs1.length cap]) ∧ br.Iq W' (.slice ao xs1.length cap) xs1 ∧ fn.NilOk (.slice ao xs1.length cap) ∧ Below W.heap.size W W') := sl.hid (fun W k => br.toBq a1 _ _ xs1 hn1 W _ k.1.2.1 (by have := k.1.2.2.1; have := k.2.1; omega))
      have JPW2 : Hid (∀ (W : World) (u0 u1 : Value), br.Iq W u0 xs0 → br.Iq W u1 xs1 → fn.NilOk u0 → fn.NilOk u1 → br.Kq w W2 a0 a1 (.slice b0 xs0.length cap0) xs0 (.slice b1 xs1.length cap1) xs1 W → Calls Try.prog 37 #[.agg #[.int .i64 a0, u0], .agg #[.int .i64 a1, u1]] W fun e W' => ∃ ao cap, e = .returned (.tuple #[.agg #[.int .i64 sr, .slice ao zr.length cap], .int .i64 qi]) ∧ sl.Own W' W.heap.size W'.heap.size (.slice ao zr.length cap) zr ∧ Below W.heap.size W W') := sl.hid (fun W u0 u1 i0 i1 n0 n1 k => by
        obtain ⟨C0, l0, i0⟩ := i0
        obtain ⟨C1, l1, i1⟩ := i1
        refine (SP.out u0 u1 W C0 C1 i0 l0 i1 l1 n0 n1).mono ?_
        rintro e W2 ⟨ao, cap, rfl, o, b⟩
        exact ⟨ao, cap, rfl, o, b⟩)
      have hl0W2 : w.heap.size < W2.heap.size := by omega
      have hl1W2 : w.heap.size + 1 < W2.heap.size := by omega
      go_upto_region 8 with fail
      go_cut [6, 7] from 27 to 34 (fun p q wc => ∃ (g : Nat) (ao : Option Addr) (cap : Nat), p = .pointer (some ⟨g, 0, none⟩) ∧ q = .int .i64 qi ∧ br.Rq W2 sr zr g ao cap wc)
      case first =>
        go_region_with (first
          | (go_at_call_of 17 (Value.agg #[.int .i64 a0, .slice b0 xs0.length cap0])
             have hchk := HIc1
             refine (TB0W2.out _ ?_).mono ?_
             · (first | exact HKA.out | exact HKA.out.drew | exact HKA.out.alloc _ | exact (HKA.out.alloc _).drew | exact (HKA.out.drew).alloc _)
             rintro e Y2 ⟨aoc0, capc0, rfl, ic0, nc0, bB⟩
             have HKB := sl.hid ((show br.Kq w W2 a0 a1 (.slice b0 xs0.length cap0) xs0 (.slice b1 xs1.length cap1) xs1 _ from by (first | exact HKA.out | exact HKA.out.drew | exact HKA.out.alloc _ | exact (HKA.out.alloc _).drew | exact (HKA.out.drew).alloc _)).below bB)
             have HJ0 := sl.hid ic0
             have HNc0 := sl.hid nc0
             have HJ1 := sl.hid ((show br.Iq _ (.slice aoc1 xs1.length capc1) xs1 from by (first | exact HIc1.out | exact HIc1.out.drew | exact HIc1.out.alloc _ | exact (HIc1.out.alloc _).drew | exact (HIc1.out.drew).alloc _)).below bB)
             obtain ⟨hcB, hfB⟩ := br.bcell bB
             have hzB := bB.size
             obtain ⟨pB0, pB1, pB2, pB3⟩ := HKB.out.2.2
             try simp at hcB
             try simp at hfB
             try simp at hzB
             have hl0B : w.heap.size < Y2.heap.size := by omega
             have hl1B : w.heap.size + 1 < Y2.heap.size := by omega
             have hyB : Y1.heap.size ≤ Y2.heap.size := by first | exact hzB | omega
             try have qB0 : W2.heap.size < Y2.heap.size := by omega
             try have qB1 : Y1.heap.size < Y2.heap.size := by omega
             clear ic0 nc0 HIc1 bB hchk)
          | (go_at_call_of 17 (Value.agg #[.int .i64 a1, .slice b1 xs1.length cap1])
             have hchk := HIc0
             refine (TB1W2.out _ ?_).mono ?_
             · (first | exact HKA.out | exact HKA.out.drew | exact HKA.out.alloc _ | exact (HKA.out.alloc _).drew | exact (HKA.out.drew).alloc _)
             rintro e Y2 ⟨aoc1, capc1, rfl, ic1, nc1, bB⟩
             have HKB := sl.hid ((show br.Kq w W2 a0 a1 (.slice b0 xs0.length cap0) xs0 (.slice b1 xs1.length cap1) xs1 _ from by (first | exact HKA.out | exact HKA.out.drew | exact HKA.out.alloc _ | exact (HKA.out.alloc _).drew | exact (HKA.out.drew).alloc _)).below bB)
             have HJ1 := sl.hid ic1
             have HNc1 := sl.hid nc1
             have HJ0 := sl.hid ((show br.Iq _ (.slice aoc0 xs0.length capc0) xs0 from by (first | exact HIc0.out | exact HIc0.out.drew | exact HIc0.out.alloc _ | exact (HIc0.out.alloc _).drew | exact (HIc0.out.drew).alloc _)).below bB)
             obtain ⟨hcB, hfB⟩ := br.bcell bB
             have hzB := bB.size
             obtain ⟨pB0, pB1, pB2, pB3⟩ := HKB.out.2.2
             try simp at hcB
             try simp at hfB
             try simp at hzB
             have hl0B : w.heap.size < Y2.heap.size := by omega
             have hl1B : w.heap.size + 1 < Y2.heap.size := by omega
             have hyB : Y1.heap.size ≤ Y2.heap.size := by first | exact hzB | omega
             try have qB0 : W2.heap.size < Y2.heap.size := by omega
             try have qB1 : Y1.heap.size < Y2.heap.size := by omega
             clear ic1 nc1 HIc0 bB hchk)
          | (go_at_call_of 17 (Value.agg #[.int .i64 a0, .slice b0 xs0.length cap0])
             refine (TB0W2.out _ ?_).mono ?_
             · (first | exact HKW2.out | exact HKW2.out.drew | exact HKW2.out.alloc _ | exact (HKW2.out.alloc _).drew | exact (HKW2.out.drew).alloc _)
             rintro e Y1 ⟨aoc0, capc0, rfl, ic0, nc0, bA⟩
             have HKA := sl.hid ((show br.Kq w W2 a0 a1 (.slice b0 xs0.length cap0) xs0 (.slice b1 xs1.length cap1) xs1 _ from by (first | exact HKW2.out | exact HKW2.out.drew | exact HKW2.out.alloc _ | exact (HKW2.out.alloc _).drew | exact (HKW2.out.drew).alloc _)).below bA)
             have HIc0 := sl.hid ic0
             have HNc0 := sl.hid nc0
             obtain ⟨hcA, hfA⟩ := br.bcell bA
             have hzA := bA.size
             obtain ⟨pA0, pA1, pA2, pA3⟩ := HKA.out.2.2
             try simp at hcA
             try simp at hfA
             try simp at hzA
             have hl0A : w.heap.size < Y1.heap.size := by omega
             have hl1A : w.heap.size + 1 < Y1.heap.size := by omega
             have hyA : W2.heap.size ≤ Y1.heap.size := by first | exact hzA | omega
             try have qA0 : W2.heap.size < Y1.heap.size := by omega
             clear ic0 nc0 bA)
          | (go_at_call_of 17 (Value.agg #[.int .i64 a1, .slice b1 xs1.length cap1])
             refine (TB1W2.out _ ?_).mono ?_
             · (first | exact HKW2.out | exact HKW2.out.drew | exact HKW2.out.alloc _ | exact (HKW2.out.alloc _).drew | exact (HKW2.out.drew).alloc _)
             rintro e Y1 ⟨aoc1, capc1, rfl, ic1, nc1, bA⟩
             have HKA := sl.hid ((show br.Kq w W2 a0 a1 (.slice b0 xs0.length cap0) xs0 (.slice b1 xs1.length cap1) xs1 _ from by (first | exact HKW2.out | exact HKW2.out.drew | exact HKW2.out.alloc _ | exact (HKW2.out.alloc _).drew | exact (HKW2.out.drew).alloc _)).below bA)
             have HIc1 := sl.hid ic1
             have HNc1 := sl.hid nc1
             obtain ⟨hcA, hfA⟩ := br.bcell bA
             have hzA := bA.size
             obtain ⟨pA0, pA1, pA2, pA3⟩ := HKA.out.2.2
             try simp at hcA
             try simp at hfA
             try simp at hzA
             have hl0A : w.heap.size < Y1.heap.size := by omega
             have hl1A : w.heap.size + 1 < Y1.heap.size := by omega
             have hyA : W2.heap.size ≤ Y1.heap.size := by first | exact hzA | omega
             try have qA0 : W2.heap.size < Y1.heap.size := by omega
             clear ic1 nc1 bA)
          | (go_at_call 37
             refine (JPW2.out _ _ _ ?_ ?_ HNc0.out HNc1.out ?_).mono ?_
             · (first | exact HJ0.out | exact HJ0.out.drew | exact HJ0.out.alloc _ | exact (HJ0.out.alloc _).drew | exact (HJ0.out.drew).alloc _)
             · (first | exact HJ1.out | exact HJ1.out.drew | exact HJ1.out.alloc _ | exact (HJ1.out.alloc _).drew | exact (HJ1.out.drew).alloc _)
             · (first | exact HKB.out | exact HKB.out.drew | exact HKB.out.alloc _ | exact (HKB.out.alloc _).drew | exact (HKB.out.drew).alloc _)
             rintro e Y3 ⟨aor, capr, rfl, oR, bC⟩
             have HKC := sl.hid ((show br.Kq w W2 a0 a1 (.slice b0 xs0.length cap0) xs0 (.slice b1 xs1.length cap1) xs1 _ from by (first | exact HKB.out | exact HKB.out.drew | exact HKB.out.alloc _ | exact (HKB.out.alloc _).drew | exact (HKB.out.drew).alloc _)).below bC)
             have HO := sl.hid oR
             obtain ⟨hcC, hfC⟩ := br.bcell bC
             have hzC := bC.size
             obtain ⟨pC0, pC1, pC2, pC3⟩ := HKC.out.2.2
             try simp at hcC
             try simp at hfC
             try simp at hzC
             have hl0C : w.heap.size < Y3.heap.size := by omega
             have hl1C : w.heap.size + 1 < Y3.heap.size := by omega
             have hyC : Y2.heap.size ≤ Y3.heap.size := by first | exact hzC | omega
             try have qC0 : W2.heap.size < Y3.heap.size := by omega
             try have qC1 : Y1.heap.size < Y3.heap.size := by omega
             try have qC2 : Y2.heap.size < Y3.heap.size := by omega
             clear oR bC)
          )
        all_goals
          go_wp2_with fail
          go_meet
          first
            | exact ⟨_, aor, capr, rfl, rfl, br.meetA HKC.out.1.2.2.2 HO.out (by first | omega | (simp; done) | (simp; omega))⟩
            | exact ⟨_, aor, capr, rfl, rfl, br.meetB HKC.out.1.2.2.2 HO.out (by first | omega | (simp; done) | (simp; omega)) Y2.heap.size (by omega) (by first | omega | (simp; done) | (simp; omega)) (by omega) ((hcC _ _ (by omega)).trans (World.cell?_alloc_at _ _ _ _ rfl)) ((hcC _ _ (by omega)).trans (World.cell?_alloc_at _ _ _ _ rfl))⟩
            | exact ⟨_, aor, capr, rfl, rfl, br.meetB HKC.out.1.2.2.2 HO.out (by first | omega | (simp; done) | (simp; omega)) Y1.heap.size (by omega) (by first | omega | (simp; done) | (simp; omega)) (by omega) ((hcC _ _ (by omega)).trans ((hcB _ _ (by omega)).trans (World.cell?_alloc_at _ _ _ _ rfl))) ((hcC _ _ (by omega)).trans ((hcB _ _ (by omega)).trans (World.cell?_alloc_at _ _ _ _ rfl)))⟩
            | exact ⟨_, aor, capr, rfl, rfl, br.meetB HKC.out.1.2.2.2 HO.out (by first | omega | (simp; done) | (simp; omega)) W2.heap.size (by omega) (by first | omega | (simp; done) | (simp; omega)) (by omega) ((hcC _ _ (by omega)).trans ((hcB _ _ (by omega)).trans ((hcA _ _ (by omega)).trans (World.cell?_alloc_at _ _ _ _ rfl)))) ((hcC _ _ (by omega)).trans ((hcB _ _ (by omega)).trans ((hcA _ _ (by omega)).trans (World.cell?_alloc_at _ _ _ _ rfl))))⟩
      case rest =>
        obtain ⟨g3, ao3, cap3, rfl, rfl, c03, c13, o3, hg3, hk3, b3⟩ := hcut
        have hg03 : g3 < wc.heap.size := hk3
        generalize wc = W3 at *
        have On3 := sl.hid o3
        clear o3 HKW2 TB0W2 TB1W2 JPW2
        have hzW3 : W2.heap.size ≤ W3.heap.size := b3.size
        have kp0aW3 := (b3.cell (p := ⟨w.heap.size, 0, none⟩) (by show w.heap.size < W2.heap.size; omega)).trans kp0aW2
        have kp0bW3 := (b3.cell (p := ⟨w.heap.size, 1, none⟩) (by show w.heap.size < W2.heap.size; omega)).trans kp0bW2
        have kp1aW3 := (b3.cell (p := ⟨w.heap.size + 1, 0, none⟩) (by show w.heap.size + 1 < W2.heap.size; omega)).trans kp1aW2
        have kp1bW3 := (b3.cell (p := ⟨w.heap.size + 1, 1, none⟩) (by show w.heap.size + 1 < W2.heap.size; omega)).trans kp1bW2
        have Aa0W3 := sl.hid (Aa0W2.out.chg (sl.Chg.ofBelow (lo := 0) b3) (.inr (Nat.zero_le _)))
        have Aa1W3 := sl.hid (Aa1W2.out.chg (sl.Chg.ofBelow (lo := 0) b3) (.inr (Nat.zero_le _)))
        have CW3 := sl.hid (CW2.out.trans (b3.mono (by omega)))
        clear b3 kp0aW2 kp0bW2 kp1aW2 kp1bW2 Aa0W2 Aa1W2 CW2
        go_wp2_with fail
        refine (br.toB a0 xs0 _ _ W3 Aa0W3.out (by omega) hn0).mono ?_
        rintro e W4 ⟨ao4, cap4, rfl, o4, b4⟩
        have On4 := sl.hid o4
        clear o4
        have hzW4 : W3.heap.size ≤ W4.heap.size := b4.size
        have kp0aW4 := (b4.cell (p := ⟨w.heap.size, 0, none⟩) (by show w.heap.size < W3.heap.size; omega)).trans kp0aW3
        have kp0bW4 := (b4.cell (p := ⟨w.heap.size, 1, none⟩) (by show w.heap.size < W3.heap.size; omega)).trans kp0bW3
        have kp1aW4 := (b4.cell (p := ⟨w.heap.size + 1, 0, none⟩) (by show w.heap.size + 1 < W3.heap.size; omega)).trans kp1aW3
        have kp1bW4 := (b4.cell (p := ⟨w.heap.size + 1, 1, none⟩) (by show w.heap.size + 1 < W3.heap.size; omega)).trans kp1bW3
        have kraW4 := (b4.cell (p := ⟨g3, 0, none⟩) (by show g3 < W3.heap.size; omega)).trans c03
        have krbW4 := (b4.cell (p := ⟨g3, 1, none⟩) (by show g3 < W3.heap.size; omega)).trans c13
        have Aa0W4 := sl.hid (Aa0W3.out.chg (sl.Chg.ofBelow (lo := 0) b4) (.inr (Nat.zero_le _)))
        have Aa1W4 := sl.hid (Aa1W3.out.chg (sl.Chg.ofBelow (lo := 0) b4) (.inr (Nat.zero_le _)))
        have OrW4 := sl.hid (On3.out.chg (sl.Chg.ofBelow (lo := 0) b4) (.inr (.inr (Nat.zero_le _))))
        have CW4 := sl.hid (CW3.out.trans (b4.mono (by omega)))
        clear b4 kp0aW3 kp0bW3 kp1aW3 kp1bW3 c03 c13 Aa0W3 Aa1W3 On3 CW3
        have bE : Below W4.heap.size W4 (W4.alloc (.cells #[.int .i64 a0, .slice ao4 xs0.length cap4] 27)) := (Below.refl _ _).alloc (Nat.le_refl _) _
        have ep0aW4 := (bE.cell (p := ⟨w.heap.size, 0, none⟩) (by show w.heap.size < W4.heap.size; omega)).trans kp0aW4
        have ep0bW4 := (bE.cell (p := ⟨w.heap.size, 1, none⟩) (by show w.heap.size < W4.heap.size; omega)).trans kp0bW4
        have ep1aW4 := (bE.cell (p := ⟨w.heap.size + 1, 0, none⟩) (by show w.heap.size + 1 < W4.heap.size; omega)).trans kp1aW4
        have ep1bW4 := (bE.cell (p := ⟨w.heap.size + 1, 1, none⟩) (by show w.heap.size + 1 < W4.heap.size; omega)).trans kp1bW4
        have eraW4 := (bE.cell (p := ⟨g3, 0, none⟩) (by show g3 < W4.heap.size; omega)).trans kraW4
        have erbW4 := (bE.cell (p := ⟨g3, 1, none⟩) (by show g3 < W4.heap.size; omega)).trans krbW4
        go_wp2_with fail
        refine (br.toB a1 xs1 _ _ (W4.alloc (.cells #[.int .i64 a0, .slice ao4 xs0.length cap4] 27)) (br.ints_al Aa1W4.out _) (by first | omega | (simp; done) | (simp; omega)) hn1).mono ?_
        rintro e W5 ⟨ao5, cap5, rfl, o5, b5⟩
        have On5 := sl.hid (o5.lo (lo' := W4.heap.size + 1) (by simp))
        clear o5
        have bb5 : Below W4.heap.size W4 W5 := ((Below.refl W4.heap.size W4).alloc (by simp) _).trans (b5.mono (by simp))
        have hzW5 : W4.heap.size + 1 ≤ W5.heap.size := by have h := b5.size; simp at h; omega
        have kx0aW5 : W5.cell? ⟨W4.heap.size, 0, none⟩ = some (.int .i64 a0) := (b5.cell (p := ⟨W4.heap.size, 0, none⟩) (by simp)).trans (World.cell?_alloc_at _ _ _ _ rfl)
        have kx0bW5 : W5.cell? ⟨W4.heap.size, 1, none⟩ = some (.slice ao4 xs0.length cap4) := (b5.cell (p := ⟨W4.heap.size, 1, none⟩) (by simp)).trans (World.cell?_alloc_at _ _ _ _ rfl)
        have kp0aW5 := (bb5.cell (p := ⟨w.heap.size, 0, none⟩) (by show w.heap.size < W4.heap.size; omega)).trans kp0aW4
        have kp0bW5 := (bb5.cell (p := ⟨w.heap.size, 1, none⟩) (by show w.heap.size < W4.heap.size; omega)).trans kp0bW4
        have kp1aW5 := (bb5.cell (p := ⟨w.heap.size + 1, 0, none⟩) (by show w.heap.size + 1 < W4.heap.size; omega)).trans kp1aW4
        have kp1bW5 := (bb5.cell (p := ⟨w.heap.size + 1, 1, none⟩) (by show w.heap.size + 1 < W4.heap.size; omega)).trans kp1bW4
        have kraW5 := (bb5.cell (p := ⟨g3, 0, none⟩) (by show g3 < W4.heap.size; omega)).trans kraW4
        have krbW5 := (bb5.cell (p := ⟨g3, 1, none⟩) (by show g3 < W4.heap.size; omega)).trans krbW4
        have Aa0W5 := sl.hid (Aa0W4.out.chg (sl.Chg.ofBelow (lo := 0) bb5) (.inr (Nat.zero_le _)))
        have Aa1W5 := sl.hid (Aa1W4.out.chg (sl.Chg.ofBelow (lo := 0) bb5) (.inr (Nat.zero_le _)))
        have OrW5 := sl.hid (OrW4.out.chg (sl.Chg.ofBelow (lo := 0) bb5) (.inr (.inr (Nat.zero_le _))))
        have Ox0W5 := sl.hid (On4.out.chg (sl.Chg.ofBelow (lo := 0) bb5) (.inr (.inr (Nat.zero_le _))))
        have CW5 := sl.hid (CW4.out.trans (bb5.mono (by omega)))
        clear b5 bE ep0aW4 ep0bW4 ep1aW4 ep1bW4 eraW4 erbW4 bb5 kp0aW4 kp0bW4 kp1aW4 kp1bW4 kraW4 krbW4 Aa0W4 Aa1W4 OrW4 On4 CW4
        have bE : Below W5.heap.size W5 (W5.alloc (.cells #[.int .i64 a1, .slice ao5 xs1.length cap5] 27)) := (Below.refl _ _).alloc (Nat.le_refl _) _
        have ep0aW5 := (bE.cell (p := ⟨w.heap.size, 0, none⟩) (by show w.heap.size < W5.heap.size; omega)).trans kp0aW5
        have ep0bW5 := (bE.cell (p := ⟨w.heap.size, 1, none⟩) (by show w.heap.size < W5.heap.size; omega)).trans kp0bW5
        have ep1aW5 := (bE.cell (p := ⟨w.heap.size + 1, 0, none⟩) (by show w.heap.size + 1 < W5.heap.size; omega)).trans kp1aW5
        have ep1bW5 := (bE.cell (p := ⟨w.heap.size + 1, 1, none⟩) (by show w.heap.size + 1 < W5.heap.size; omega)).trans kp1bW5
        have eraW5 := (bE.cell (p := ⟨g3, 0, none⟩) (by show g3 < W5.heap.size; omega)).trans kraW5
        have erbW5 := (bE.cell (p := ⟨g3, 1, none⟩) (by show g3 < W5.heap.size; omega)).trans krbW5
        have ex0aW5 := (bE.cell (p := ⟨W4.heap.size, 0, none⟩) (by show W4.heap.size < W5.heap.size; omega)).trans kx0aW5
        have ex0bW5 := (bE.cell (p := ⟨W4.heap.size, 1, none⟩) (by show W4.heap.size < W5.heap.size; omega)).trans kx0bW5
        go_wp2_with fail
        refine (IP.out _ _ (W5.alloc (.cells #[.int .i64 a1, .slice ao5 xs1.length cap5] 27)) _ _ (br.ints_al Ox0W5.out.ints _) (by first | omega | (simp; done) | (simp; omega)) (br.ints_al On5.out.ints _) (by first | omega | (simp; done) | (simp; omega)) (fn.nilok_own Ox0W5.out) (fn.nilok_own On5.out)).mono ?_
        rintro e W6 ⟨ao6, cap6, rfl, o6, b6⟩
        have On6 := sl.hid (o6.lo (lo' := W5.heap.size + 1) (by simp))
        clear o6
        have bb6 : Below W5.heap.size W5 W6 := ((Below.refl W5.heap.size W5).alloc (by simp) _).trans (b6.mono (by simp))
        have hzW6 : W5.heap.size + 1 ≤ W6.heap.size := by have h := b6.size; simp at h; omega
        have kx1aW6 : W6.cell? ⟨W5.heap.size, 0, none⟩ = some (.int .i64 a1) := (b6.cell (p := ⟨W5.heap.size, 0, none⟩) (by simp)).trans (World.cell?_alloc_at _ _ _ _ rfl)
        have kx1bW6 : W6.cell? ⟨W5.heap.size, 1, none⟩ = some (.slice ao5 xs1.length cap5) := (b6.cell (p := ⟨W5.heap.size, 1, none⟩) (by simp)).trans (World.cell?_alloc_at _ _ _ _ rfl)
        have kp0aW6 := (bb6.cell (p := ⟨w.heap.size, 0, none⟩) (by show w.heap.size < W5.heap.size; omega)).trans kp0aW5
        have kp0bW6 := (bb6.cell (p := ⟨w.heap.size, 1, none⟩) (by show w.heap.size < W5.heap.size; omega)).trans kp0bW5
        have kp1aW6 := (bb6.cell (p := ⟨w.heap.size + 1, 0, none⟩) (by show w.heap.size + 1 < W5.heap.size; omega)).trans kp1aW5
        have kp1bW6 := (bb6.cell (p := ⟨w.heap.size + 1, 1, none⟩) (by show w.heap.size + 1 < W5.heap.size; omega)).trans kp1bW5
        have kraW6 := (bb6.cell (p := ⟨g3, 0, none⟩) (by show g3 < W5.heap.size; omega)).trans kraW5
        have krbW6 := (bb6.cell (p := ⟨g3, 1, none⟩) (by show g3 < W5.heap.size; omega)).trans krbW5
        have kx0aW6 := (bb6.cell (p := ⟨W4.heap.size, 0, none⟩) (by show W4.heap.size < W5.heap.size; omega)).trans kx0aW5
        have kx0bW6 := (bb6.cell (p := ⟨W4.heap.size, 1, none⟩) (by show W4.heap.size < W5.heap.size; omega)).trans kx0bW5
        have Aa0W6 := sl.hid (Aa0W5.out.chg (sl.Chg.ofBelow (lo := 0) bb6) (.inr (Nat.zero_le _)))
        have Aa1W6 := sl.hid (Aa1W5.out.chg (sl.Chg.ofBelow (lo := 0) bb6) (.inr (Nat.zero_le _)))
        have OrW6 := sl.hid (OrW5.out.chg (sl.Chg.ofBelow (lo := 0) bb6) (.inr (.inr (Nat.zero_le _))))
        have Ox0W6 := sl.hid (Ox0W5.out.chg (sl.Chg.ofBelow (lo := 0) bb6) (.inr (.inr (Nat.zero_le _))))
        have Ox1W6 := sl.hid (On5.out.chg (sl.Chg.ofBelow (lo := 0) bb6) (.inr (.inr (Nat.zero_le _))))
        have CW6 := sl.hid (CW5.out.trans (bb6.mono (by omega)))
        clear b6 bE ep0aW5 ep0bW5 ep1aW5 ep1bW5 eraW5 erbW5 ex0aW5 ex0bW5 bb6 kp0aW5 kp0bW5 kp1aW5 kp1bW5 kraW5 krbW5 kx0aW5 kx0bW5 Aa0W5 Aa1W5 OrW5 Ox0W5 On5 CW5
        have bE : Below W6.heap.size W6 (W6.alloc (.cells #[.int .i64 sr, .slice ao6 zr.length cap6] 27)) := (Below.refl _ _).alloc (Nat.le_refl _) _
        have ep0aW6 := (bE.cell (p := ⟨w.heap.size, 0, none⟩) (by show w.heap.size < W6.heap.size; omega)).trans kp0aW6
        have ep0bW6 := (bE.cell (p := ⟨w.heap.size, 1, none⟩) (by show w.heap.size < W6.heap.size; omega)).trans kp0bW6
        have ep1aW6 := (bE.cell (p := ⟨w.heap.size + 1, 0, none⟩) (by show w.heap.size + 1 < W6.heap.size; omega)).trans kp1aW6
        have ep1bW6 := (bE.cell (p := ⟨w.heap.size + 1, 1, none⟩) (by show w.heap.size + 1 < W6.heap.size; omega)).trans kp1bW6
        have eraW6 := (bE.cell (p := ⟨g3, 0, none⟩) (by show g3 < W6.heap.size; omega)).trans kraW6
        have erbW6 := (bE.cell (p := ⟨g3, 1, none⟩) (by show g3 < W6.heap.size; omega)).trans krbW6
        have ex0aW6 := (bE.cell (p := ⟨W4.heap.size, 0, none⟩) (by show W4.heap.size < W6.heap.size; omega)).trans kx0aW6
        have ex0bW6 := (bE.cell (p := ⟨W4.heap.size, 1, none⟩) (by show W4.heap.size < W6.heap.size; omega)).trans kx0bW6
        have ex1aW6 := (bE.cell (p := ⟨W5.heap.size, 0, none⟩) (by show W5.heap.size < W6.heap.size; omega)).trans kx1aW6
        have ex1bW6 := (bE.cell (p := ⟨W5.heap.size, 1, none⟩) (by show W5.heap.size < W6.heap.size; omega)).trans kx1bW6
        go_wp2_with fail
        refine (br.eqBS sr zr _ _ _ _ (W6.alloc (.cells #[.int .i64 sr, .slice ao6 zr.length cap6] 27)) (br.ints_al On6.out.ints _) (br.ints_al OrW6.out.ints _) hr).mono ?_
        rintro e W7 ⟨rfl, b7⟩
        have bb7 : Below W6.heap.size W6 W7 := ((Below.refl W6.heap.size W6).alloc (by simp) _).trans (b7.mono (by simp))
        have hzW7 : W6.heap.size + 1 ≤ W7.heap.size := by have h := b7.size; simp at h; omega
        have kgaW7 : W7.cell? ⟨W6.heap.size, 0, none⟩ = some (.int .i64 sr) := (b7.cell (p := ⟨W6.heap.size, 0, none⟩) (by simp)).trans (World.cell?_alloc_at _ _ _ _ rfl)
        have kgbW7 : W7.cell? ⟨W6.heap.size, 1, none⟩ = some (.slice ao6 zr.length cap6) := (b7.cell (p := ⟨W6.heap.size, 1, none⟩) (by simp)).trans (World.cell?_alloc_at _ _ _ _ rfl)
        have kp0aW7 := (bb7.cell (p := ⟨w.heap.size, 0, none⟩) (by show w.heap.size < W6.heap.size; omega)).trans kp0aW6
        have kp0bW7 := (bb7.cell (p := ⟨w.heap.size, 1, none⟩) (by show w.heap.size < W6.heap.size; omega)).trans kp0bW6
        have kp1aW7 := (bb7.cell (p := ⟨w.heap.size + 1, 0, none⟩) (by show w.heap.size + 1 < W6.heap.size; omega)).trans kp1aW6
        have kp1bW7 := (bb7.cell (p := ⟨w.heap.size + 1, 1, none⟩) (by show w.heap.size + 1 < W6.heap.size; omega)).trans kp1bW6
        have kraW7 := (bb7.cell (p := ⟨g3, 0, none⟩) (by show g3 < W6.heap.size; omega)).trans kraW6
        have krbW7 := (bb7.cell (p := ⟨g3, 1, none⟩) (by show g3 < W6.heap.size; omega)).trans krbW6
        have kx0aW7 := (bb7.cell (p := ⟨W4.heap.size, 0, none⟩) (by show W4.heap.size < W6.heap.size; omega)).trans kx0aW6
        have kx0bW7 := (bb7.cell (p := ⟨W4.heap.size, 1, none⟩) (by show W4.heap.size < W6.heap.size; omega)).trans kx0bW6
        have kx1aW7 := (bb7.cell (p := ⟨W5.heap.size, 0, none⟩) (by show W5.heap.size < W6.heap.size; omega)).trans kx1aW6
        have kx1bW7 := (bb7.cell (p := ⟨W5.heap.size, 1, none⟩) (by show W5.heap.size < W6.heap.size; omega)).trans kx1bW6
        have Aa0W7 := sl.hid (Aa0W6.out.chg (sl.Chg.ofBelow (lo := 0) bb7) (.inr (Nat.zero_le _)))
        have Aa1W7 := sl.hid (Aa1W6.out.chg (sl.Chg.ofBelow (lo := 0) bb7) (.inr (Nat.zero_le _)))
        have OrW7 := sl.hid (OrW6.out.chg (sl.Chg.ofBelow (lo := 0) bb7) (.inr (.inr (Nat.zero_le _))))
        have Ox0W7 := sl.hid (Ox0W6.out.chg (sl.Chg.ofBelow (lo := 0) bb7) (.inr (.inr (Nat.zero_le _))))
        have Ox1W7 := sl.hid (Ox1W6.out.chg (sl.Chg.ofBelow (lo := 0) bb7) (.inr (.inr (Nat.zero_le _))))
        have OgW7 := sl.hid (On6.out.chg (sl.Chg.ofBelow (lo := 0) bb7) (.inr (.inr (Nat.zero_le _))))
        have CW7 := sl.hid (CW6.out.trans (bb7.mono (by omega)))
        clear b7 bE ep0aW6 ep0bW6 ep1aW6 ep1bW6 eraW6 erbW6 ex0aW6 ex0bW6 ex1aW6 ex1bW6 bb7 kp0aW6 kp0bW6 kp1aW6 kp1bW6 kraW6 krbW6 kx0aW6 kx0bW6 kx1aW6 kx1bW6 Aa0W6 Aa1W6 OrW6 Ox0W6 Ox1W6 On6 CW6
        go_wp2_with fail
        have bD := (Below.refl W7.heap.size W7).drew
        have Aa0dW7 := sl.hid (Aa0W7.out.chg (sl.Chg.ofBelow (lo := 0) bD) (.inr (Nat.zero_le _)))
        have Aa1dW7 := sl.hid (Aa1W7.out.chg (sl.Chg.ofBelow (lo := 0) bD) (.inr (Nat.zero_le _)))
        have OrdW7 := sl.hid (OrW7.out.chg (sl.Chg.ofBelow (lo := 0) bD) (.inr (.inr (Nat.zero_le _))))
        have Ox0dW7 := sl.hid (Ox0W7.out.chg (sl.Chg.ofBelow (lo := 0) bD) (.inr (.inr (Nat.zero_le _))))
        have Ox1dW7 := sl.hid (Ox1W7.out.chg (sl.Chg.ofBelow (lo := 0) bD) (.inr (.inr (Nat.zero_le _))))
        have OgdW7 := sl.hid (OgW7.out.chg (sl.Chg.ofBelow (lo := 0) bD) (.inr (.inr (Nat.zero_le _))))
        have CdW7 := sl.hid (CW7.out.drew)
        clear bD Aa0W7 Aa1W7 OrW7 Ox0W7 Ox1W7 OgW7 CW7
        go_region_held3 (fun w' => w'.cell? ⟨w.heap.size, 0, none⟩ = some (.int .i64 a0) ∧ w'.cell? ⟨w.heap.size, 1, none⟩ = some (.slice b0 xs0.length cap0) ∧ w'.cell? ⟨W4.heap.size, 0, none⟩ = some (.int .i64 a0) ∧ w'.cell? ⟨W4.heap.size, 1, none⟩ = some (.slice ao4 xs0.length cap4)) (go_keep)
          (first
            | (go_at_call 17
               refine (br.toB a0 xs0 _ _ W7.drew Aa0dW7.out (by show w.heap.size ≤ W7.heap.size; omega) hn0).mono ?_
               rintro e W8 ⟨ao8, cap8, rfl, o8, b8⟩
               have On8 := sl.hid o8
               clear o8
               have hzW8 : W7.heap.size ≤ W8.heap.size := b8.size
               have kp0aW8 := (b8.cell (p := ⟨w.heap.size, 0, none⟩) (by show w.heap.size < W7.heap.size; omega)).trans kp0aW7
               have kp0bW8 := (b8.cell (p := ⟨w.heap.size, 1, none⟩) (by show w.heap.size < W7.heap.size; omega)).trans kp0bW7
               have kp1aW8 := (b8.cell (p := ⟨w.heap.size + 1, 0, none⟩) (by show w.heap.size + 1 < W7.heap.size; omega)).trans kp1aW7
               have kp1bW8 := (b8.cell (p := ⟨w.heap.size + 1, 1, none⟩) (by show w.heap.size + 1 < W7.heap.size; omega)).trans kp1bW7
               have kraW8 := (b8.cell (p := ⟨g3, 0, none⟩) (by show g3 < W7.heap.size; omega)).trans kraW7
               have krbW8 := (b8.cell (p := ⟨g3, 1, none⟩) (by show g3 < W7.heap.size; omega)).trans krbW7
               have kx0aW8 := (b8.cell (p := ⟨W4.heap.size, 0, none⟩) (by show W4.heap.size < W7.heap.size; omega)).trans kx0aW7
               have kx0bW8 := (b8.cell (p := ⟨W4.heap.size, 1, none⟩) (by show W4.heap.size < W7.heap.size; omega)).trans kx0bW7
               have kx1aW8 := (b8.cell (p := ⟨W5.heap.size, 0, none⟩) (by show W5.heap.size < W7.heap.size; omega)).trans kx1aW7
               have kx1bW8 := (b8.cell (p := ⟨W5.heap.size, 1, none⟩) (by show W5.heap.size < W7.heap.size; omega)).trans kx1bW7
               have kgaW8 := (b8.cell (p := ⟨W6.heap.size, 0, none⟩) (by show W6.heap.size < W7.heap.size; omega)).trans kgaW7
               have kgbW8 := (b8.cell (p := ⟨W6.heap.size, 1, none⟩) (by show W6.heap.size < W7.heap.size; omega)).trans kgbW7
               have Aa0W8 := sl.hid (Aa0dW7.out.chg (sl.Chg.ofBelow (lo := 0) b8) (.inr (Nat.zero_le _)))
               have Aa1W8 := sl.hid (Aa1dW7.out.chg (sl.Chg.ofBelow (lo := 0) b8) (.inr (Nat.zero_le _)))
               have OrW8 := sl.hid (OrdW7.out.chg (sl.Chg.ofBelow (lo := 0) b8) (.inr (.inr (Nat.zero_le _))))
               have Ox0W8 := sl.hid (Ox0dW7.out.chg (sl.Chg.ofBelow (lo := 0) b8) (.inr (.inr (Nat.zero_le _))))
               have Ox1W8 := sl.hid (Ox1dW7.out.chg (sl.Chg.ofBelow (lo := 0) b8) (.inr (.inr (Nat.zero_le _))))
               have OgW8 := sl.hid (OgdW7.out.chg (sl.Chg.ofBelow (lo := 0) b8) (.inr (.inr (Nat.zero_le _))))
               have CW8 := sl.hid (CdW7.out.trans (b8.mono (by show w.heap.size ≤ W7.heap.size; omega)))
               clear b8 kp0aW7 kp0bW7 kp1aW7 kp1bW7 kraW7 krbW7 kx0aW7 kx0bW7 kx1aW7 kx1bW7 kgaW7 kgbW7 Aa0dW7 Aa1dW7 OrdW7 Ox0dW7 Ox1dW7 OgdW7 CdW7)
            | (go_at_call 19
               refine (br.eqBS a0 xs0 _ _ _ _ W8 Ox0W8.out.ints On8.out.ints hn0).mono ?_
               rintro e W9 ⟨rfl, b9⟩
               clear On8
               have hzW9 : W8.heap.size ≤ W9.heap.size := b9.size
               have kp0aW9 := (b9.cell (p := ⟨w.heap.size, 0, none⟩) (by show w.heap.size < W8.heap.size; omega)).trans kp0aW8
               have kp0bW9 := (b9.cell (p := ⟨w.heap.size, 1, none⟩) (by show w.heap.size < W8.heap.size; omega)).trans kp0bW8
               have kp1aW9 := (b9.cell (p := ⟨w.heap.size + 1, 0, none⟩) (by show w.heap.size + 1 < W8.heap.size; omega)).trans kp1aW8
               have kp1bW9 := (b9.cell (p := ⟨w.heap.size + 1, 1, none⟩) (by show w.heap.size + 1 < W8.heap.size; omega)).trans kp1bW8
               have kraW9 := (b9.cell (p := ⟨g3, 0, none⟩) (by show g3 < W8.heap.size; omega)).trans kraW8
               have krbW9 := (b9.cell (p := ⟨g3, 1, none⟩) (by show g3 < W8.heap.size; omega)).trans krbW8
               have kx0aW9 := (b9.cell (p := ⟨W4.heap.size, 0, none⟩) (by show W4.heap.size < W8.heap.size; omega)).trans kx0aW8
               have kx0bW9 := (b9.cell (p := ⟨W4.heap.size, 1, none⟩) (by show W4.heap.size < W8.heap.size; omega)).trans kx0bW8
               have kx1aW9 := (b9.cell (p := ⟨W5.heap.size, 0, none⟩) (by show W5.heap.size < W8.heap.size; omega)).trans kx1aW8
               have kx1bW9 := (b9.cell (p := ⟨W5.heap.size, 1, none⟩) (by show W5.heap.size < W8.heap.size; omega)).trans kx1bW8
               have kgaW9 := (b9.cell (p := ⟨W6.heap.size, 0, none⟩) (by show W6.heap.size < W8.heap.size; omega)).trans kgaW8
               have kgbW9 := (b9.cell (p := ⟨W6.heap.size, 1, none⟩) (by show W6.heap.size < W8.heap.size; omega)).trans kgbW8
               have Aa0W9 := sl.hid (Aa0W8.out.chg (sl.Chg.ofBelow (lo := 0) b9) (.inr (Nat.zero_le _)))
               have Aa1W9 := sl.hid (Aa1W8.out.chg (sl.Chg.ofBelow (lo := 0) b9) (.inr (Nat.zero_le _)))
               have OrW9 := sl.hid (OrW8.out.chg (sl.Chg.ofBelow (lo := 0) b9) (.inr (.inr (Nat.zero_le _))))
               have Ox0W9 := sl.hid (Ox0W8.out.chg (sl.Chg.ofBelow (lo := 0) b9) (.inr (.inr (Nat.zero_le _))))
               have Ox1W9 := sl.hid (Ox1W8.out.chg (sl.Chg.ofBelow (lo := 0) b9) (.inr (.inr (Nat.zero_le _))))
               have OgW9 := sl.hid (OgW8.out.chg (sl.Chg.ofBelow (lo := 0) b9) (.inr (.inr (Nat.zero_le _))))
               have CW9 := sl.hid (CW8.out.trans (b9.mono (by show w.heap.size ≤ W8.heap.size; omega)))
               clear b9 kp0aW8 kp0bW8 kp1aW8 kp1bW8 kraW8 krbW8 kx0aW8 kx0bW8 kx1aW8 kx1bW8 kgaW8 kgbW8 Aa0W8 Aa1W8 OrW8 Ox0W8 Ox1W8 OgW8 CW8))
        go_wp2_with fail
        have bD := (Below.refl W9.heap.size W9).drew
        have Aa0dW9 := sl.hid (Aa0W9.out.chg (sl.Chg.ofBelow (lo := 0) bD) (.inr (Nat.zero_le _)))
        have Aa1dW9 := sl.hid (Aa1W9.out.chg (sl.Chg.ofBelow (lo := 0) bD) (.inr (Nat.zero_le _)))
        have OrdW9 := sl.hid (OrW9.out.chg (sl.Chg.ofBelow (lo := 0) bD) (.inr (.inr (Nat.zero_le _))))
        have Ox0dW9 := sl.hid (Ox0W9.out.chg (sl.Chg.ofBelow (lo := 0) bD) (.inr (.inr (Nat.zero_le _))))
        have Ox1dW9 := sl.hid (Ox1W9.out.chg (sl.Chg.ofBelow (lo := 0) bD) (.inr (.inr (Nat.zero_le _))))
        have OgdW9 := sl.hid (OgW9.out.chg (sl.Chg.ofBelow (lo := 0) bD) (.inr (.inr (Nat.zero_le _))))
        have CdW9 := sl.hid (CW9.out.drew)
        clear bD Aa0W9 Aa1W9 OrW9 Ox0W9 Ox1W9 OgW9 CW9
        go_region_held3 (fun w' => w'.cell? ⟨w.heap.size + 1, 0, none⟩ = some (.int .i64 a1) ∧ w'.cell? ⟨w.heap.size + 1, 1, none⟩ = some (.slice b1 xs1.length cap1) ∧ w'.cell? ⟨W5.heap.size, 0, none⟩ = some (.int .i64 a1) ∧ w'.cell? ⟨W5.heap.size, 1, none⟩ = some (.slice ao5 xs1.length cap5)) (go_keep)
          (first
            | (go_at_call 17
               refine (br.toB a1 xs1 _ _ W9.drew Aa1dW9.out (by show w.heap.size ≤ W9.heap.size; omega) hn1).mono ?_
               rintro e W10 ⟨ao10, cap10, rfl, o10, b10⟩
               have On10 := sl.hid o10
               clear o10
               have hzW10 : W9.heap.size ≤ W10.heap.size := b10.size
               have kp0aW10 := (b10.cell (p := ⟨w.heap.size, 0, none⟩) (by show w.heap.size < W9.heap.size; omega)).trans kp0aW9
               have kp0bW10 := (b10.cell (p := ⟨w.heap.size, 1, none⟩) (by show w.heap.size < W9.heap.size; omega)).trans kp0bW9
               have kp1aW10 := (b10.cell (p := ⟨w.heap.size + 1, 0, none⟩) (by show w.heap.size + 1 < W9.heap.size; omega)).trans kp1aW9
               have kp1bW10 := (b10.cell (p := ⟨w.heap.size + 1, 1, none⟩) (by show w.heap.size + 1 < W9.heap.size; omega)).trans kp1bW9
               have kraW10 := (b10.cell (p := ⟨g3, 0, none⟩) (by show g3 < W9.heap.size; omega)).trans kraW9
               have krbW10 := (b10.cell (p := ⟨g3, 1, none⟩) (by show g3 < W9.heap.size; omega)).trans krbW9
               have kx0aW10 := (b10.cell (p := ⟨W4.heap.size, 0, none⟩) (by show W4.heap.size < W9.heap.size; omega)).trans kx0aW9
               have kx0bW10 := (b10.cell (p := ⟨W4.heap.size, 1, none⟩) (by show W4.heap.size < W9.heap.size; omega)).trans kx0bW9
               have kx1aW10 := (b10.cell (p := ⟨W5.heap.size, 0, none⟩) (by show W5.heap.size < W9.heap.size; omega)).trans kx1aW9
               have kx1bW10 := (b10.cell (p := ⟨W5.heap.size, 1, none⟩) (by show W5.heap.size < W9.heap.size; omega)).trans kx1bW9
               have kgaW10 := (b10.cell (p := ⟨W6.heap.size, 0, none⟩) (by show W6.heap.size < W9.heap.size; omega)).trans kgaW9
               have kgbW10 := (b10.cell (p := ⟨W6.heap.size, 1, none⟩) (by show W6.heap.size < W9.heap.size; omega)).trans kgbW9
               have Aa0W10 := sl.hid (Aa0dW9.out.chg (sl.Chg.ofBelow (lo := 0) b10) (.inr (Nat.zero_le _)))
               have Aa1W10 := sl.hid (Aa1dW9.out.chg (sl.Chg.ofBelow (lo := 0) b10) (.inr (Nat.zero_le _)))
               have OrW10 := sl.hid (OrdW9.out.chg (sl.Chg.ofBelow (lo := 0) b10) (.inr (.inr (Nat.zero_le _))))
               have Ox0W10 := sl.hid (Ox0dW9.out.chg (sl.Chg.ofBelow (lo := 0) b10) (.inr (.inr (Nat.zero_le _))))
               have Ox1W10 := sl.hid (Ox1dW9.out.chg (sl.Chg.ofBelow (lo := 0) b10) (.inr (.inr (Nat.zero_le _))))
               have OgW10 := sl.hid (OgdW9.out.chg (sl.Chg.ofBelow (lo := 0) b10) (.inr (.inr (Nat.zero_le _))))
               have CW10 := sl.hid (CdW9.out.trans (b10.mono (by show w.heap.size ≤ W9.heap.size; omega)))
               clear b10 kp0aW9 kp0bW9 kp1aW9 kp1bW9 kraW9 krbW9 kx0aW9 kx0bW9 kx1aW9 kx1bW9 kgaW9 kgbW9 Aa0dW9 Aa1dW9 OrdW9 Ox0dW9 Ox1dW9 OgdW9 CdW9)
            | (go_at_call 19
               refine (br.eqBS a1 xs1 _ _ _ _ W10 Ox1W10.out.ints On10.out.ints hn1).mono ?_
               rintro e W11 ⟨rfl, b11⟩
               clear On10
               have hzW11 : W10.heap.size ≤ W11.heap.size := b11.size
               have kp0aW11 := (b11.cell (p := ⟨w.heap.size, 0, none⟩) (by show w.heap.size < W10.heap.size; omega)).trans kp0aW10
               have kp0bW11 := (b11.cell (p := ⟨w.heap.size, 1, none⟩) (by show w.heap.size < W10.heap.size; omega)).trans kp0bW10
               have kp1aW11 := (b11.cell (p := ⟨w.heap.size + 1, 0, none⟩) (by show w.heap.size + 1 < W10.heap.size; omega)).trans kp1aW10
               have kp1bW11 := (b11.cell (p := ⟨w.heap.size + 1, 1, none⟩) (by show w.heap.size + 1 < W10.heap.size; omega)).trans kp1bW10
               have kraW11 := (b11.cell (p := ⟨g3, 0, none⟩) (by show g3 < W10.heap.size; omega)).trans kraW10
               have krbW11 := (b11.cell (p := ⟨g3, 1, none⟩) (by show g3 < W10.heap.size; omega)).trans krbW10
               have kx0aW11 := (b11.cell (p := ⟨W4.heap.size, 0, none⟩) (by show W4.heap.size < W10.heap.size; omega)).trans kx0aW10
               have kx0bW11 := (b11.cell (p := ⟨W4.heap.size, 1, none⟩) (by show W4.heap.size < W10.heap.size; omega)).trans kx0bW10
               have kx1aW11 := (b11.cell (p := ⟨W5.heap.size, 0, none⟩) (by show W5.heap.size < W10.heap.size; omega)).trans kx1aW10
               have kx1bW11 := (b11.cell (p := ⟨W5.heap.size, 1, none⟩) (by show W5.heap.size < W10.heap.size; omega)).trans kx1bW10
               have kgaW11 := (b11.cell (p := ⟨W6.heap.size, 0, none⟩) (by show W6.heap.size < W10.heap.size; omega)).trans kgaW10
               have kgbW11 := (b11.cell (p := ⟨W6.heap.size, 1, none⟩) (by show W6.heap.size < W10.heap.size; omega)).trans kgbW10
               have Aa0W11 := sl.hid (Aa0W10.out.chg (sl.Chg.ofBelow (lo := 0) b11) (.inr (Nat.zero_le _)))
               have Aa1W11 := sl.hid (Aa1W10.out.chg (sl.Chg.ofBelow (lo := 0) b11) (.inr (Nat.zero_le _)))
               have OrW11 := sl.hid (OrW10.out.chg (sl.Chg.ofBelow (lo := 0) b11) (.inr (.inr (Nat.zero_le _))))
               have Ox0W11 := sl.hid (Ox0W10.out.chg (sl.Chg.ofBelow (lo := 0) b11) (.inr (.inr (Nat.zero_le _))))
               have Ox1W11 := sl.hid (Ox1W10.out.chg (sl.Chg.ofBelow (lo := 0) b11) (.inr (.inr (Nat.zero_le _))))
               have OgW11 := sl.hid (OgW10.out.chg (sl.Chg.ofBelow (lo := 0) b11) (.inr (.inr (Nat.zero_le _))))
               have CW11 := sl.hid (CW10.out.trans (b11.mono (by show w.heap.size ≤ W10.heap.size; omega)))
               clear b11 kp0aW10 kp0bW10 kp1aW10 kp1bW10 kraW10 krbW10 kx0aW10 kx0bW10 kx1aW10 kx1bW10 kgaW10 kgbW10 Aa0W10 Aa1W10 OrW10 Ox0W10 Ox1W10 OgW10 CW10))
        go_wp2_with fail
        refine (br.markB _ xs0 _ _ _ (1) W11 Ox0W11.out hn0 (by omega) (by omega)).mono ?_
        rintro e W12 ⟨rfl, o12, c12⟩
        have hzW12 : W11.heap.size ≤ W12.heap.size := c12.size
        have On12 := sl.hid o12
        clear o12
        have kp0aW12 := (World.cell?_of_block (w := W11) (w' := W12) (a := ⟨w.heap.size, 0, none⟩) (c12.block (w.heap.size) (by omega) (by omega))).trans kp0aW11
        have kp0bW12 := (World.cell?_of_block (w := W11) (w' := W12) (a := ⟨w.heap.size, 1, none⟩) (c12.block (w.heap.size) (by omega) (by omega))).trans kp0bW11
        have kp1aW12 := (World.cell?_of_block (w := W11) (w' := W12) (a := ⟨w.heap.size + 1, 0, none⟩) (c12.block (w.heap.size + 1) (by omega) (by omega))).trans kp1aW11
        have kp1bW12 := (World.cell?_of_block (w := W11) (w' := W12) (a := ⟨w.heap.size + 1, 1, none⟩) (c12.block (w.heap.size + 1) (by omega) (by omega))).trans kp1bW11
        have kraW12 := (World.cell?_of_block (w := W11) (w' := W12) (a := ⟨g3, 0, none⟩) (c12.block (g3) (by omega) (by omega))).trans kraW11
        have krbW12 := (World.cell?_of_block (w := W11) (w' := W12) (a := ⟨g3, 1, none⟩) (c12.block (g3) (by omega) (by omega))).trans krbW11
        have kx0aW12 := (World.cell?_of_block (w := W11) (w' := W12) (a := ⟨W4.heap.size, 0, none⟩) (c12.block (W4.heap.size) (by omega) (by omega))).trans kx0aW11
        have kx0bW12 := (World.cell?_of_block (w := W11) (w' := W12) (a := ⟨W4.heap.size, 1, none⟩) (c12.block (W4.heap.size) (by omega) (by omega))).trans kx0bW11
        have kx1aW12 := (World.cell?_of_block (w := W11) (w' := W12) (a := ⟨W5.heap.size, 0, none⟩) (c12.block (W5.heap.size) (by omega) (by omega))).trans kx1aW11
        have kx1bW12 := (World.cell?_of_block (w := W11) (w' := W12) (a := ⟨W5.heap.size, 1, none⟩) (c12.block (W5.heap.size) (by omega) (by omega))).trans kx1bW11
        have kgaW12 := (World.cell?_of_block (w := W11) (w' := W12) (a := ⟨W6.heap.size, 0, none⟩) (c12.block (W6.heap.size) (by omega) (by omega))).trans kgaW11
        have kgbW12 := (World.cell?_of_block (w := W11) (w' := W12) (a := ⟨W6.heap.size, 1, none⟩) (c12.block (W6.heap.size) (by omega) (by omega))).trans kgbW11
        have Aa0W12 := sl.hid (Aa0W11.out.chg c12 (.inl (by omega)))
        have Aa1W12 := sl.hid (Aa1W11.out.chg c12 (.inl (by omega)))
        have OrW12 := sl.hid (OrW11.out.chg c12 (by omega))
        have Ox1W12 := sl.hid (Ox1W11.out.chg c12 (by omega))
        have OgW12 := sl.hid (OgW11.out.chg c12 (by omega))
        have CW12 := sl.hid (CW11.out.trans (c12.below (by omega) (by omega)))
        clear c12 Ox0W11 kp0aW11 kp0bW11 kp1aW11 kp1bW11 kraW11 krbW11 kx0aW11 kx0bW11 kx1aW11 kx1bW11 kgaW11 kgbW11 Aa0W11 Aa1W11 OrW11 Ox1W11 OgW11 CW11
        go_wp2_with fail
        refine (br.markB _ xs1 _ _ _ (1 + (xs0.length : Nat)) W12 Ox1W12.out hn1 (by omega) (by omega)).mono ?_
        rintro e W13 ⟨rfl, o13, c13⟩
        have hzW13 : W12.heap.size ≤ W13.heap.size := c13.size
        have On13 := sl.hid o13
        clear o13
        have kp0aW13 := (World.cell?_of_block (w := W12) (w' := W13) (a := ⟨w.heap.size, 0, none⟩) (c13.block (w.heap.size) (by omega) (by omega))).trans kp0aW12
        have kp0bW13 := (World.cell?_of_block (w := W12) (w' := W13) (a := ⟨w.heap.size, 1, none⟩) (c13.block (w.heap.size) (by omega) (by omega))).trans kp0bW12
        have kp1aW13 := (World.cell?_of_block (w := W12) (w' := W13) (a := ⟨w.heap.size + 1, 0, none⟩) (c13.block (w.heap.size + 1) (by omega) (by omega))).trans kp1aW12
        have kp1bW13 := (World.cell?_of_block (w := W12) (w' := W13) (a := ⟨w.heap.size + 1, 1, none⟩) (c13.block (w.heap.size + 1) (by omega) (by omega))).trans kp1bW12
        have kraW13 := (World.cell?_of_block (w := W12) (w' := W13) (a := ⟨g3, 0, none⟩) (c13.block (g3) (by omega) (by omega))).trans kraW12
        have krbW13 := (World.cell?_of_block (w := W12) (w' := W13) (a := ⟨g3, 1, none⟩) (c13.block (g3) (by omega) (by omega))).trans krbW12
        have kx0aW13 := (World.cell?_of_block (w := W12) (w' := W13) (a := ⟨W4.heap.size, 0, none⟩) (c13.block (W4.heap.size) (by omega) (by omega))).trans kx0aW12
        have kx0bW13 := (World.cell?_of_block (w := W12) (w' := W13) (a := ⟨W4.heap.size, 1, none⟩) (c13.block (W4.heap.size) (by omega) (by omega))).trans kx0bW12
        have kx1aW13 := (World.cell?_of_block (w := W12) (w' := W13) (a := ⟨W5.heap.size, 0, none⟩) (c13.block (W5.heap.size) (by omega) (by omega))).trans kx1aW12
        have kx1bW13 := (World.cell?_of_block (w := W12) (w' := W13) (a := ⟨W5.heap.size, 1, none⟩) (c13.block (W5.heap.size) (by omega) (by omega))).trans kx1bW12
        have kgaW13 := (World.cell?_of_block (w := W12) (w' := W13) (a := ⟨W6.heap.size, 0, none⟩) (c13.block (W6.heap.size) (by omega) (by omega))).trans kgaW12
        have kgbW13 := (World.cell?_of_block (w := W12) (w' := W13) (a := ⟨W6.heap.size, 1, none⟩) (c13.block (W6.heap.size) (by omega) (by omega))).trans kgbW12
        have Aa0W13 := sl.hid (Aa0W12.out.chg c13 (.inl (by omega)))
        have Aa1W13 := sl.hid (Aa1W12.out.chg c13 (.inl (by omega)))
        have OrW13 := sl.hid (OrW12.out.chg c13 (by omega))
        have Ox0W13 := sl.hid (On12.out.chg c13 (by omega))
        have OgW13 := sl.hid (OgW12.out.chg c13 (by omega))
        have CW13 := sl.hid (CW12.out.trans (c13.below (by omega) (by omega)))
        clear c13 Ox1W12 kp0aW12 kp0bW12 kp1aW12 kp1bW12 kraW12 krbW12 kx0aW12 kx0bW12 kx1aW12 kx1bW12 kgaW12 kgbW12 Aa0W12 Aa1W12 OrW12 On12 OgW12 CW12
        go_wp2_with fail
        refine (br.eqBS sr zr _ _ _ _ W13 OgW13.out.ints OrW13.out.ints hr).mono ?_
        rintro e W14 ⟨rfl, b14⟩
        have hzW14 : W13.heap.size ≤ W14.heap.size := b14.size
        have kp0aW14 := (b14.cell (p := ⟨w.heap.size, 0, none⟩) (by show w.heap.size < W13.heap.size; omega)).trans kp0aW13
        have kp0bW14 := (b14.cell (p := ⟨w.heap.size, 1, none⟩) (by show w.heap.size < W13.heap.size; omega)).trans kp0bW13
        have kp1aW14 := (b14.cell (p := ⟨w.heap.size + 1, 0, none⟩) (by show w.heap.size + 1 < W13.heap.size; omega)).trans kp1aW13
        have kp1bW14 := (b14.cell (p := ⟨w.heap.size + 1, 1, none⟩) (by show w.heap.size + 1 < W13.heap.size; omega)).trans kp1bW13
        have kraW14 := (b14.cell (p := ⟨g3, 0, none⟩) (by show g3 < W13.heap.size; omega)).trans kraW13
        have krbW14 := (b14.cell (p := ⟨g3, 1, none⟩) (by show g3 < W13.heap.size; omega)).trans krbW13
        have kgaW14 := (b14.cell (p := ⟨W6.heap.size, 0, none⟩) (by show W6.heap.size < W13.heap.size; omega)).trans kgaW13
        have kgbW14 := (b14.cell (p := ⟨W6.heap.size, 1, none⟩) (by show W6.heap.size < W13.heap.size; omega)).trans kgbW13
        have Aa0W14 := sl.hid (Aa0W13.out.chg (sl.Chg.ofBelow (lo := 0) b14) (.inr (Nat.zero_le _)))
        have Aa1W14 := sl.hid (Aa1W13.out.chg (sl.Chg.ofBelow (lo := 0) b14) (.inr (Nat.zero_le _)))
        have OrW14 := sl.hid (OrW13.out.chg (sl.Chg.ofBelow (lo := 0) b14) (.inr (.inr (Nat.zero_le _))))
        have OgW14 := sl.hid (OgW13.out.chg (sl.Chg.ofBelow (lo := 0) b14) (.inr (.inr (Nat.zero_le _))))
        have CW14 := sl.hid (CW13.out.trans (b14.mono (by omega)))
        clear b14 kp0aW13 kp0bW13 kp1aW13 kp1bW13 kraW13 krbW13 kgaW13 kgbW13 Aa0W13 Aa1W13 OrW13 OgW13 CW13
        go_wp2_with fail
        refine (br.markB _ zr _ _ _ (1) W14 OgW14.out hr (by omega) (by omega)).mono ?_
        rintro e W15 ⟨rfl, o15, c15⟩
        have hzW15 : W14.heap.size ≤ W15.heap.size := c15.size
        have On15 := sl.hid o15
        clear o15
        have kp0aW15 := (World.cell?_of_block (w := W14) (w' := W15) (a := ⟨w.heap.size, 0, none⟩) (c15.block (w.heap.size) (by omega) (by omega))).trans kp0aW14
        have kp0bW15 := (World.cell?_of_block (w := W14) (w' := W15) (a := ⟨w.heap.size, 1, none⟩) (c15.block (w.heap.size) (by omega) (by omega))).trans kp0bW14
        have kp1aW15 := (World.cell?_of_block (w := W14) (w' := W15) (a := ⟨w.heap.size + 1, 0, none⟩) (c15.block (w.heap.size + 1) (by omega) (by omega))).trans kp1aW14
        have kp1bW15 := (World.cell?_of_block (w := W14) (w' := W15) (a := ⟨w.heap.size + 1, 1, none⟩) (c15.block (w.heap.size + 1) (by omega) (by omega))).trans kp1bW14
        have kraW15 := (World.cell?_of_block (w := W14) (w' := W15) (a := ⟨g3, 0, none⟩) (c15.block (g3) (by omega) (by omega))).trans kraW14
        have krbW15 := (World.cell?_of_block (w := W14) (w' := W15) (a := ⟨g3, 1, none⟩) (c15.block (g3) (by omega) (by omega))).trans krbW14
        have kgaW15 := (World.cell?_of_block (w := W14) (w' := W15) (a := ⟨W6.heap.size, 0, none⟩) (c15.block (W6.heap.size) (by omega) (by omega))).trans kgaW14
        have kgbW15 := (World.cell?_of_block (w := W14) (w' := W15) (a := ⟨W6.heap.size, 1, none⟩) (c15.block (W6.heap.size) (by omega) (by omega))).trans kgbW14
        have Aa0W15 := sl.hid (Aa0W14.out.chg c15 (.inl (by omega)))
        have Aa1W15 := sl.hid (Aa1W14.out.chg c15 (.inl (by omega)))
        have OrW15 := sl.hid (OrW14.out.chg c15 (by omega))
        have CW15 := sl.hid (CW14.out.trans (c15.below (by omega) (by omega)))
        clear c15 OgW14 kp0aW14 kp0bW14 kp1aW14 kp1bW14 kraW14 krbW14 kgaW14 kgbW14 Aa0W14 Aa1W14 OrW14 CW14
        go_wp2_with fail
        refine (br.heldB _ zr.length _ _ 1 W15 On15.out.ints hr (by omega) (by omega)).mono ?_
        rintro e W16 ⟨rfl, b16⟩
        have hzW16 : W15.heap.size ≤ W16.heap.size := b16.size
        have kp0aW16 := (b16.cell (p := ⟨w.heap.size, 0, none⟩) (by show w.heap.size < W15.heap.size; omega)).trans kp0aW15
        have kp0bW16 := (b16.cell (p := ⟨w.heap.size, 1, none⟩) (by show w.heap.size < W15.heap.size; omega)).trans kp0bW15
        have kp1aW16 := (b16.cell (p := ⟨w.heap.size + 1, 0, none⟩) (by show w.heap.size + 1 < W15.heap.size; omega)).trans kp1aW15
        have kp1bW16 := (b16.cell (p := ⟨w.heap.size + 1, 1, none⟩) (by show w.heap.size + 1 < W15.heap.size; omega)).trans kp1bW15
        have kraW16 := (b16.cell (p := ⟨g3, 0, none⟩) (by show g3 < W15.heap.size; omega)).trans kraW15
        have krbW16 := (b16.cell (p := ⟨g3, 1, none⟩) (by show g3 < W15.heap.size; omega)).trans krbW15
        have kgaW16 := (b16.cell (p := ⟨W6.heap.size, 0, none⟩) (by show W6.heap.size < W15.heap.size; omega)).trans kgaW15
        have kgbW16 := (b16.cell (p := ⟨W6.heap.size, 1, none⟩) (by show W6.heap.size < W15.heap.size; omega)).trans kgbW15
        have Aa0W16 := sl.hid (Aa0W15.out.chg (sl.Chg.ofBelow (lo := 0) b16) (.inr (Nat.zero_le _)))
        have Aa1W16 := sl.hid (Aa1W15.out.chg (sl.Chg.ofBelow (lo := 0) b16) (.inr (Nat.zero_le _)))
        have OrW16 := sl.hid (OrW15.out.chg (sl.Chg.ofBelow (lo := 0) b16) (.inr (.inr (Nat.zero_le _))))
        have OgW16 := sl.hid (On15.out.chg (sl.Chg.ofBelow (lo := 0) b16) (.inr (.inr (Nat.zero_le _))))
        have CW16 := sl.hid (CW15.out.trans (b16.mono (by omega)))
        clear b16 kp0aW15 kp0bW15 kp1aW15 kp1bW15 kraW15 krbW15 kgaW15 kgbW15 Aa0W15 Aa1W15 OrW15 On15 CW15
        have HKW16 : Hid (br.Kq w W16 a0 a1 (.slice b0 xs0.length cap0) xs0 (.slice b1 xs1.length cap1) xs1 W16) := sl.hid ⟨⟨Aa0W16.out, Aa1W16.out, Nat.le_refl _, Below.refl _ _⟩, by omega, kp0aW16, kp0bW16, kp1aW16, kp1bW16⟩
        have TB0W16 : Hid (∀ W : World, br.Kq w W16 a0 a1 (.slice b0 xs0.length cap0) xs0 (.slice b1 xs1.length cap1) xs1 W → Calls Try.prog 17 #[.agg #[.int .i64 a0, (.slice b0 xs0.length cap0)]] W fun e W' => ∃ ao cap, e = .returned (.agg #[.int .i64 a0, .slice ao xs0.length cap]) ∧ br.Iq W' (.slice ao xs0.length cap) xs0 ∧ fn.NilOk (.slice ao xs0.length cap) ∧ Below W.heap.size W W') := sl.hid (fun W k => br.toBq a0 _ _ xs0 hn0 W _ k.1.1 (by have := k.1.2.2.1; have := k.2.1; omega))
        have TB1W16 : Hid (∀ W : World, br.Kq w W16 a0 a1 (.slice b0 xs0.length cap0) xs0 (.slice b1 xs1.length cap1) xs1 W → Calls Try.prog 17 #[.agg #[.int .i64 a1, (.slice b1 xs1.length cap1)]] W fun e W' => ∃ ao cap, e = .returned (.agg #[.int .i64 a1, .slice ao xs1.length cap]) ∧ br.Iq W' (.slice ao xs1.length cap) xs1 ∧ fn.NilOk (.slice ao xs1.length cap) ∧ Below W.heap.size W W') := sl.hid (fun W k => br.toBq a1 _ _ xs1 hn1 W _ k.1.2.1 (by have := k.1.2.2.1; have := k.2.1; omega))
        have JPW16 : Hid (∀ (W : World) (u0 u1 : Value), br.Iq W u0 xs0 → br.Iq W u1 xs1 → fn.NilOk u0 → fn.NilOk u1 → br.Kq w W16 a0 a1 (.slice b0 xs0.length cap0) xs0 (.slice b1 xs1.length cap1) xs1 W → Calls Try.prog 38 #[.agg #[.int .i64 a0, u0], .agg #[.int .i64 a1, u1]] W fun e W' => ∃ ao cap, e = .returned (.tuple #[.agg #[.int .i64 sr, .slice ao zr.length cap], .int .i64 qi]) ∧ sl.Own W' W.heap.size W'.heap.size (.slice ao zr.length cap) zr ∧ Below W.heap.size W W') := sl.hid (fun W u0 u1 i0 i1 n0 n1 k => by
          obtain ⟨C0, l0, i0⟩ := i0
          obtain ⟨C1, l1, i1⟩ := i1
          refine (IP.out u0 u1 W C0 C1 i0 l0 i1 l1 n0 n1).mono ?_
          rintro e W2 ⟨ao, cap, rfl, o, b⟩
          exact ⟨ao, cap, rfl, o, b⟩)
        have hl0W16 : w.heap.size < W16.heap.size := by omega
        have hl1W16 : w.heap.size + 1 < W16.heap.size := by omega
        go_upto_region 31 with fail
        go_cut [15, 16] from 94 to 101 (fun p q wc => ∃ (g : Nat) (ao : Option Addr) (cap : Nat), p = .pointer (some ⟨g, 0, none⟩) ∧ q = .int .i64 qi ∧ br.Rq W16 sr zr g ao cap wc)
        case first =>
          go_region_with (first
            | (go_at_call_of 17 (Value.agg #[.int .i64 a0, .slice b0 xs0.length cap0])
               have hchk := HIc1
               refine (TB0W16.out _ ?_).mono ?_
               · (first | exact HKA.out | exact HKA.out.drew | exact HKA.out.alloc _ | exact (HKA.out.alloc _).drew | exact (HKA.out.drew).alloc _)
               rintro e Y2 ⟨aoc0, capc0, rfl, ic0, nc0, bB⟩
               have HKB := sl.hid ((show br.Kq w W16 a0 a1 (.slice b0 xs0.length cap0) xs0 (.slice b1 xs1.length cap1) xs1 _ from by (first | exact HKA.out | exact HKA.out.drew | exact HKA.out.alloc _ | exact (HKA.out.alloc _).drew | exact (HKA.out.drew).alloc _)).below bB)
               have HJ0 := sl.hid ic0
               have HNc0 := sl.hid nc0
               have HJ1 := sl.hid ((show br.Iq _ (.slice aoc1 xs1.length capc1) xs1 from by (first | exact HIc1.out | exact HIc1.out.drew | exact HIc1.out.alloc _ | exact (HIc1.out.alloc _).drew | exact (HIc1.out.drew).alloc _)).below bB)
               obtain ⟨hcB, hfB⟩ := br.bcell bB
               have hzB := bB.size
               obtain ⟨pB0, pB1, pB2, pB3⟩ := HKB.out.2.2
               try simp at hcB
               try simp at hfB
               try simp at hzB
               have hl0B : w.heap.size < Y2.heap.size := by omega
               have hl1B : w.heap.size + 1 < Y2.heap.size := by omega
               have hyB : Y1.heap.size ≤ Y2.heap.size := by first | exact hzB | omega
               try have qB0 : W16.heap.size < Y2.heap.size := by omega
               try have qB1 : Y1.heap.size < Y2.heap.size := by omega
               clear ic0 nc0 HIc1 bB hchk)
            | (go_at_call_of 17 (Value.agg #[.int .i64 a1, .slice b1 xs1.length cap1])
               have hchk := HIc0
               refine (TB1W16.out _ ?_).mono ?_
               · (first | exact HKA.out | exact HKA.out.drew | exact HKA.out.alloc _ | exact (HKA.out.alloc _).drew | exact (HKA.out.drew).alloc _)
               rintro e Y2 ⟨aoc1, capc1, rfl, ic1, nc1, bB⟩
               have HKB := sl.hid ((show br.Kq w W16 a0 a1 (.slice b0 xs0.length cap0) xs0 (.slice b1 xs1.length cap1) xs1 _ from by (first | exact HKA.out | exact HKA.out.drew | exact HKA.out.alloc _ | exact (HKA.out.alloc _).drew | exact (HKA.out.drew).alloc _)).below bB)
               have HJ1 := sl.hid ic1
               have HNc1 := sl.hid nc1
               have HJ0 := sl.hid ((show br.Iq _ (.slice aoc0 xs0.length capc0) xs0 from by (first | exact HIc0.out | exact HIc0.out.drew | exact HIc0.out.alloc _ | exact (HIc0.out.alloc _).drew | exact (HIc0.out.drew).alloc _)).below bB)
               obtain ⟨hcB, hfB⟩ := br.bcell bB
               have hzB := bB.size
               obtain ⟨pB0, pB1, pB2, pB3⟩ := HKB.out.2.2
               try simp at hcB
               try simp at hfB
               try simp at hzB
               have hl0B : w.heap.size < Y2.heap.size := by omega
               have hl1B : w.heap.size + 1 < Y2.heap.size := by omega
               have hyB : Y1.heap.size ≤ Y2.heap.size := by first | exact hzB | omega
               try have qB0 : W16.heap.size < Y2.heap.size := by omega
               try have qB1 : Y1.heap.size < Y2.heap.size := by omega
               clear ic1 nc1 HIc0 bB hchk)
            | (go_at_call_of 17 (Value.agg #[.int .i64 a0, .slice b0 xs0.length cap0])
               refine (TB0W16.out _ ?_).mono ?_
               · (first | exact HKW16.out | exact HKW16.out.drew | exact HKW16.out.alloc _ | exact (HKW16.out.alloc _).drew | exact (HKW16.out.drew).alloc _)
               rintro e Y1 ⟨aoc0, capc0, rfl, ic0, nc0, bA⟩
               have HKA := sl.hid ((show br.Kq w W16 a0 a1 (.slice b0 xs0.length cap0) xs0 (.slice b1 xs1.length cap1) xs1 _ from by (first | exact HKW16.out | exact HKW16.out.drew | exact HKW16.out.alloc _ | exact (HKW16.out.alloc _).drew | exact (HKW16.out.drew).alloc _)).below bA)
               have HIc0 := sl.hid ic0
               have HNc0 := sl.hid nc0
               obtain ⟨hcA, hfA⟩ := br.bcell bA
               have hzA := bA.size
               obtain ⟨pA0, pA1, pA2, pA3⟩ := HKA.out.2.2
               try simp at hcA
               try simp at hfA
               try simp at hzA
               have hl0A : w.heap.size < Y1.heap.size := by omega
               have hl1A : w.heap.size + 1 < Y1.heap.size := by omega
               have hyA : W16.heap.size ≤ Y1.heap.size := by first | exact hzA | omega
               try have qA0 : W16.heap.size < Y1.heap.size := by omega
               clear ic0 nc0 bA)
            | (go_at_call_of 17 (Value.agg #[.int .i64 a1, .slice b1 xs1.length cap1])
               refine (TB1W16.out _ ?_).mono ?_
               · (first | exact HKW16.out | exact HKW16.out.drew | exact HKW16.out.alloc _ | exact (HKW16.out.alloc _).drew | exact (HKW16.out.drew).alloc _)
               rintro e Y1 ⟨aoc1, capc1, rfl, ic1, nc1, bA⟩
               have HKA := sl.hid ((show br.Kq w W16 a0 a1 (.slice b0 xs0.length cap0) xs0 (.slice b1 xs1.length cap1) xs1 _ from by (first | exact HKW16.out | exact HKW16.out.drew | exact HKW16.out.alloc _ | exact (HKW16.out.alloc _).drew | exact (HKW16.out.drew).alloc _)).below bA)
               have HIc1 := sl.hid ic1
               have HNc1 := sl.hid nc1
               obtain ⟨hcA, hfA⟩ := br.bcell bA
               have hzA := bA.size
               obtain ⟨pA0, pA1, pA2, pA3⟩ := HKA.out.2.2
               try simp at hcA
               try simp at hfA
               try simp at hzA
               have hl0A : w.heap.size < Y1.heap.size := by omega
               have hl1A : w.heap.size + 1 < Y1.heap.size := by omega
               have hyA : W16.heap.size ≤ Y1.heap.size := by first | exact hzA | omega
               try have qA0 : W16.heap.size < Y1.heap.size := by omega
               clear ic1 nc1 bA)
            | (go_at_call 38
               refine (JPW16.out _ _ _ ?_ ?_ HNc0.out HNc1.out ?_).mono ?_
               · (first | exact HJ0.out | exact HJ0.out.drew | exact HJ0.out.alloc _ | exact (HJ0.out.alloc _).drew | exact (HJ0.out.drew).alloc _)
               · (first | exact HJ1.out | exact HJ1.out.drew | exact HJ1.out.alloc _ | exact (HJ1.out.alloc _).drew | exact (HJ1.out.drew).alloc _)
               · (first | exact HKB.out | exact HKB.out.drew | exact HKB.out.alloc _ | exact (HKB.out.alloc _).drew | exact (HKB.out.drew).alloc _)
               rintro e Y3 ⟨aor, capr, rfl, oR, bC⟩
               have HKC := sl.hid ((show br.Kq w W16 a0 a1 (.slice b0 xs0.length cap0) xs0 (.slice b1 xs1.length cap1) xs1 _ from by (first | exact HKB.out | exact HKB.out.drew | exact HKB.out.alloc _ | exact (HKB.out.alloc _).drew | exact (HKB.out.drew).alloc _)).below bC)
               have HO := sl.hid oR
               obtain ⟨hcC, hfC⟩ := br.bcell bC
               have hzC := bC.size
               obtain ⟨pC0, pC1, pC2, pC3⟩ := HKC.out.2.2
               try simp at hcC
               try simp at hfC
               try simp at hzC
               have hl0C : w.heap.size < Y3.heap.size := by omega
               have hl1C : w.heap.size + 1 < Y3.heap.size := by omega
               have hyC : Y2.heap.size ≤ Y3.heap.size := by first | exact hzC | omega
               try have qC0 : W16.heap.size < Y3.heap.size := by omega
               try have qC1 : Y1.heap.size < Y3.heap.size := by omega
               try have qC2 : Y2.heap.size < Y3.heap.size := by omega
               clear oR bC)
            )
          all_goals
            go_wp2_with fail
            go_meet
            first
              | exact ⟨_, aor, capr, rfl, rfl, br.meetA HKC.out.1.2.2.2 HO.out (by first | omega | (simp; done) | (simp; omega))⟩
              | exact ⟨_, aor, capr, rfl, rfl, br.meetB HKC.out.1.2.2.2 HO.out (by first | omega | (simp; done) | (simp; omega)) Y2.heap.size (by omega) (by first | omega | (simp; done) | (simp; omega)) (by omega) ((hcC _ _ (by omega)).trans (World.cell?_alloc_at _ _ _ _ rfl)) ((hcC _ _ (by omega)).trans (World.cell?_alloc_at _ _ _ _ rfl))⟩
              | exact ⟨_, aor, capr, rfl, rfl, br.meetB HKC.out.1.2.2.2 HO.out (by first | omega | (simp; done) | (simp; omega)) Y1.heap.size (by omega) (by first | omega | (simp; done) | (simp; omega)) (by omega) ((hcC _ _ (by omega)).trans ((hcB _ _ (by omega)).trans (World.cell?_alloc_at _ _ _ _ rfl))) ((hcC _ _ (by omega)).trans ((hcB _ _ (by omega)).trans (World.cell?_alloc_at _ _ _ _ rfl)))⟩
              | exact ⟨_, aor, capr, rfl, rfl, br.meetB HKC.out.1.2.2.2 HO.out (by first | omega | (simp; done) | (simp; omega)) W16.heap.size (by omega) (by first | omega | (simp; done) | (simp; omega)) (by omega) ((hcC _ _ (by omega)).trans ((hcB _ _ (by omega)).trans ((hcA _ _ (by omega)).trans (World.cell?_alloc_at _ _ _ _ rfl)))) ((hcC _ _ (by omega)).trans ((hcB _ _ (by omega)).trans ((hcA _ _ (by omega)).trans (World.cell?_alloc_at _ _ _ _ rfl))))⟩
        case rest =>
          obtain ⟨g17, ao17, cap17, rfl, rfl, c017, c117, o17, hg17, hk17, b17⟩ := hcut
          have hg017 : g17 < wc.heap.size := hk17
          generalize wc = W17 at *
          have On17 := sl.hid o17
          clear o17 HKW16 TB0W16 TB1W16 JPW16
          have hzW17 : W16.heap.size ≤ W17.heap.size := b17.size
          have kp0aW17 := (b17.cell (p := ⟨w.heap.size, 0, none⟩) (by show w.heap.size < W16.heap.size; omega)).trans kp0aW16
          have kp0bW17 := (b17.cell (p := ⟨w.heap.size, 1, none⟩) (by show w.heap.size < W16.heap.size; omega)).trans kp0bW16
          have kp1aW17 := (b17.cell (p := ⟨w.heap.size + 1, 0, none⟩) (by show w.heap.size + 1 < W16.heap.size; omega)).trans kp1aW16
          have kp1bW17 := (b17.cell (p := ⟨w.heap.size + 1, 1, none⟩) (by show w.heap.size + 1 < W16.heap.size; omega)).trans kp1bW16
          have kraW17 := (b17.cell (p := ⟨g3, 0, none⟩) (by show g3 < W16.heap.size; omega)).trans kraW16
          have krbW17 := (b17.cell (p := ⟨g3, 1, none⟩) (by show g3 < W16.heap.size; omega)).trans krbW16
          have kgaW17 := (b17.cell (p := ⟨W6.heap.size, 0, none⟩) (by show W6.heap.size < W16.heap.size; omega)).trans kgaW16
          have kgbW17 := (b17.cell (p := ⟨W6.heap.size, 1, none⟩) (by show W6.heap.size < W16.heap.size; omega)).trans kgbW16
          have Aa0W17 := sl.hid (Aa0W16.out.chg (sl.Chg.ofBelow (lo := 0) b17) (.inr (Nat.zero_le _)))
          have Aa1W17 := sl.hid (Aa1W16.out.chg (sl.Chg.ofBelow (lo := 0) b17) (.inr (Nat.zero_le _)))
          have OrW17 := sl.hid (OrW16.out.chg (sl.Chg.ofBelow (lo := 0) b17) (.inr (.inr (Nat.zero_le _))))
          have OgW17 := sl.hid (OgW16.out.chg (sl.Chg.ofBelow (lo := 0) b17) (.inr (.inr (Nat.zero_le _))))
          have CW17 := sl.hid (CW16.out.trans (b17.mono (by omega)))
          clear b17 kp0aW16 kp0bW16 kp1aW16 kp1bW16 kraW16 krbW16 kgaW16 kgbW16 Aa0W16 Aa1W16 OrW16 OgW16 CW16
          go_wp2_with fail
          refine (br.eqBS sr zr _ _ _ _ W17 On17.out.ints OrW17.out.ints hr).mono ?_
          rintro e W18 ⟨rfl, b18⟩
          have hzW18 : W17.heap.size ≤ W18.heap.size := b18.size
          have kp0aW18 := (b18.cell (p := ⟨w.heap.size, 0, none⟩) (by show w.heap.size < W17.heap.size; omega)).trans kp0aW17
          have kp0bW18 := (b18.cell (p := ⟨w.heap.size, 1, none⟩) (by show w.heap.size < W17.heap.size; omega)).trans kp0bW17
          have kp1aW18 := (b18.cell (p := ⟨w.heap.size + 1, 0, none⟩) (by show w.heap.size + 1 < W17.heap.size; omega)).trans kp1aW17
          have kp1bW18 := (b18.cell (p := ⟨w.heap.size + 1, 1, none⟩) (by show w.heap.size + 1 < W17.heap.size; omega)).trans kp1bW17
          have kraW18 := (b18.cell (p := ⟨g3, 0, none⟩) (by show g3 < W17.heap.size; omega)).trans kraW17
          have krbW18 := (b18.cell (p := ⟨g3, 1, none⟩) (by show g3 < W17.heap.size; omega)).trans krbW17
          have kgaW18 := (b18.cell (p := ⟨W6.heap.size, 0, none⟩) (by show W6.heap.size < W17.heap.size; omega)).trans kgaW17
          have kgbW18 := (b18.cell (p := ⟨W6.heap.size, 1, none⟩) (by show W6.heap.size < W17.heap.size; omega)).trans kgbW17
          have khaW18 := (b18.cell (p := ⟨g17, 0, none⟩) (by show g17 < W17.heap.size; omega)).trans c017
          have khbW18 := (b18.cell (p := ⟨g17, 1, none⟩) (by show g17 < W17.heap.size; omega)).trans c117
          have Aa0W18 := sl.hid (Aa0W17.out.chg (sl.Chg.ofBelow (lo := 0) b18) (.inr (Nat.zero_le _)))
          have Aa1W18 := sl.hid (Aa1W17.out.chg (sl.Chg.ofBelow (lo := 0) b18) (.inr (Nat.zero_le _)))
          have OrW18 := sl.hid (OrW17.out.chg (sl.Chg.ofBelow (lo := 0) b18) (.inr (.inr (Nat.zero_le _))))
          have OgW18 := sl.hid (OgW17.out.chg (sl.Chg.ofBelow (lo := 0) b18) (.inr (.inr (Nat.zero_le _))))
          have OhW18 := sl.hid (On17.out.chg (sl.Chg.ofBelow (lo := 0) b18) (.inr (.inr (Nat.zero_le _))))
          have CW18 := sl.hid (CW17.out.trans (b18.mono (by omega)))
          clear b18 kp0aW17 kp0bW17 kp1aW17 kp1bW17 kraW17 krbW17 kgaW17 kgbW17 c017 c117 Aa0W17 Aa1W17 OrW17 OgW17 On17 CW17
          go_wp2_with fail
          refine (br.heldB _ zr.length _ _ 1 W18 OgW18.out.ints hr (by omega) (by omega)).mono ?_
          rintro e W19 ⟨rfl, b19⟩
          have hzW19 : W18.heap.size ≤ W19.heap.size := b19.size
          have kp0aW19 := (b19.cell (p := ⟨w.heap.size, 0, none⟩) (by show w.heap.size < W18.heap.size; omega)).trans kp0aW18
          have kp0bW19 := (b19.cell (p := ⟨w.heap.size, 1, none⟩) (by show w.heap.size < W18.heap.size; omega)).trans kp0bW18
          have kp1aW19 := (b19.cell (p := ⟨w.heap.size + 1, 0, none⟩) (by show w.heap.size + 1 < W18.heap.size; omega)).trans kp1aW18
          have kp1bW19 := (b19.cell (p := ⟨w.heap.size + 1, 1, none⟩) (by show w.heap.size + 1 < W18.heap.size; omega)).trans kp1bW18
          have kraW19 := (b19.cell (p := ⟨g3, 0, none⟩) (by show g3 < W18.heap.size; omega)).trans kraW18
          have krbW19 := (b19.cell (p := ⟨g3, 1, none⟩) (by show g3 < W18.heap.size; omega)).trans krbW18
          have kgaW19 := (b19.cell (p := ⟨W6.heap.size, 0, none⟩) (by show W6.heap.size < W18.heap.size; omega)).trans kgaW18
          have kgbW19 := (b19.cell (p := ⟨W6.heap.size, 1, none⟩) (by show W6.heap.size < W18.heap.size; omega)).trans kgbW18
          have khaW19 := (b19.cell (p := ⟨g17, 0, none⟩) (by show g17 < W18.heap.size; omega)).trans khaW18
          have khbW19 := (b19.cell (p := ⟨g17, 1, none⟩) (by show g17 < W18.heap.size; omega)).trans khbW18
          have Aa0W19 := sl.hid (Aa0W18.out.chg (sl.Chg.ofBelow (lo := 0) b19) (.inr (Nat.zero_le _)))
          have Aa1W19 := sl.hid (Aa1W18.out.chg (sl.Chg.ofBelow (lo := 0) b19) (.inr (Nat.zero_le _)))
          have OrW19 := sl.hid (OrW18.out.chg (sl.Chg.ofBelow (lo := 0) b19) (.inr (.inr (Nat.zero_le _))))
          have OgW19 := sl.hid (OgW18.out.chg (sl.Chg.ofBelow (lo := 0) b19) (.inr (.inr (Nat.zero_le _))))
          have OhW19 := sl.hid (OhW18.out.chg (sl.Chg.ofBelow (lo := 0) b19) (.inr (.inr (Nat.zero_le _))))
          have CW19 := sl.hid (CW18.out.trans (b19.mono (by omega)))
          clear b19 kp0aW18 kp0bW18 kp1aW18 kp1bW18 kraW18 krbW18 kgaW18 kgbW18 khaW18 khbW18 Aa0W18 Aa1W18 OrW18 OgW18 OhW18 CW18
          go_wp2
          go_ret
          exact ⟨rfl, CW19.out⟩
    · have hq1 : br.szL (1048576 - (xs0.length : Int)) xs1.length = -1 := by unfold br.szL; rw [if_pos (by omega)]
      rw [hq1] at HS1
      clear hq hq1
      go_enter Try.func10, Try.ntmps10
      go_wp2_with fail
      refine HS.out.mono ?_
      rintro e W1 ⟨rfl, b1⟩
      have C1 := sl.hid (br.box2 b1).2.2.1
      have k0 := (br.box2 b1).2.1 0
      have k1 := (br.box2 b1).2.1 1
      have hz := (br.box2 b1).2.2.2
      simp at k0 k1
      have q0 := k0.1
      have q1 := k1.1
      clear b1 k0 k1
      go_wp2_with fail
      refine (HS1.out _).mono ?_
      rintro e W2 ⟨rfl, b2⟩
      have C2 := sl.hid (C1.out.trans (b2.mono (by omega)))
      clear b2
      go_wp2
      go_ret
      exact ⟨rfl, C2.out⟩
  · have hq : br.szL 1048576 xs0.length = -1 := by unfold br.szL; rw [if_pos (by omega)]
    rw [hq] at HS
    clear hq
    go_enter Try.func10, Try.ntmps10
    go_wp2_with fail
    refine HS.out.mono ?_
    rintro e W1 ⟨rfl, b1⟩
    have C1 := sl.hid (br.box2 b1).2.2.1
    clear b1
    go_wp2
    go_ret
    exact ⟨rfl, C1.out⟩
end Go.Proofs.Ytbeaopblopmpeaa.wjoinBraids
