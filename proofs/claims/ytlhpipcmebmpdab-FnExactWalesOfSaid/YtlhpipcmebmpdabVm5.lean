/-
  ValidMachine of the program.
-/
import Derived.Test.YtlhpipcmebmpdabVm4
namespace Go.Proofs.Ytlhpipcmebmpdab.mc
open Go.RowKit Go.Sort Go.Proofs.Ytlhpipcmebmpdab.sl Go.Proofs.Ytlhpipcmebmpdab.br Go.Proofs.Ytlhpipcmebmpdab.fn Go.Proofs.Ytlhpipcmebmpdab.ss
set_option linter.unusedVariables false
set_option linter.unusedSimpArgs false

/-- A machine of a call's own, below a bound. -/
def MInC (w : World) (B : Nat) (f0 f1 f2 f3 f4 : Value) (m : Mch) : Prop := ∃ lo hi, hi ≤ B ∧ MOwn w lo hi f0 f1 f2 f3 f4 m
theorem MInC.chg {w w' : World} {B lo hi : Nat} {f0 f1 f2 f3 f4 : Value} {m : Mch} (h : MInC w B f0 f1 f2 f3 f4 m) (c : Chg lo hi w w') (h1 : B ≤ lo ∨ hi ≤ lo) : MInC w' B f0 f1 f2 f3 f4 m := by
  obtain ⟨l, h', hb, ho⟩ := h
  exact ⟨l, h', hb, ho.chg c (by omega)⟩
theorem MInC.mono {w : World} {B B' : Nat} {f0 f1 f2 f3 f4 : Value} {m : Mch} (h : MInC w B f0 f1 f2 f3 f4 m) (hB : B ≤ B') : MInC w B' f0 f1 f2 f3 f4 m := by
  obtain ⟨l, h', hb, ho⟩ := h
  exact ⟨l, h', by omega, ho⟩
theorem MInC.below {w w' : World} {B : Nat} {f0 f1 f2 f3 f4 : Value} {m : Mch} (h : MInC w B f0 f1 f2 f3 f4 m) (b : Below w.heap.size w w') : MInC w' B f0 f1 f2 f3 f4 m := h.chg (Chg.ofBelow (lo := 0) b) (.inr (Nat.zero_le _))
theorem MInC.rd {w : World} {B : Nat} {f0 f1 f2 f3 f4 : Value} {m : Mch} (h : MInC w B f0 f1 f2 f3 f4 m) : MIn w B f0 f1 f2 f3 f4 m := by
  obtain ⟨l, h', hb, ho⟩ := h
  exact ho.rd.mono hb
theorem MOwn.c {w : World} {lo hi : Nat} {f0 f1 f2 f3 f4 : Value} {m : Mch} (h : MOwn w lo hi f0 f1 f2 f3 f4 m) : MInC w hi f0 f1 f2 f3 f4 m := ⟨lo, hi, Nat.le_refl _, h⟩
theorem MInC.vals {w : World} {B : Nat} {f0 f1 f2 f3 f4 : Value} {m : Mch} (h : MInC w B f0 f1 f2 f3 f4 m) :
    (∃ a k, f0 = .slice a m.fr.length k) ∧ (∃ a k, f1 = .slice a m.bk.length k) ∧ (∃ a k, f2 = .slice a m.cs.length k) ∧ (∃ a k, f3 = .slice a m.ls.length k) ∧ (∃ a k, f4 = .slice a m.dr.length k) := by
  have r := h.rd
  exact ⟨by obtain ⟨a, k, h⟩ := ss.rows_val r.h0; exact ⟨a, k, h⟩, by obtain ⟨a, k, h⟩ := ss.rows_val r.h1; exact ⟨a, k, h⟩, by obtain ⟨a, k, h⟩ := ca.ops_val r.h2; exact ⟨a, k, h⟩, by obtain ⟨a, k, h⟩ := nf.infs_val r.h3; exact ⟨a, k, h⟩, by obtain ⟨a, k, h⟩ := ints_val r.h4; exact ⟨a, k, h⟩⟩

set_option maxRecDepth 100000 in
set_option maxHeartbeats 4000000 in
theorem implVM (a p : Int) (m : Mch) (f0 f1 f2 f3 f4 : Value) (B : Nat) (w : World) (ha : MInC w B f0 f1 f2 f3 f4 m) (hB : B ≤ w.heap.size) (hq : Small m) :
    Calls Try.prog 73 #[.agg #[.int .i64 a, .int .i64 p, f0, f1, f2, f3, f4]] w fun e w' => e = .returned (.bool (okM a p m)) ∧ Below w.heap.size w w' := by
  have HM := hid (fun W (b : Below w.heap.size w W) => ha.below b)
  have HS := hid hq
  obtain ⟨⟨a0, k0, rfl⟩, ⟨a1, k1, rfl⟩, ⟨a2, k2, rfl⟩, ⟨a3, k3, rfl⟩, ⟨a4, k4, rfl⟩⟩ := ha.vals
  obtain ⟨n0, hn0⟩ : ∃ n, n = m.fr.length := ⟨_, rfl⟩
  obtain ⟨n1, hn1⟩ : ∃ n, n = m.bk.length := ⟨_, rfl⟩
  obtain ⟨n2, hn2⟩ : ∃ n, n = m.cs.length := ⟨_, rfl⟩
  obtain ⟨n3, hn3⟩ : ∃ n, n = m.ls.length := ⟨_, rfl⟩
  obtain ⟨n4, hn4⟩ : ∃ n, n = m.dr.length := ⟨_, rfl⟩
  rw [← hn0, ← hn1, ← hn2, ← hn3, ← hn4] at HM ⊢
  have HN3 := hid hn3
  clear hn0 hn1 hn2 hn3 hn4 ha hq
  have HX := hid (bx_new w 34 a p (.slice a0 n0 k0) (.slice a1 n1 k1) (.slice a2 n2 k2) (.slice a3 n3 k3) (.slice a4 n4 k4))
  have H2 := hid (fun W (b : Below w.heap.size w W) => implStk a m.fr (.slice a0 n0 k0) B W (HM.out W b).rd.h0 (Nat.le_trans hB b.size) HS.out.s0)
  have H3 := hid (fun W (b : Below w.heap.size w W) => implStk a m.bk (.slice a1 n1 k1) B W (HM.out W b).rd.h1 (Nat.le_trans hB b.size) HS.out.s1)
  have H4 := hid (fun W (b : Below w.heap.size w W) (hw : 1 ≤ a ∧ a ≤ 24) => implCar a m.cs (.slice a2 n2 k2) B W (HM.out W b).rd.h2 (Nat.le_trans hB b.size) HS.out.s2.len hw)
  have H5 := hid (fun W (b : Below w.heap.size w W) (hw : 1 ≤ a ∧ a ≤ 24) => implInfs a m.ls (.slice a3 n3 k3) B W (HM.out W b).rd.h3 (Nat.le_trans hB b.size) HS.out.s3 hw)
  have H6 : Hid (∀ W, Below w.heap.size w W → 1 ≤ a ∧ a ≤ 24 → stkB a m.fr = true → stkB a m.bk = true → n3 ≤ 300 → Calls Try.prog 89 #[.agg #[.int .i64 a, .int .i64 p, .slice a0 n0 k0, .slice a1 n1 k1, .slice a2 n2 k2, .slice a3 n3 k3, .slice a4 n4 k4]] W fun e w' => e = .returned (.bool (placeB m)) ∧ Below W.heap.size W w') := hid (fun W b hw h1 h2 h3 => by
    obtain ⟨lo, hi, hb, ho⟩ := HM.out W b
    exact implPlace a p m _ _ _ _ _ lo hi W ho HS.out hw h1 h2 (by rw [← HN3.out]; exact h3))
  clear HM
  obtain ⟨q, hqq⟩ : ∃ q, q = okM a p m := ⟨_, rfl⟩
  rw [← hqq]
  simp only [okM] at hqq
  have HL : Hid (infsB a m.ls = true → n3 ≤ 300) := hid (fun h => by have := (infs_parts h).1; rw [← HN3.out] at this; exact this)
  clear HN3 HS
  obtain ⟨t0, ht0⟩ : ∃ t, t = inB 1 24 a := ⟨_, rfl⟩
  obtain ⟨t1, ht1⟩ : ∃ t, t = inB (-3) 3 p := ⟨_, rfl⟩
  obtain ⟨t2, ht2⟩ : ∃ t, t = stkB a m.fr := ⟨_, rfl⟩
  obtain ⟨t3, ht3⟩ : ∃ t, t = stkB a m.bk := ⟨_, rfl⟩
  obtain ⟨t4, ht4⟩ : ∃ t, t = carB a m.cs := ⟨_, rfl⟩
  obtain ⟨t5, ht5⟩ : ∃ t, t = infsB a m.ls := ⟨_, rfl⟩
  obtain ⟨t6, ht6⟩ : ∃ t, t = placeB m := ⟨_, rfl⟩
  rw [← ht0, ← ht1, ← ht2, ← ht3, ← ht4, ← ht5, ← ht6] at hqq
  rw [← ht2, ← ht3, ← ht6] at H6
  rw [← ht2] at H2
  rw [← ht3] at H3
  rw [← ht4] at H4
  rw [← ht5] at H5 HL
  have HW0 : Hid (t0 = true → 1 ≤ a ∧ a ≤ 24) := hid (fun h => of_decide_eq_true (ht0.symm.trans h))
  have A0 := hid (fun w1 => show Calls Try.prog 66 #[.int .i64 a, .int .i64 1, .int .i64 24] w1 fun e w2 => e = .returned (.bool t0) ∧ w1 = w2 from by rw [ht0]; exact nd.within64 _ _ _ w1)
  have A1 := hid (fun w1 => show Calls Try.prog 66 #[.int .i64 p, .int .i64 (-3), .int .i64 3] w1 fun e w2 => e = .returned (.bool t1) ∧ w1 = w2 from by rw [ht1]; exact nd.within64 _ _ _ w1)
  have HB0 : Hid (Below w.heap.size w (w.alloc (.cells #[.int .i64 a, .int .i64 p, .slice a0 n0 k0, .slice a1 n1 k1, .slice a2 n2 k2, .slice a3 n3 k3, .slice a4 n4 k4] 34))) := hid ((Below.refl _ _).alloc (Nat.le_refl _) _)
  clear ht0 ht1 ht2 ht3 ht4 ht5 ht6
  have HQ := hid hqq
  clear hqq
  cases t0 with
  | false =>
    have HF : Hid (q = false) := hid (by rw [HQ.out]; rfl)
    go_enter Try.func73, Try.ntmps73
    go_wp2_with (first | (go_at_call_of 66 (Value.int .i64 a); refine (A0.out _).mono ?_; rintro e w2 ⟨rfl, rfl⟩) | (go_at_call_of 66 (Value.int .i64 p); refine (A1.out _).mono ?_; rintro e w2 ⟨rfl, rfl⟩))
    go_ret
    exact ⟨by rw [HF.out]; rfl, HB0.out⟩
  | true =>
    have hw := HW0.out rfl
    have HW := hid hw
    clear hw HW0
    cases t1 with
    | false =>
      have HF : Hid (q = false) := hid (by rw [HQ.out]; rfl)
      go_enter Try.func73, Try.ntmps73
      go_wp2_with (first | (go_at_call_of 66 (Value.int .i64 a); refine (A0.out _).mono ?_; rintro e w2 ⟨rfl, rfl⟩) | (go_at_call_of 66 (Value.int .i64 p); refine (A1.out _).mono ?_; rintro e w2 ⟨rfl, rfl⟩))
      go_ret
      exact ⟨by rw [HF.out]; rfl, HB0.out⟩
    | true =>
      go_enter Try.func73, Try.ntmps73
      go_wp2_with (first | (go_at_call_of 66 (Value.int .i64 a); refine (A0.out _).mono ?_; rintro e w2 ⟨rfl, rfl⟩) | (go_at_call_of 66 (Value.int .i64 p); refine (A1.out _).mono ?_; rintro e w2 ⟨rfl, rfl⟩))
      generalize w.alloc (.cells #[.int .i64 a, .int .i64 p, .slice a0 n0 k0, .slice a1 n1 k1, .slice a2 n2 k2, .slice a3 n3 k3, .slice a4 n4 k4] 34) = W1 at *
      clear A0 A1
      refine (H2.out W1 HB0.out).mono ?_
      rintro e W2 ⟨rfl, b2⟩
      replace HX := hid (HX.out.below b2)
      replace HB0 := hid (HB0.out.trans (b2.mono HB0.out.size))
      clear b2 H2
      cases t2 with
      | false =>
        have HF : Hid (q = false) := hid (by rw [HQ.out]; rfl)
        go_wp2
        go_ret
        exact ⟨by rw [HF.out]; rfl, HB0.out⟩
      | true =>
        have y0 := HX.out.c0
        have y3 := HX.out.c3
        go_wp2_with fail
        clear y0 y3
        refine (H3.out W2 HB0.out).mono ?_
        rintro e W3 ⟨rfl, b3⟩
        replace HX := hid (HX.out.below b3)
        replace HB0 := hid (HB0.out.trans (b3.mono HB0.out.size))
        clear b3 H3
        cases t3 with
        | false =>
          have HF : Hid (q = false) := hid (by rw [HQ.out]; rfl)
          go_wp2
          go_ret
          exact ⟨by rw [HF.out]; rfl, HB0.out⟩
        | true =>
          have y0 := HX.out.c0
          have y4 := HX.out.c4
          go_wp2_with fail
          clear y0 y4
          refine (H4.out W3 HB0.out HW.out).mono ?_
          rintro e W4 ⟨rfl, b4⟩
          replace HX := hid (HX.out.below b4)
          replace HB0 := hid (HB0.out.trans (b4.mono HB0.out.size))
          clear b4 H4
          cases t4 with
          | false =>
            have HF : Hid (q = false) := hid (by rw [HQ.out]; rfl)
            go_wp2
            go_ret
            exact ⟨by rw [HF.out]; rfl, HB0.out⟩
          | true =>
            have y0 := HX.out.c0
            have y5 := HX.out.c5
            go_wp2_with fail
            clear y0 y5
            refine (H5.out W4 HB0.out HW.out).mono ?_
            rintro e W5 ⟨rfl, b5⟩
            replace HX := hid (HX.out.below b5)
            replace HB0 := hid (HB0.out.trans (b5.mono HB0.out.size))
            clear b5 H5
            cases t5 with
            | false =>
              have HF : Hid (q = false) := hid (by rw [HQ.out]; rfl)
              go_wp2
              go_ret
              exact ⟨by rw [HF.out]; rfl, HB0.out⟩
            | true =>
              have y0 := HX.out.c0
              have y1 := HX.out.c1
              have y2 := HX.out.c2
              have y3 := HX.out.c3
              have y4 := HX.out.c4
              have y5 := HX.out.c5
              have y6 := HX.out.c6
              go_wp2_with fail
              clear y0 y1 y2 y3 y4 y5 y6
              refine (H6.out W5 HB0.out HW.out (by trivial) (by trivial) (HL.out (by trivial))).mono ?_
              rintro e W6 ⟨rfl, b6⟩
              replace HX := hid (HX.out.below b6)
              replace HB0 := hid (HB0.out.trans (b6.mono HB0.out.size))
              clear b6 H6
              have HF : Hid (q = t6) := hid (by rw [HQ.out]; rfl)
              go_wp2
              go_ret
              exact ⟨by rw [HF.out]; rfl, HB0.out⟩
end Go.Proofs.Ytlhpipcmebmpdab.mc
