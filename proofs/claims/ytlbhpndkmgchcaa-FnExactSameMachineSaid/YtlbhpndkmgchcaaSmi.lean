/-
  SameMachine of the program.
-/
import Derived.Test.YtlbhpndkmgchcaaSme
namespace Go.Proofs.Ytlbhpndkmgchcaa.mc
open Go.RowKit Go.Sort Go.Proofs.Ytlbhpndkmgchcaa.sl Go.Proofs.Ytlbhpndkmgchcaa.br Go.Proofs.Ytlbhpndkmgchcaa.ss
set_option linter.unusedVariables false
set_option linter.unusedSimpArgs false

/-- Both machines are equal. -/
def sameM (a p : Int) (m : Mch) (c d : Int) (n : Mch) : Bool :=
  a == c && (p == d && (sameR m.fr n.fr && (sameR m.bk n.bk && (ca.sameE m.cs n.cs && (nf.sameI m.ls n.ls && sameB m.dr n.dr)))))
theorem Bx.base {w w1 W : World} {p : Nat} {a b : Int} {f0 f1 f2 f3 f4 : Value} (h : Bx w1 W p a b f0 f1 f2 f3 f4) (k : Below w.heap.size w w1) : Bx w W p a b f0 f1 f2 f3 f4 :=
  ⟨h.lt, k.trans (h.b0.mono k.size), h.c0, h.c1, h.c2, h.c3, h.c4, h.c5, h.c6⟩
theorem nsmall {rows : List (List Int)} (h : rows.length ≤ 1048576 ∧ Short rows 1048576) : nb.Small rows := ⟨h.1, short_mono h.2 (by omega)⟩

set_option maxRecDepth 100000 in
set_option maxHeartbeats 4000000 in
theorem implSM (a p : Int) (m : Mch) (c d : Int) (n : Mch) (f0 f1 f2 f3 f4 g0 g1 g2 g3 g4 : Value) (B C : Nat) (w : World) (ha : MIn w B f0 f1 f2 f3 f4 m) (hB : B ≤ w.heap.size) (hb : MIn w C g0 g1 g2 g3 g4 n) (hC : C ≤ w.heap.size) (hq : Small m) (hr : Small n) :
    Calls Try.prog 59 #[.agg #[.int .i64 a, .int .i64 p, f0, f1, f2, f3, f4], .agg #[.int .i64 c, .int .i64 d, g0, g1, g2, g3, g4]] w fun e w' => e = .returned (.bool (sameM a p m c d n)) ∧ Below w.heap.size w w' := by
  obtain ⟨a0, n0, k0, rfl⟩ : ∃ a n k, f0 = .slice a n k := by obtain ⟨a, k, h⟩ := ss.rows_val ha.h0; exact ⟨a, _, k, h⟩
  obtain ⟨a1, n1, k1, rfl⟩ : ∃ a n k, f1 = .slice a n k := by obtain ⟨a, k, h⟩ := ss.rows_val ha.h1; exact ⟨a, _, k, h⟩
  obtain ⟨a2, n2, k2, rfl⟩ : ∃ a n k, f2 = .slice a n k := by obtain ⟨a, k, h⟩ := ca.ops_val ha.h2; exact ⟨a, _, k, h⟩
  obtain ⟨a3, n3, k3, rfl⟩ : ∃ a n k, f3 = .slice a n k := by obtain ⟨a, k, h⟩ := nf.infs_val ha.h3; exact ⟨a, _, k, h⟩
  obtain ⟨a4, n4, k4, rfl⟩ : ∃ a n k, f4 = .slice a n k := by obtain ⟨a, k, h⟩ := ints_val ha.h4; exact ⟨a, _, k, h⟩
  obtain ⟨b0, i0, j0, rfl⟩ : ∃ a n k, g0 = .slice a n k := by obtain ⟨a, k, h⟩ := ss.rows_val hb.h0; exact ⟨a, _, k, h⟩
  obtain ⟨b1, i1, j1, rfl⟩ : ∃ a n k, g1 = .slice a n k := by obtain ⟨a, k, h⟩ := ss.rows_val hb.h1; exact ⟨a, _, k, h⟩
  obtain ⟨b2, i2, j2, rfl⟩ : ∃ a n k, g2 = .slice a n k := by obtain ⟨a, k, h⟩ := ca.ops_val hb.h2; exact ⟨a, _, k, h⟩
  obtain ⟨b3, i3, j3, rfl⟩ : ∃ a n k, g3 = .slice a n k := by obtain ⟨a, k, h⟩ := nf.infs_val hb.h3; exact ⟨a, _, k, h⟩
  obtain ⟨b4, i4, j4, rfl⟩ : ∃ a n k, g4 = .slice a n k := by obtain ⟨a, k, h⟩ := ints_val hb.h4; exact ⟨a, _, k, h⟩
  have HM := hid (fun W (b : Below w.heap.size w W) => ha.below b)
  have HN := hid (fun W (b : Below w.heap.size w W) => hb.below b)
  have HX := hid ((bx_new w 69 a p (.slice a0 n0 k0) (.slice a1 n1 k1) (.slice a2 n2 k2) (.slice a3 n3 k3) (.slice a4 n4 k4)).below ((Below.refl _ _).alloc (Nat.le_refl _) (.cells #[.int .i64 c, .int .i64 d, .slice b0 i0 j0, .slice b1 i1 j1, .slice b2 i2 j2, .slice b3 i3 j3, .slice b4 i4 j4] 69)))
  have HY0 := bx_new (w.alloc (.cells #[.int .i64 a, .int .i64 p, .slice a0 n0 k0, .slice a1 n1 k1, .slice a2 n2 k2, .slice a3 n3 k3, .slice a4 n4 k4] 69)) 69 c d (.slice b0 i0 j0) (.slice b1 i1 j1) (.slice b2 i2 j2) (.slice b3 i3 j3) (.slice b4 i4 j4)
  simp only [show (w.alloc (.cells #[.int .i64 a, .int .i64 p, .slice a0 n0 k0, .slice a1 n1 k1, .slice a2 n2 k2, .slice a3 n3 k3, .slice a4 n4 k4] 69)).heap.size = w.heap.size + 1 from by simp] at HY0
  have HY := hid (HY0.base ((Below.refl w.heap.size w).alloc (Nat.le_refl _) (.cells #[.int .i64 a, .int .i64 p, .slice a0 n0 k0, .slice a1 n1 k1, .slice a2 n2 k2, .slice a3 n3 k3, .slice a4 n4 k4] 69)))
  clear HY0 ha hb
  have HE0 := hid (fun W (h : ss.Rows W B (.slice a0 n0 k0) m.fr) (k : ss.Rows W C (.slice b0 i0 j0) n.fr) => nb.sameRowsQ m.fr n.fr (.slice a0 n0 k0) (.slice b0 i0 j0) B C W h k (nsmall hq.s0) (nsmall hr.s0))
  have HE1 := hid (fun W (h : ss.Rows W B (.slice a1 n1 k1) m.bk) (k : ss.Rows W C (.slice b1 i1 j1) n.bk) => nb.sameRowsQ m.bk n.bk (.slice a1 n1 k1) (.slice b1 i1 j1) B C W h k (nsmall hq.s1) (nsmall hr.s1))
  have HE2 := hid (fun W (h : ca.Ops W B (.slice a2 n2 k2) m.cs) (k : ca.Ops W C (.slice b2 i2 j2) n.cs) (x : B ≤ W.heap.size) (y : C ≤ W.heap.size) => ca.equalE m.cs n.cs (.slice a2 n2 k2) (.slice b2 i2 j2) B C W h k x y hq.s2 hr.s2)
  have HE3 := hid (fun W (h : nf.Infs W B (.slice a3 n3 k3) m.ls) (k : nf.Infs W C (.slice b3 i3 j3) n.ls) => nf.equalI m.ls n.ls (.slice a3 n3 k3) (.slice b3 i3 j3) B C W h k hq.s3 hr.s3)
  have HE4 := hid (fun W (h : Ints W B (.slice a4 n4 k4) m.dr) (k : Ints W C (.slice b4 i4 j4) n.dr) => nb.equalQ m.dr n.dr (.slice a4 n4 k4) (.slice b4 i4 j4) B C W h k (by have := hq.s4; omega) (by have := hr.s4; omega))
  clear hq hr
  obtain ⟨q, hqq⟩ : ∃ q, q = sameM a p m c d n := ⟨_, rfl⟩
  rw [← hqq]
  simp only [sameM] at hqq
  generalize sameR m.fr n.fr = r0 at *
  generalize sameR m.bk n.bk = r1 at *
  generalize ca.sameE m.cs n.cs = r2 at *
  generalize nf.sameI m.ls n.ls = r3 at *
  generalize sameB m.dr n.dr = r4 at *
  obtain ⟨t0, ht0⟩ : ∃ b, (a == c) = b := ⟨_, rfl⟩
  rw [ht0] at hqq
  cases t0 with
  | false =>
    have HQ : Hid (q = false) := hid (by rw [hqq]; simp)
    clear hqq
    go_enter Try.func59, Try.ntmps59
    have HB := HX.out.b0
    go_wp2
    go_ret
    exact ⟨by rw [HQ.out]; first | done | rfl, HB⟩
  | true =>
    obtain ⟨t1, ht1⟩ : ∃ b, (p == d) = b := ⟨_, rfl⟩
    rw [ht1] at hqq
    cases t1 with
    | false =>
      have HQ : Hid (q = false) := hid (by rw [hqq]; simp)
      clear hqq
      go_enter Try.func59, Try.ntmps59
      have HB := HX.out.b0
      go_wp2
      go_ret
      exact ⟨by rw [HQ.out]; first | done | rfl, HB⟩
    | true =>
      cases r0 with
      | false =>
        have HQ : Hid (q = false) := hid (by rw [hqq]; simp)
        clear hqq
        go_enter Try.func59, Try.ntmps59
        go_wp2_with fail
        generalize ((w.alloc (.cells #[.int .i64 a, .int .i64 p, .slice a0 n0 k0, .slice a1 n1 k1, .slice a2 n2 k2, .slice a3 n3 k3, .slice a4 n4 k4] 69)).alloc (.cells #[.int .i64 c, .int .i64 d, .slice b0 i0 j0, .slice b1 i1 j1, .slice b2 i2 j2, .slice b3 i3 j3, .slice b4 i4 j4] 69)) = W0 at *
        refine (HE0.out W0 ((HM.out W0 HX.out.b0).h0) ((HN.out W0 HX.out.b0).h0)).mono ?_
        rintro e W1 ⟨rfl, y0, hy0⟩
        have be0 : Below W0.heap.size W0 W1 := by rw [hy0]; exact bdrewN (Below.refl _ _) _
        clear hy0
        replace HX := hid (HX.out.below be0)
        replace HY := hid (HY.out.below be0)
        clear be0
        go_wp2
        go_ret
        exact ⟨by rw [HQ.out]; first | done | rfl, HX.out.b0⟩
      | true =>
        cases r1 with
        | false =>
          have HQ : Hid (q = false) := hid (by rw [hqq]; simp)
          clear hqq
          go_enter Try.func59, Try.ntmps59
          go_wp2_with fail
          generalize ((w.alloc (.cells #[.int .i64 a, .int .i64 p, .slice a0 n0 k0, .slice a1 n1 k1, .slice a2 n2 k2, .slice a3 n3 k3, .slice a4 n4 k4] 69)).alloc (.cells #[.int .i64 c, .int .i64 d, .slice b0 i0 j0, .slice b1 i1 j1, .slice b2 i2 j2, .slice b3 i3 j3, .slice b4 i4 j4] 69)) = W0 at *
          refine (HE0.out W0 ((HM.out W0 HX.out.b0).h0) ((HN.out W0 HX.out.b0).h0)).mono ?_
          rintro e W1 ⟨rfl, y0, hy0⟩
          have be0 : Below W0.heap.size W0 W1 := by rw [hy0]; exact bdrewN (Below.refl _ _) _
          clear hy0
          replace HX := hid (HX.out.below be0)
          replace HY := hid (HY.out.below be0)
          clear be0
          have y := HX.out.c3
          have z := HY.out.c3
          go_wp2_with fail
          clear y z
          refine (HE1.out W1 ((HM.out W1 HX.out.b0).h1) ((HN.out W1 HX.out.b0).h1)).mono ?_
          rintro e W2 ⟨rfl, y1, hy1⟩
          have be1 : Below W1.heap.size W1 W2 := by rw [hy1]; exact bdrewN (Below.refl _ _) _
          clear hy1
          replace HX := hid (HX.out.below be1)
          replace HY := hid (HY.out.below be1)
          clear be1
          go_wp2
          go_ret
          exact ⟨by rw [HQ.out]; first | done | rfl, HX.out.b0⟩
        | true =>
          cases r2 with
          | false =>
            have HQ : Hid (q = false) := hid (by rw [hqq]; simp)
            clear hqq
            go_enter Try.func59, Try.ntmps59
            go_wp2_with fail
            generalize ((w.alloc (.cells #[.int .i64 a, .int .i64 p, .slice a0 n0 k0, .slice a1 n1 k1, .slice a2 n2 k2, .slice a3 n3 k3, .slice a4 n4 k4] 69)).alloc (.cells #[.int .i64 c, .int .i64 d, .slice b0 i0 j0, .slice b1 i1 j1, .slice b2 i2 j2, .slice b3 i3 j3, .slice b4 i4 j4] 69)) = W0 at *
            refine (HE0.out W0 ((HM.out W0 HX.out.b0).h0) ((HN.out W0 HX.out.b0).h0)).mono ?_
            rintro e W1 ⟨rfl, y0, hy0⟩
            have be0 : Below W0.heap.size W0 W1 := by rw [hy0]; exact bdrewN (Below.refl _ _) _
            clear hy0
            replace HX := hid (HX.out.below be0)
            replace HY := hid (HY.out.below be0)
            clear be0
            have y := HX.out.c3
            have z := HY.out.c3
            go_wp2_with fail
            clear y z
            refine (HE1.out W1 ((HM.out W1 HX.out.b0).h1) ((HN.out W1 HX.out.b0).h1)).mono ?_
            rintro e W2 ⟨rfl, y1, hy1⟩
            have be1 : Below W1.heap.size W1 W2 := by rw [hy1]; exact bdrewN (Below.refl _ _) _
            clear hy1
            replace HX := hid (HX.out.below be1)
            replace HY := hid (HY.out.below be1)
            clear be1
            have y := HX.out.c4
            have z := HY.out.c4
            go_wp2_with fail
            clear y z
            refine (HE2.out W2 ((HM.out W2 HX.out.b0).h2) ((HN.out W2 HX.out.b0).h2) (by have := HX.out.b0.size; omega) (by have := HX.out.b0.size; omega)).mono ?_
            rintro e W3 ⟨rfl, be2⟩
            replace HX := hid (HX.out.below be2)
            replace HY := hid (HY.out.below be2)
            clear be2
            go_wp2
            go_ret
            exact ⟨by rw [HQ.out]; first | done | rfl, HX.out.b0⟩
          | true =>
            cases r3 with
            | false =>
              have HQ : Hid (q = false) := hid (by rw [hqq]; simp)
              clear hqq
              go_enter Try.func59, Try.ntmps59
              go_wp2_with fail
              generalize ((w.alloc (.cells #[.int .i64 a, .int .i64 p, .slice a0 n0 k0, .slice a1 n1 k1, .slice a2 n2 k2, .slice a3 n3 k3, .slice a4 n4 k4] 69)).alloc (.cells #[.int .i64 c, .int .i64 d, .slice b0 i0 j0, .slice b1 i1 j1, .slice b2 i2 j2, .slice b3 i3 j3, .slice b4 i4 j4] 69)) = W0 at *
              refine (HE0.out W0 ((HM.out W0 HX.out.b0).h0) ((HN.out W0 HX.out.b0).h0)).mono ?_
              rintro e W1 ⟨rfl, y0, hy0⟩
              have be0 : Below W0.heap.size W0 W1 := by rw [hy0]; exact bdrewN (Below.refl _ _) _
              clear hy0
              replace HX := hid (HX.out.below be0)
              replace HY := hid (HY.out.below be0)
              clear be0
              have y := HX.out.c3
              have z := HY.out.c3
              go_wp2_with fail
              clear y z
              refine (HE1.out W1 ((HM.out W1 HX.out.b0).h1) ((HN.out W1 HX.out.b0).h1)).mono ?_
              rintro e W2 ⟨rfl, y1, hy1⟩
              have be1 : Below W1.heap.size W1 W2 := by rw [hy1]; exact bdrewN (Below.refl _ _) _
              clear hy1
              replace HX := hid (HX.out.below be1)
              replace HY := hid (HY.out.below be1)
              clear be1
              have y := HX.out.c4
              have z := HY.out.c4
              go_wp2_with fail
              clear y z
              refine (HE2.out W2 ((HM.out W2 HX.out.b0).h2) ((HN.out W2 HX.out.b0).h2) (by have := HX.out.b0.size; omega) (by have := HX.out.b0.size; omega)).mono ?_
              rintro e W3 ⟨rfl, be2⟩
              replace HX := hid (HX.out.below be2)
              replace HY := hid (HY.out.below be2)
              clear be2
              have y := HX.out.c5
              have z := HY.out.c5
              go_wp2_with fail
              clear y z
              refine (HE3.out W3 ((HM.out W3 HX.out.b0).h3) ((HN.out W3 HX.out.b0).h3)).mono ?_
              rintro e W4 ⟨rfl, be3⟩
              replace HX := hid (HX.out.below be3)
              replace HY := hid (HY.out.below be3)
              clear be3
              go_wp2
              go_ret
              exact ⟨by rw [HQ.out]; first | done | rfl, HX.out.b0⟩
            | true =>
              have HQ : Hid (q = r4) := hid (by rw [hqq]; simp)
              clear hqq
              go_enter Try.func59, Try.ntmps59
              go_wp2_with fail
              generalize ((w.alloc (.cells #[.int .i64 a, .int .i64 p, .slice a0 n0 k0, .slice a1 n1 k1, .slice a2 n2 k2, .slice a3 n3 k3, .slice a4 n4 k4] 69)).alloc (.cells #[.int .i64 c, .int .i64 d, .slice b0 i0 j0, .slice b1 i1 j1, .slice b2 i2 j2, .slice b3 i3 j3, .slice b4 i4 j4] 69)) = W0 at *
              refine (HE0.out W0 ((HM.out W0 HX.out.b0).h0) ((HN.out W0 HX.out.b0).h0)).mono ?_
              rintro e W1 ⟨rfl, y0, hy0⟩
              have be0 : Below W0.heap.size W0 W1 := by rw [hy0]; exact bdrewN (Below.refl _ _) _
              clear hy0
              replace HX := hid (HX.out.below be0)
              replace HY := hid (HY.out.below be0)
              clear be0
              have y := HX.out.c3
              have z := HY.out.c3
              go_wp2_with fail
              clear y z
              refine (HE1.out W1 ((HM.out W1 HX.out.b0).h1) ((HN.out W1 HX.out.b0).h1)).mono ?_
              rintro e W2 ⟨rfl, y1, hy1⟩
              have be1 : Below W1.heap.size W1 W2 := by rw [hy1]; exact bdrewN (Below.refl _ _) _
              clear hy1
              replace HX := hid (HX.out.below be1)
              replace HY := hid (HY.out.below be1)
              clear be1
              have y := HX.out.c4
              have z := HY.out.c4
              go_wp2_with fail
              clear y z
              refine (HE2.out W2 ((HM.out W2 HX.out.b0).h2) ((HN.out W2 HX.out.b0).h2) (by have := HX.out.b0.size; omega) (by have := HX.out.b0.size; omega)).mono ?_
              rintro e W3 ⟨rfl, be2⟩
              replace HX := hid (HX.out.below be2)
              replace HY := hid (HY.out.below be2)
              clear be2
              have y := HX.out.c5
              have z := HY.out.c5
              go_wp2_with fail
              clear y z
              refine (HE3.out W3 ((HM.out W3 HX.out.b0).h3) ((HN.out W3 HX.out.b0).h3)).mono ?_
              rintro e W4 ⟨rfl, be3⟩
              replace HX := hid (HX.out.below be3)
              replace HY := hid (HY.out.below be3)
              clear be3
              have y := HX.out.c6
              have z := HY.out.c6
              go_wp2_with fail
              clear y z
              refine (HE4.out W4 ((HM.out W4 HX.out.b0).h4) ((HN.out W4 HX.out.b0).h4)).mono ?_
              rintro e W5 ⟨rfl, y4, hy4⟩
              have be4 : Below W4.heap.size W4 W5 := by rw [hy4]; exact bdrewN (Below.refl _ _) _
              clear hy4
              replace HX := hid (HX.out.below be4)
              replace HY := hid (HY.out.below be4)
              clear be4
              go_wp2
              go_ret
              exact ⟨by rw [HQ.out]; first | done | rfl, HX.out.b0⟩
end Go.Proofs.Ytlbhpndkmgchcaa.mc
