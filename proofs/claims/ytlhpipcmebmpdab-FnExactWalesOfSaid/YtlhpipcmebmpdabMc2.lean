/-
  szMachine, toMachine, eqMachine.
-/
import Derived.Test.YtlhpipcmebmpdabMc1
namespace Go.Proofs.Ytlhpipcmebmpdab.mc
open Go.RowKit Go.Sort Go.Proofs.Ytlhpipcmebmpdab.sl Go.Proofs.Ytlhpipcmebmpdab.br
set_option linter.unusedVariables false
set_option linter.unusedSimpArgs false

theorem szInts (xs : List Int) (v : Value) (B : Nat) (left : Int) (w : World) (ha : Ints w B v xs) (hn : xs.length ≤ 9223372036854775807) (h0 : 0 ≤ left) (h1 : left ≤ 1048576) :
    Calls Try.prog 31 #[v, .int .i64 left] w fun e w' => e = .returned (.int .i64 (szL left xs.length)) ∧ w = w' := by
  obtain ⟨ao, cap, rfl⟩ := ints_val ha
  exact szI ao _ cap left w hn h0 h1

set_option maxRecDepth 100000 in
set_option maxHeartbeats 2000000 in
theorem szM (a p : Int) (m : Mch) (f0 f1 f2 f3 f4 : Value) (B : Nat) (left : Int) (w : World) (ha : MIn w B f0 f1 f2 f3 f4 m) (hn : MLen m) (hs : MShort m) (h0 : 0 ≤ left) (h1 : left ≤ 1048576) :
    Calls Try.prog 8 #[.agg #[.int .i64 a, .int .i64 p, f0, f1, f2, f3, f4], .int .i64 left] w fun e w' => e = .returned (.int .i64 (szV left m)) ∧ Below w.heap.size w w' := by
  obtain ⟨a0, n0, k0, rfl⟩ : ∃ a n k, f0 = .slice a n k := by obtain ⟨a, k, h⟩ := ss.rows_val ha.h0; exact ⟨a, _, k, h⟩
  obtain ⟨a1, n1, k1, rfl⟩ : ∃ a n k, f1 = .slice a n k := by obtain ⟨a, k, h⟩ := ss.rows_val ha.h1; exact ⟨a, _, k, h⟩
  obtain ⟨a2, n2, k2, rfl⟩ : ∃ a n k, f2 = .slice a n k := by obtain ⟨a, k, h⟩ := ca.ops_val ha.h2; exact ⟨a, _, k, h⟩
  obtain ⟨a3, n3, k3, rfl⟩ : ∃ a n k, f3 = .slice a n k := by obtain ⟨a, k, h⟩ := nf.infs_val ha.h3; exact ⟨a, _, k, h⟩
  obtain ⟨a4, n4, k4, rfl⟩ : ∃ a n k, f4 = .slice a n k := by obtain ⟨a, k, h⟩ := ints_val ha.h4; exact ⟨a, _, k, h⟩
  have HA := hid ha
  have HV : Hid (szV left m = st (st (st (st (ss.szR left m.fr) (fun l => ss.szR l m.bk)) (fun l => szL l m.cs.length)) (fun l => ss.szR l (nf.prs m.ls))) (fun l => szL l m.dr.length)) := hid rfl
  have HX := hid (bx_new w 27 a p (.slice a0 n0 k0) (.slice a1 n1 k1) (.slice a2 n2 k2) (.slice a3 n3 k3) (.slice a4 n4 k4))
  clear ha
  have H0 := hid (fun W (h : ss.Rows W B (.slice a0 n0 k0) m.fr) => ss.szSS m.fr (.slice a0 n0 k0) B left W h hn.l0.1 hs.s0 h0 h1)
  rcases szR_cases (rows := m.fr) h0 with hc0 | hc0
  · rw [hc0] at H0
    have HF : Hid (szV left m = -1) := hid (by rw [HV.out, hc0]; first | done | simp [st])
    clear hc0
    go_enter Try.func8, Try.ntmps8
    have y2 := HX.out.c2
    go_wp2_with fail
    clear y2
    generalize w.alloc (.cells #[.int .i64 a, .int .i64 p, .slice a0 n0 k0, .slice a1 n1 k1, .slice a2 n2 k2, .slice a3 n3 k3, .slice a4 n4 k4] 27) = W0 at *
    have HM := hid (fun W (b : Below w.heap.size w W) => HA.out.below b)
    refine (H0.out W0 ((HM.out W0 HX.out.b0).h0)).mono ?_
    rintro e w' ⟨rfl, rfl⟩
    go_wp2
    go_ret
    exact ⟨by rw [HF.out]; first | done | rfl, HX.out.b0⟩
  · obtain ⟨hp0, hq0⟩ := hc0
    obtain ⟨q0, hz0⟩ : ∃ q, q = ss.szR left m.fr := ⟨_, rfl⟩
    rw [← hz0] at H0 hp0 hq0
    have HS0 : Hid (∀ f, st (ss.szR left m.fr) f = f q0) := hid (fun f => by rw [← hz0, st, if_neg (by omega)])
    clear hz0
    have H1 := hid (fun W (h : ss.Rows W B (.slice a1 n1 k1) m.bk) => ss.szSS m.bk (.slice a1 n1 k1) B q0 W h hn.l0.2.1 hs.s1 (by omega) (by omega))
    rcases szR_cases (rows := m.bk) (by omega) with hc1 | hc1
    · rw [hc1] at H1
      have HF : Hid (szV left m = -1) := hid (by rw [HV.out, HS0.out, hc1]; first | done | simp [st])
      clear hc1
      go_enter Try.func8, Try.ntmps8
      have y2 := HX.out.c2
      go_wp2_with fail
      clear y2
      generalize w.alloc (.cells #[.int .i64 a, .int .i64 p, .slice a0 n0 k0, .slice a1 n1 k1, .slice a2 n2 k2, .slice a3 n3 k3, .slice a4 n4 k4] 27) = W0 at *
      have HM := hid (fun W (b : Below w.heap.size w W) => HA.out.below b)
      refine (H0.out W0 ((HM.out W0 HX.out.b0).h0)).mono ?_
      rintro e w' ⟨rfl, rfl⟩
      have y3 := HX.out.c3
      go_wp2_with fail
      clear y3
      refine (H1.out W0 ((HM.out W0 HX.out.b0).h1)).mono ?_
      rintro e w' ⟨rfl, rfl⟩
      go_wp2
      go_ret
      exact ⟨by rw [HF.out]; first | done | rfl, HX.out.b0⟩
    · obtain ⟨hp1, hq1⟩ := hc1
      obtain ⟨q1, hz1⟩ : ∃ q, q = ss.szR q0 m.bk := ⟨_, rfl⟩
      rw [← hz1] at H1 hp1 hq1
      have HS1 : Hid (∀ f, st (ss.szR q0 m.bk) f = f q1) := hid (fun f => by rw [← hz1, st, if_neg (by omega)])
      clear hz1
      have H2 := hid (fun W (h : ca.Ops W B (.slice a2 n2 k2) m.cs) => ca.szO m.cs (.slice a2 n2 k2) B q1 W h hn.l0.2.2.1 (by omega) (by omega))
      rcases szL_cases (n := m.cs.length) (by omega) with hc2 | hc2
      · rw [hc2] at H2
        have HF : Hid (szV left m = -1) := hid (by rw [HV.out, HS0.out, HS1.out, hc2]; first | done | simp [st])
        clear hc2
        go_enter Try.func8, Try.ntmps8
        have y2 := HX.out.c2
        go_wp2_with fail
        clear y2
        generalize w.alloc (.cells #[.int .i64 a, .int .i64 p, .slice a0 n0 k0, .slice a1 n1 k1, .slice a2 n2 k2, .slice a3 n3 k3, .slice a4 n4 k4] 27) = W0 at *
        have HM := hid (fun W (b : Below w.heap.size w W) => HA.out.below b)
        refine (H0.out W0 ((HM.out W0 HX.out.b0).h0)).mono ?_
        rintro e w' ⟨rfl, rfl⟩
        have y3 := HX.out.c3
        go_wp2_with fail
        clear y3
        refine (H1.out W0 ((HM.out W0 HX.out.b0).h1)).mono ?_
        rintro e w' ⟨rfl, rfl⟩
        have y4 := HX.out.c4
        go_wp2_with fail
        clear y4
        refine (H2.out W0 ((HM.out W0 HX.out.b0).h2)).mono ?_
        rintro e w' ⟨rfl, rfl⟩
        go_wp2
        go_ret
        exact ⟨by rw [HF.out]; first | done | rfl, HX.out.b0⟩
      · obtain ⟨hp2, hq2⟩ := hc2
        obtain ⟨hq2, hr2⟩ := hq2
        obtain ⟨q2, hz2⟩ : ∃ q, q = szL q1 m.cs.length := ⟨_, rfl⟩
        rw [← hz2] at H2 hp2 hq2
        have HS2 : Hid (∀ f, st (szL q1 m.cs.length) f = f q2) := hid (fun f => by rw [← hz2, st, if_neg (by omega)])
        clear hz2
        have H3 := hid (fun W (h : nf.Infs W B (.slice a3 n3 k3) m.ls) => nf.szIS m.ls (.slice a3 n3 k3) B q2 W h hn.l0.2.2.2.1 hs.s2 (by omega) (by omega))
        rcases szR_cases (rows := (nf.prs m.ls)) (by omega) with hc3 | hc3
        · rw [hc3] at H3
          have HF : Hid (szV left m = -1) := hid (by rw [HV.out, HS0.out, HS1.out, HS2.out, hc3]; first | done | simp [st])
          clear hc3
          go_enter Try.func8, Try.ntmps8
          have y2 := HX.out.c2
          go_wp2_with fail
          clear y2
          generalize w.alloc (.cells #[.int .i64 a, .int .i64 p, .slice a0 n0 k0, .slice a1 n1 k1, .slice a2 n2 k2, .slice a3 n3 k3, .slice a4 n4 k4] 27) = W0 at *
          have HM := hid (fun W (b : Below w.heap.size w W) => HA.out.below b)
          refine (H0.out W0 ((HM.out W0 HX.out.b0).h0)).mono ?_
          rintro e w' ⟨rfl, rfl⟩
          have y3 := HX.out.c3
          go_wp2_with fail
          clear y3
          refine (H1.out W0 ((HM.out W0 HX.out.b0).h1)).mono ?_
          rintro e w' ⟨rfl, rfl⟩
          have y4 := HX.out.c4
          go_wp2_with fail
          clear y4
          refine (H2.out W0 ((HM.out W0 HX.out.b0).h2)).mono ?_
          rintro e w' ⟨rfl, rfl⟩
          have y5 := HX.out.c5
          go_wp2_with fail
          clear y5
          refine (H3.out W0 ((HM.out W0 HX.out.b0).h3)).mono ?_
          rintro e W3 ⟨rfl, b3⟩
          replace HX := hid (HX.out.below b3)
          clear b3
          go_wp2
          go_ret
          exact ⟨by rw [HF.out]; first | done | rfl, HX.out.b0⟩
        · obtain ⟨hp3, hq3⟩ := hc3
          obtain ⟨q3, hz3⟩ : ∃ q, q = ss.szR q2 (nf.prs m.ls) := ⟨_, rfl⟩
          rw [← hz3] at H3 hp3 hq3
          have HS3 : Hid (∀ f, st (ss.szR q2 (nf.prs m.ls)) f = f q3) := hid (fun f => by rw [← hz3, st, if_neg (by omega)])
          clear hz3
          have H4 := hid (fun W (h : Ints W B (.slice a4 n4 k4) m.dr) => szInts m.dr (.slice a4 n4 k4) B q3 W h hn.l0.2.2.2.2 (by omega) (by omega))
          rcases szL_cases (n := m.dr.length) (by omega) with hc4 | hc4
          · rw [hc4] at H4
            have HF : Hid (szV left m = -1) := hid (by rw [HV.out, HS0.out, HS1.out, HS2.out, HS3.out, hc4]; first | done | simp [st])
            clear hc4
            go_enter Try.func8, Try.ntmps8
            have y2 := HX.out.c2
            go_wp2_with fail
            clear y2
            generalize w.alloc (.cells #[.int .i64 a, .int .i64 p, .slice a0 n0 k0, .slice a1 n1 k1, .slice a2 n2 k2, .slice a3 n3 k3, .slice a4 n4 k4] 27) = W0 at *
            have HM := hid (fun W (b : Below w.heap.size w W) => HA.out.below b)
            refine (H0.out W0 ((HM.out W0 HX.out.b0).h0)).mono ?_
            rintro e w' ⟨rfl, rfl⟩
            have y3 := HX.out.c3
            go_wp2_with fail
            clear y3
            refine (H1.out W0 ((HM.out W0 HX.out.b0).h1)).mono ?_
            rintro e w' ⟨rfl, rfl⟩
            have y4 := HX.out.c4
            go_wp2_with fail
            clear y4
            refine (H2.out W0 ((HM.out W0 HX.out.b0).h2)).mono ?_
            rintro e w' ⟨rfl, rfl⟩
            have y5 := HX.out.c5
            go_wp2_with fail
            clear y5
            refine (H3.out W0 ((HM.out W0 HX.out.b0).h3)).mono ?_
            rintro e W3 ⟨rfl, b3⟩
            replace HX := hid (HX.out.below b3)
            clear b3
            have y6 := HX.out.c6
            go_wp2_with fail
            clear y6
            refine (H4.out W3 ((HM.out W3 HX.out.b0).h4)).mono ?_
            rintro e w' ⟨rfl, rfl⟩
            go_wp2
            go_ret
            exact ⟨by rw [HF.out]; first | done | rfl, HX.out.b0⟩
          · obtain ⟨hp4, hq4⟩ := hc4
            obtain ⟨hq4, hr4⟩ := hq4
            obtain ⟨q4, hz4⟩ : ∃ q, q = szL q3 m.dr.length := ⟨_, rfl⟩
            rw [← hz4] at H4 hp4 hq4
            have HF : Hid (szV left m = q4) := hid (by rw [HV.out, HS0.out, HS1.out, HS2.out, HS3.out]; first | done | exact hz4.symm)
            clear hz4
            go_enter Try.func8, Try.ntmps8
            have y2 := HX.out.c2
            go_wp2_with fail
            clear y2
            generalize w.alloc (.cells #[.int .i64 a, .int .i64 p, .slice a0 n0 k0, .slice a1 n1 k1, .slice a2 n2 k2, .slice a3 n3 k3, .slice a4 n4 k4] 27) = W0 at *
            have HM := hid (fun W (b : Below w.heap.size w W) => HA.out.below b)
            refine (H0.out W0 ((HM.out W0 HX.out.b0).h0)).mono ?_
            rintro e w' ⟨rfl, rfl⟩
            have y3 := HX.out.c3
            go_wp2_with fail
            clear y3
            refine (H1.out W0 ((HM.out W0 HX.out.b0).h1)).mono ?_
            rintro e w' ⟨rfl, rfl⟩
            have y4 := HX.out.c4
            go_wp2_with fail
            clear y4
            refine (H2.out W0 ((HM.out W0 HX.out.b0).h2)).mono ?_
            rintro e w' ⟨rfl, rfl⟩
            have y5 := HX.out.c5
            go_wp2_with fail
            clear y5
            refine (H3.out W0 ((HM.out W0 HX.out.b0).h3)).mono ?_
            rintro e W3 ⟨rfl, b3⟩
            replace HX := hid (HX.out.below b3)
            clear b3
            have y6 := HX.out.c6
            go_wp2_with fail
            clear y6
            refine (H4.out W3 ((HM.out W3 HX.out.b0).h4)).mono ?_
            rintro e w' ⟨rfl, rfl⟩
            go_wp2
            go_ret
            exact ⟨by rw [HF.out]; first | done | rfl, HX.out.b0⟩

/-- A block of seven cells that may be written. -/
structure B7 (W : World) (p : Nat) (u0 u1 u2 u3 u4 u5 u6 : Value) : Prop where
  lt : p < W.heap.size
  c0 : W.cell? ⟨p, 0, none⟩ = some u0
  r0 : W.frozen? ⟨p, 0, none⟩ = false
  c1 : W.cell? ⟨p, 1, none⟩ = some u1
  r1 : W.frozen? ⟨p, 1, none⟩ = false
  c2 : W.cell? ⟨p, 2, none⟩ = some u2
  r2 : W.frozen? ⟨p, 2, none⟩ = false
  c3 : W.cell? ⟨p, 3, none⟩ = some u3
  r3 : W.frozen? ⟨p, 3, none⟩ = false
  c4 : W.cell? ⟨p, 4, none⟩ = some u4
  r4 : W.frozen? ⟨p, 4, none⟩ = false
  c5 : W.cell? ⟨p, 5, none⟩ = some u5
  r5 : W.frozen? ⟨p, 5, none⟩ = false
  c6 : W.cell? ⟨p, 6, none⟩ = some u6
  r6 : W.frozen? ⟨p, 6, none⟩ = false
theorem B7.below {W W' : World} {p : Nat} {u0 u1 u2 u3 u4 u5 u6 : Value} (h : B7 W p u0 u1 u2 u3 u4 u5 u6) (b : Below W.heap.size W W') : B7 W' p u0 u1 u2 u3 u4 u5 u6 :=
  ⟨Nat.lt_of_lt_of_le h.lt b.size, (b.cell (p := ⟨p, 0, none⟩) h.lt).trans h.c0, (b.frozen (p := ⟨p, 0, none⟩) h.lt).trans h.r0, (b.cell (p := ⟨p, 1, none⟩) h.lt).trans h.c1, (b.frozen (p := ⟨p, 1, none⟩) h.lt).trans h.r1, (b.cell (p := ⟨p, 2, none⟩) h.lt).trans h.c2, (b.frozen (p := ⟨p, 2, none⟩) h.lt).trans h.r2, (b.cell (p := ⟨p, 3, none⟩) h.lt).trans h.c3, (b.frozen (p := ⟨p, 3, none⟩) h.lt).trans h.r3, (b.cell (p := ⟨p, 4, none⟩) h.lt).trans h.c4, (b.frozen (p := ⟨p, 4, none⟩) h.lt).trans h.r4, (b.cell (p := ⟨p, 5, none⟩) h.lt).trans h.c5, (b.frozen (p := ⟨p, 5, none⟩) h.lt).trans h.r5, (b.cell (p := ⟨p, 6, none⟩) h.lt).trans h.c6, (b.frozen (p := ⟨p, 6, none⟩) h.lt).trans h.r6⟩
theorem b7_new (w : World) (T : TypeId) (u0 u1 u2 u3 u4 u5 u6 : Value) : B7 (w.alloc (.cells #[u0, u1, u2, u3, u4, u5, u6] T)) w.heap.size u0 u1 u2 u3 u4 u5 u6 :=
  ⟨by simp, World.cell?_alloc_at _ _ _ _ rfl, World.frozen?_alloc_at _ _ _ _ rfl, World.cell?_alloc_at _ _ _ _ rfl, World.frozen?_alloc_at _ _ _ _ rfl, World.cell?_alloc_at _ _ _ _ rfl, World.frozen?_alloc_at _ _ _ _ rfl, World.cell?_alloc_at _ _ _ _ rfl, World.frozen?_alloc_at _ _ _ _ rfl, World.cell?_alloc_at _ _ _ _ rfl, World.frozen?_alloc_at _ _ _ _ rfl, World.cell?_alloc_at _ _ _ _ rfl, World.frozen?_alloc_at _ _ _ _ rfl, World.cell?_alloc_at _ _ _ _ rfl, World.frozen?_alloc_at _ _ _ _ rfl⟩
theorem B7.other {W : World} {p g : Nat} {u0 u1 u2 u3 u4 u5 u6 : Value} (h : B7 W p u0 u1 u2 u3 u4 u5 u6) (i : Nat) (v : Value) (hg : ¬ p = g) : B7 (W.setCell ⟨g, i, none⟩ v) p u0 u1 u2 u3 u4 u5 u6 := by
  have e : ∀ q, (W.setCell ⟨g, i, none⟩ v).cell? ⟨p, q, none⟩ = W.cell? ⟨p, q, none⟩ := fun q => World.cell?_setCell_other _ _ _ _ (fun e => hg (by injection e with e1 _ _; exact e1.symm))
  exact ⟨by simpa using h.lt, (e 0).trans h.c0, by rw [World.frozen?_setCell]; exact h.r0, (e 1).trans h.c1, by rw [World.frozen?_setCell]; exact h.r1, (e 2).trans h.c2, by rw [World.frozen?_setCell]; exact h.r2, (e 3).trans h.c3, by rw [World.frozen?_setCell]; exact h.r3, (e 4).trans h.c4, by rw [World.frozen?_setCell]; exact h.r4, (e 5).trans h.c5, by rw [World.frozen?_setCell]; exact h.r5, (e 6).trans h.c6, by rw [World.frozen?_setCell]; exact h.r6⟩
theorem B7.set0 {W : World} {p : Nat} {u0 u1 u2 u3 u4 u5 u6 : Value} (h : B7 W p u0 u1 u2 u3 u4 u5 u6) (v : Value) : B7 (W.setCell ⟨p, 0, none⟩ v) p v u1 u2 u3 u4 u5 u6 := by
  refine ⟨by simpa using h.lt, ?_, ?_, ?_, ?_, ?_, ?_, ?_, ?_, ?_, ?_, ?_, ?_, ?_, ?_⟩ <;> first | (rw [World.frozen?_setCell]; first | exact h.r0 | exact h.r1 | exact h.r2 | exact h.r3 | exact h.r4 | exact h.r5 | exact h.r6) | exact ss.same_at h.c0 | (rw [ss.other_at (by omega)]; first | exact h.c0 | exact h.c1 | exact h.c2 | exact h.c3 | exact h.c4 | exact h.c5 | exact h.c6)
theorem B7.set1 {W : World} {p : Nat} {u0 u1 u2 u3 u4 u5 u6 : Value} (h : B7 W p u0 u1 u2 u3 u4 u5 u6) (v : Value) : B7 (W.setCell ⟨p, 1, none⟩ v) p u0 v u2 u3 u4 u5 u6 := by
  refine ⟨by simpa using h.lt, ?_, ?_, ?_, ?_, ?_, ?_, ?_, ?_, ?_, ?_, ?_, ?_, ?_, ?_⟩ <;> first | (rw [World.frozen?_setCell]; first | exact h.r0 | exact h.r1 | exact h.r2 | exact h.r3 | exact h.r4 | exact h.r5 | exact h.r6) | exact ss.same_at h.c1 | (rw [ss.other_at (by omega)]; first | exact h.c0 | exact h.c1 | exact h.c2 | exact h.c3 | exact h.c4 | exact h.c5 | exact h.c6)
theorem B7.set2 {W : World} {p : Nat} {u0 u1 u2 u3 u4 u5 u6 : Value} (h : B7 W p u0 u1 u2 u3 u4 u5 u6) (v : Value) : B7 (W.setCell ⟨p, 2, none⟩ v) p u0 u1 v u3 u4 u5 u6 := by
  refine ⟨by simpa using h.lt, ?_, ?_, ?_, ?_, ?_, ?_, ?_, ?_, ?_, ?_, ?_, ?_, ?_, ?_⟩ <;> first | (rw [World.frozen?_setCell]; first | exact h.r0 | exact h.r1 | exact h.r2 | exact h.r3 | exact h.r4 | exact h.r5 | exact h.r6) | exact ss.same_at h.c2 | (rw [ss.other_at (by omega)]; first | exact h.c0 | exact h.c1 | exact h.c2 | exact h.c3 | exact h.c4 | exact h.c5 | exact h.c6)
theorem B7.set3 {W : World} {p : Nat} {u0 u1 u2 u3 u4 u5 u6 : Value} (h : B7 W p u0 u1 u2 u3 u4 u5 u6) (v : Value) : B7 (W.setCell ⟨p, 3, none⟩ v) p u0 u1 u2 v u4 u5 u6 := by
  refine ⟨by simpa using h.lt, ?_, ?_, ?_, ?_, ?_, ?_, ?_, ?_, ?_, ?_, ?_, ?_, ?_, ?_⟩ <;> first | (rw [World.frozen?_setCell]; first | exact h.r0 | exact h.r1 | exact h.r2 | exact h.r3 | exact h.r4 | exact h.r5 | exact h.r6) | exact ss.same_at h.c3 | (rw [ss.other_at (by omega)]; first | exact h.c0 | exact h.c1 | exact h.c2 | exact h.c3 | exact h.c4 | exact h.c5 | exact h.c6)
theorem B7.set4 {W : World} {p : Nat} {u0 u1 u2 u3 u4 u5 u6 : Value} (h : B7 W p u0 u1 u2 u3 u4 u5 u6) (v : Value) : B7 (W.setCell ⟨p, 4, none⟩ v) p u0 u1 u2 u3 v u5 u6 := by
  refine ⟨by simpa using h.lt, ?_, ?_, ?_, ?_, ?_, ?_, ?_, ?_, ?_, ?_, ?_, ?_, ?_, ?_⟩ <;> first | (rw [World.frozen?_setCell]; first | exact h.r0 | exact h.r1 | exact h.r2 | exact h.r3 | exact h.r4 | exact h.r5 | exact h.r6) | exact ss.same_at h.c4 | (rw [ss.other_at (by omega)]; first | exact h.c0 | exact h.c1 | exact h.c2 | exact h.c3 | exact h.c4 | exact h.c5 | exact h.c6)
theorem B7.set5 {W : World} {p : Nat} {u0 u1 u2 u3 u4 u5 u6 : Value} (h : B7 W p u0 u1 u2 u3 u4 u5 u6) (v : Value) : B7 (W.setCell ⟨p, 5, none⟩ v) p u0 u1 u2 u3 u4 v u6 := by
  refine ⟨by simpa using h.lt, ?_, ?_, ?_, ?_, ?_, ?_, ?_, ?_, ?_, ?_, ?_, ?_, ?_, ?_⟩ <;> first | (rw [World.frozen?_setCell]; first | exact h.r0 | exact h.r1 | exact h.r2 | exact h.r3 | exact h.r4 | exact h.r5 | exact h.r6) | exact ss.same_at h.c5 | (rw [ss.other_at (by omega)]; first | exact h.c0 | exact h.c1 | exact h.c2 | exact h.c3 | exact h.c4 | exact h.c5 | exact h.c6)
theorem B7.set6 {W : World} {p : Nat} {u0 u1 u2 u3 u4 u5 u6 : Value} (h : B7 W p u0 u1 u2 u3 u4 u5 u6) (v : Value) : B7 (W.setCell ⟨p, 6, none⟩ v) p u0 u1 u2 u3 u4 u5 v := by
  refine ⟨by simpa using h.lt, ?_, ?_, ?_, ?_, ?_, ?_, ?_, ?_, ?_, ?_, ?_, ?_, ?_, ?_⟩ <;> first | (rw [World.frozen?_setCell]; first | exact h.r0 | exact h.r1 | exact h.r2 | exact h.r3 | exact h.r4 | exact h.r5 | exact h.r6) | exact ss.same_at h.c6 | (rw [ss.other_at (by omega)]; first | exact h.c0 | exact h.c1 | exact h.c2 | exact h.c3 | exact h.c4 | exact h.c5 | exact h.c6)
theorem Bx.set {w0 W : World} {p g : Nat} {a b : Int} {f0 f1 f2 f3 f4 : Value} (h : Bx w0 W p a b f0 f1 f2 f3 f4) (i : Nat) (v : Value) (hg : ¬ p = g) (hw : w0.heap.size ≤ g) : Bx w0 (W.setCell ⟨g, i, none⟩ v) p a b f0 f1 f2 f3 f4 := by
  have e : ∀ q, (W.setCell ⟨g, i, none⟩ v).cell? ⟨p, q, none⟩ = W.cell? ⟨p, q, none⟩ := fun q => World.cell?_setCell_other _ _ _ _ (fun e => hg (by injection e with e1 _ _; exact e1.symm))
  exact ⟨by simpa using h.lt, h.b0.setCell hw v, (e 0).trans h.c0, (e 1).trans h.c1, (e 2).trans h.c2, (e 3).trans h.c3, (e 4).trans h.c4, (e 5).trans h.c5, (e 6).trans h.c6⟩
theorem resM (W : World) (g : Nat) (x0 x1 x3 x4 x5 x6 x7 x8 x9 x10 x11 x12 x13 x14 x15 x16 x17 x18 x19 x20 x21 x22 x23 x24 x25 x26 x27 x28 x29 x30 : Value) (u0 u1 u2 u3 u4 u5 u6 : Value) (h : B7 W g u0 u1 u2 u3 u4 u5 u6) :
    (results Try.f10 #[x0, x1, .pointer (some ⟨g, 0, none⟩), x3, x4, x5, x6, x7, x8, x9, x10, x11, x12, x13, x14, x15, x16, x17, x18, x19, x20, x21, x22, x23, x24, x25, x26, x27, x28, x29, x30]).run Try.prog W = .ok (.agg #[u0, u1, u2, u3, u4, u5, u6]) W := by
  have d0 := h.c0
  have d1 := h.c1
  have d2 := h.c2
  have d3 := h.c3
  have d4 := h.c4
  have d5 := h.c5
  have d6 := h.c6
  simp [results, Try.results10, go_sem, d0, d1, d2, d3, d4, d5, d6]

theorem oo_lo {w : World} {lo lo' hi : Nat} {v : Value} {xs : List ca.V} (o : ca.OOwn w lo hi v xs) (h : lo' ≤ lo) : ca.OOwn w lo' hi v xs := by
  obtain ⟨hh, hr⟩ := o
  refine ⟨hh, ?_⟩
  rcases hr with hr | ⟨hp, g, cap, hv, e1, e2⟩
  · exact .inl hr
  · exact .inr ⟨hp, g, cap, hv, Nat.le_trans h e1, e2⟩
set_option maxRecDepth 100000 in
set_option maxHeartbeats 4000000 in
theorem toM (a p : Int) (m : Mch) (f0 f1 f2 f3 f4 : Value) (B : Nat) (w : World) (ha : MIn w B f0 f1 f2 f3 f4 m) (hB : B ≤ w.heap.size) (hq : Small m) :
    Calls Try.prog 10 #[.agg #[.int .i64 a, .int .i64 p, f0, f1, f2, f3, f4]] w fun e w' => ∃ g0 g1 g2 g3 g4, e = .returned (.agg #[.int .i64 a, .int .i64 p, g0, g1, g2, g3, g4]) ∧ MOwn w' w.heap.size w'.heap.size g0 g1 g2 g3 g4 m ∧ Below w.heap.size w w' := by
  obtain ⟨a0, n0, k0, rfl⟩ : ∃ a n k, f0 = .slice a n k := by obtain ⟨a, k, h⟩ := ss.rows_val ha.h0; exact ⟨a, _, k, h⟩
  obtain ⟨a1, n1, k1, rfl⟩ : ∃ a n k, f1 = .slice a n k := by obtain ⟨a, k, h⟩ := ss.rows_val ha.h1; exact ⟨a, _, k, h⟩
  obtain ⟨a2, n2, k2, rfl⟩ : ∃ a n k, f2 = .slice a n k := by obtain ⟨a, k, h⟩ := ca.ops_val ha.h2; exact ⟨a, _, k, h⟩
  obtain ⟨a3, n3, k3, rfl⟩ : ∃ a n k, f3 = .slice a n k := by obtain ⟨a, k, h⟩ := nf.infs_val ha.h3; exact ⟨a, _, k, h⟩
  obtain ⟨a4, n4, k4, rfl⟩ : ∃ a n k, f4 = .slice a n k := by obtain ⟨a, k, h⟩ := ints_val ha.h4; exact ⟨a, _, k, h⟩
  have HA := hid ha
  have E1 := (Below.refl w.heap.size w).alloc (Nat.le_refl _) (.cells #[.int .i64 a, .int .i64 p, .slice a0 n0 k0, .slice a1 n1 k1, .slice a2 n2 k2, .slice a3 n3 k3, .slice a4 n4 k4] 27)
  have HBX := hid (((bx_new w 27 a p (.slice a0 n0 k0) (.slice a1 n1 k1) (.slice a2 n2 k2) (.slice a3 n3 k3) (.slice a4 n4 k4)).below ((Below.refl _ _).alloc (Nat.le_refl _) (.cells #[.int .i64 0, .int .i64 0, .slice none 0 0, .slice none 0 0, .slice none 0 0, .slice none 0 0, .slice none 0 0] 34))).below ((Below.refl _ _).alloc (Nat.le_refl _) (.cells #[.int .i64 a, .int .i64 p, .slice none 0 0, .slice none 0 0, .slice none 0 0, .slice none 0 0, .slice none 0 0] 34)))
  have HR := (b7_new (w.alloc (.cells #[.int .i64 a, .int .i64 p, .slice a0 n0 k0, .slice a1 n1 k1, .slice a2 n2 k2, .slice a3 n3 k3, .slice a4 n4 k4] 27)) 34 (.int .i64 0) (.int .i64 0) (.slice none 0 0) (.slice none 0 0) (.slice none 0 0) (.slice none 0 0) (.slice none 0 0)).below ((Below.refl _ _).alloc (Nat.le_refl _) (.cells #[.int .i64 a, .int .i64 p, .slice none 0 0, .slice none 0 0, .slice none 0 0, .slice none 0 0, .slice none 0 0] 34))
  have HO := b7_new ((w.alloc (.cells #[.int .i64 a, .int .i64 p, .slice a0 n0 k0, .slice a1 n1 k1, .slice a2 n2 k2, .slice a3 n3 k3, .slice a4 n4 k4] 27)).alloc (.cells #[.int .i64 0, .int .i64 0, .slice none 0 0, .slice none 0 0, .slice none 0 0, .slice none 0 0, .slice none 0 0] 34)) 34 (.int .i64 a) (.int .i64 p) (.slice none 0 0) (.slice none 0 0) (.slice none 0 0) (.slice none 0 0) (.slice none 0 0)
  simp only [show (w.alloc (.cells #[.int .i64 a, .int .i64 p, .slice a0 n0 k0, .slice a1 n1 k1, .slice a2 n2 k2, .slice a3 n3 k3, .slice a4 n4 k4] 27)).heap.size = w.heap.size + 1 from by simp, show ((w.alloc (.cells #[.int .i64 a, .int .i64 p, .slice a0 n0 k0, .slice a1 n1 k1, .slice a2 n2 k2, .slice a3 n3 k3, .slice a4 n4 k4] 27)).alloc (.cells #[.int .i64 0, .int .i64 0, .slice none 0 0, .slice none 0 0, .slice none 0 0, .slice none 0 0, .slice none 0 0] 34)).heap.size = w.heap.size + 1 + 1 from by simp] at HR HO
  replace HR := hid HR
  replace HO := hid HO
  clear E1 ha
  have hsz : w.heap.size + 1 + 1 < (((w.alloc (.cells #[.int .i64 a, .int .i64 p, .slice a0 n0 k0, .slice a1 n1 k1, .slice a2 n2 k2, .slice a3 n3 k3, .slice a4 n4 k4] 27)).alloc (.cells #[.int .i64 0, .int .i64 0, .slice none 0 0, .slice none 0 0, .slice none 0 0, .slice none 0 0, .slice none 0 0] 34)).alloc (.cells #[.int .i64 a, .int .i64 p, .slice none 0 0, .slice none 0 0, .slice none 0 0, .slice none 0 0, .slice none 0 0] 34)).heap.size := by simp
  have HT0 := hid (fun W (h : ss.Rows W B (.slice a0 n0 k0) m.fr) (l : B ≤ W.heap.size) => ss.toSS m.fr (.slice a0 n0 k0) B W h l hq.s0.1 (short_mono hq.s0.2 (by omega)))
  have HT1 := hid (fun W (h : ss.Rows W B (.slice a1 n1 k1) m.bk) (l : B ≤ W.heap.size) => ss.toSS m.bk (.slice a1 n1 k1) B W h l hq.s1.1 (short_mono hq.s1.2 (by omega)))
  have HT2 := hid (fun W (h : ca.Ops W B (.slice a2 n2 k2) m.cs) (l : B ≤ W.heap.size) => ca.toOS m.cs (.slice a2 n2 k2) B W h l hq.s2)
  have HT3 := hid (fun W (h : nf.Infs W B (.slice a3 n3 k3) m.ls) (l : B ≤ W.heap.size) => nf.toIS m.ls (.slice a3 n3 k3) B W h l hq.s3)
  have HT4 := hid (fun W (h : Ints W B (.slice a4 n4 k4) m.dr) (l : B ≤ W.heap.size) => toI m.dr (.slice a4 n4 k4) B W h l (by have := hq.s4; omega))
  have HM := hid (fun W (b : Below w.heap.size w W) => HA.out.below b)
  clear hq HA
  go_enter Try.func10, Try.ntmps10
  have y := HBX.out.c2
  go_wp2_with fail
  clear y
  generalize ((w.alloc (.cells #[.int .i64 a, .int .i64 p, .slice a0 n0 k0, .slice a1 n1 k1, .slice a2 n2 k2, .slice a3 n3 k3, .slice a4 n4 k4] 27)).alloc (.cells #[.int .i64 0, .int .i64 0, .slice none 0 0, .slice none 0 0, .slice none 0 0, .slice none 0 0, .slice none 0 0] 34)).alloc (.cells #[.int .i64 a, .int .i64 p, .slice none 0 0, .slice none 0 0, .slice none 0 0, .slice none 0 0, .slice none 0 0] 34) = W0 at *
  have hb0 := HBX.out.b0.size
  refine (HT0.out W0 ((HM.out W0 HBX.out.b0).h0) (by omega)).mono ?_
  rintro e V0 ⟨v0, rfl, o0, b0⟩
  have hv0 := b0.size
  obtain ⟨e0, l0, d0, rfl⟩ : ∃ a n k, v0 = .slice a n k := by obtain ⟨a, k, h⟩ := ss.rown_val o0; exact ⟨a, _, k, h⟩
  have Q0 := hid o0
  replace HBX := hid (HBX.out.below b0)
  replace HR := hid (HR.out.below b0)
  replace HO := hid (HO.out.below b0)
  clear o0 b0
  have r0 := HO.out.r2
  have z0 := HO.out.c2
  replace Q0 := hid (Q0.out.chg (chg_set V0 (w.heap.size + 1 + 1) 2 (.slice e0 l0 d0)) (by omega))
  replace HBX := hid (HBX.out.set (g := w.heap.size + 1 + 1) 2 (.slice e0 l0 d0) (by omega) (by omega))
  replace HR := hid (HR.out.other (g := w.heap.size + 1 + 1) 2 (.slice e0 l0 d0) (by omega))
  replace HO := hid (HO.out.set2 (.slice e0 l0 d0))
  have hs0 : (V0.setCell ⟨w.heap.size + 1 + 1, 2, none⟩ (.slice e0 l0 d0)).heap.size = V0.heap.size := by simp
  have y := HBX.out.c3
  go_wp2_with fail
  clear y r0 z0
  generalize V0.setCell ⟨w.heap.size + 1 + 1, 2, none⟩ (.slice e0 l0 d0) = W1 at *
  have hb1 := HBX.out.b0.size
  refine (HT1.out W1 ((HM.out W1 HBX.out.b0).h1) (by omega)).mono ?_
  rintro e V1 ⟨v1, rfl, o1, b1⟩
  have hv1 := b1.size
  obtain ⟨e1, l1, d1, rfl⟩ : ∃ a n k, v1 = .slice a n k := by obtain ⟨a, k, h⟩ := ss.rown_val o1; exact ⟨a, _, k, h⟩
  replace Q0 := hid (Q0.out.chg (Chg.ofBelow (lo := 0) b1) (.inr (.inr (Nat.zero_le _))))
  have Q1 := hid o1
  replace HBX := hid (HBX.out.below b1)
  replace HR := hid (HR.out.below b1)
  replace HO := hid (HO.out.below b1)
  clear o1 b1
  have r1 := HO.out.r3
  have z1 := HO.out.c3
  replace Q0 := hid (Q0.out.chg (chg_set V1 (w.heap.size + 1 + 1) 3 (.slice e1 l1 d1)) (by omega))
  replace Q1 := hid (Q1.out.chg (chg_set V1 (w.heap.size + 1 + 1) 3 (.slice e1 l1 d1)) (by omega))
  replace HBX := hid (HBX.out.set (g := w.heap.size + 1 + 1) 3 (.slice e1 l1 d1) (by omega) (by omega))
  replace HR := hid (HR.out.other (g := w.heap.size + 1 + 1) 3 (.slice e1 l1 d1) (by omega))
  replace HO := hid (HO.out.set3 (.slice e1 l1 d1))
  have hs1 : (V1.setCell ⟨w.heap.size + 1 + 1, 3, none⟩ (.slice e1 l1 d1)).heap.size = V1.heap.size := by simp
  have y := HBX.out.c4
  go_wp2_with fail
  clear y r1 z1
  generalize V1.setCell ⟨w.heap.size + 1 + 1, 3, none⟩ (.slice e1 l1 d1) = W2 at *
  have hb2 := HBX.out.b0.size
  refine (HT2.out W2 ((HM.out W2 HBX.out.b0).h2) (by omega)).mono ?_
  rintro e V2 ⟨v2, rfl, o2, b2⟩
  have hv2 := b2.size
  obtain ⟨e2, l2, d2, rfl⟩ : ∃ a n k, v2 = .slice a n k := by obtain ⟨a, k, h⟩ := ca.oown_val o2; exact ⟨a, _, k, h⟩
  replace Q0 := hid (Q0.out.chg (Chg.ofBelow (lo := 0) b2) (.inr (.inr (Nat.zero_le _))))
  replace Q1 := hid (Q1.out.chg (Chg.ofBelow (lo := 0) b2) (.inr (.inr (Nat.zero_le _))))
  have Q2 := hid o2
  replace HBX := hid (HBX.out.below b2)
  replace HR := hid (HR.out.below b2)
  replace HO := hid (HO.out.below b2)
  clear o2 b2
  have r2 := HO.out.r4
  have z2 := HO.out.c4
  replace Q0 := hid (Q0.out.chg (chg_set V2 (w.heap.size + 1 + 1) 4 (.slice e2 l2 d2)) (by omega))
  replace Q1 := hid (Q1.out.chg (chg_set V2 (w.heap.size + 1 + 1) 4 (.slice e2 l2 d2)) (by omega))
  replace Q2 := hid (Q2.out.chg (chg_set V2 (w.heap.size + 1 + 1) 4 (.slice e2 l2 d2)) (by omega))
  replace HBX := hid (HBX.out.set (g := w.heap.size + 1 + 1) 4 (.slice e2 l2 d2) (by omega) (by omega))
  replace HR := hid (HR.out.other (g := w.heap.size + 1 + 1) 4 (.slice e2 l2 d2) (by omega))
  replace HO := hid (HO.out.set4 (.slice e2 l2 d2))
  have hs2 : (V2.setCell ⟨w.heap.size + 1 + 1, 4, none⟩ (.slice e2 l2 d2)).heap.size = V2.heap.size := by simp
  have y := HBX.out.c5
  go_wp2_with fail
  clear y r2 z2
  generalize V2.setCell ⟨w.heap.size + 1 + 1, 4, none⟩ (.slice e2 l2 d2) = W3 at *
  have hb3 := HBX.out.b0.size
  refine (HT3.out W3 ((HM.out W3 HBX.out.b0).h3) (by omega)).mono ?_
  rintro e V3 ⟨v3, rfl, o3, b3⟩
  have hv3 := b3.size
  obtain ⟨e3, l3, d3, rfl⟩ : ∃ a n k, v3 = .slice a n k := by obtain ⟨a, k, h⟩ := nf.iown_val o3; exact ⟨a, _, k, h⟩
  replace Q0 := hid (Q0.out.chg (Chg.ofBelow (lo := 0) b3) (.inr (.inr (Nat.zero_le _))))
  replace Q1 := hid (Q1.out.chg (Chg.ofBelow (lo := 0) b3) (.inr (.inr (Nat.zero_le _))))
  replace Q2 := hid (Q2.out.chg (Chg.ofBelow (lo := 0) b3) (.inr (.inr (Nat.zero_le _))))
  have Q3 := hid o3
  replace HBX := hid (HBX.out.below b3)
  replace HR := hid (HR.out.below b3)
  replace HO := hid (HO.out.below b3)
  clear o3 b3
  have r3 := HO.out.r5
  have z3 := HO.out.c5
  replace Q0 := hid (Q0.out.chg (chg_set V3 (w.heap.size + 1 + 1) 5 (.slice e3 l3 d3)) (by omega))
  replace Q1 := hid (Q1.out.chg (chg_set V3 (w.heap.size + 1 + 1) 5 (.slice e3 l3 d3)) (by omega))
  replace Q2 := hid (Q2.out.chg (chg_set V3 (w.heap.size + 1 + 1) 5 (.slice e3 l3 d3)) (by omega))
  replace Q3 := hid (Q3.out.chg (chg_set V3 (w.heap.size + 1 + 1) 5 (.slice e3 l3 d3)) (by omega))
  replace HBX := hid (HBX.out.set (g := w.heap.size + 1 + 1) 5 (.slice e3 l3 d3) (by omega) (by omega))
  replace HR := hid (HR.out.other (g := w.heap.size + 1 + 1) 5 (.slice e3 l3 d3) (by omega))
  replace HO := hid (HO.out.set5 (.slice e3 l3 d3))
  have hs3 : (V3.setCell ⟨w.heap.size + 1 + 1, 5, none⟩ (.slice e3 l3 d3)).heap.size = V3.heap.size := by simp
  have y := HBX.out.c6
  go_wp2_with fail
  clear y r3 z3
  generalize V3.setCell ⟨w.heap.size + 1 + 1, 5, none⟩ (.slice e3 l3 d3) = W4 at *
  have hb4 := HBX.out.b0.size
  refine (HT4.out W4 ((HM.out W4 HBX.out.b0).h4) (by omega)).mono ?_
  rintro e V4 ⟨v4, rfl, o4, b4⟩
  have hv4 := b4.size
  obtain ⟨e4, l4, d4, rfl⟩ : ∃ a n k, v4 = .slice a n k := by obtain ⟨a, k, h⟩ := own_val o4; exact ⟨a, _, k, h⟩
  replace Q0 := hid (Q0.out.chg (Chg.ofBelow (lo := 0) b4) (.inr (.inr (Nat.zero_le _))))
  replace Q1 := hid (Q1.out.chg (Chg.ofBelow (lo := 0) b4) (.inr (.inr (Nat.zero_le _))))
  replace Q2 := hid (Q2.out.chg (Chg.ofBelow (lo := 0) b4) (.inr (.inr (Nat.zero_le _))))
  replace Q3 := hid (Q3.out.chg (Chg.ofBelow (lo := 0) b4) (.inr (.inr (Nat.zero_le _))))
  have Q4 := hid o4
  replace HBX := hid (HBX.out.below b4)
  replace HR := hid (HR.out.below b4)
  replace HO := hid (HO.out.below b4)
  clear o4 b4
  have r4 := HO.out.r6
  have z4 := HO.out.c6
  replace Q0 := hid (Q0.out.chg (chg_set V4 (w.heap.size + 1 + 1) 6 (.slice e4 l4 d4)) (by omega))
  replace Q1 := hid (Q1.out.chg (chg_set V4 (w.heap.size + 1 + 1) 6 (.slice e4 l4 d4)) (by omega))
  replace Q2 := hid (Q2.out.chg (chg_set V4 (w.heap.size + 1 + 1) 6 (.slice e4 l4 d4)) (by omega))
  replace Q3 := hid (Q3.out.chg (chg_set V4 (w.heap.size + 1 + 1) 6 (.slice e4 l4 d4)) (by omega))
  replace Q4 := hid (Q4.out.chg (chg_set V4 (w.heap.size + 1 + 1) 6 (.slice e4 l4 d4)) (by omega))
  replace HBX := hid (HBX.out.set (g := w.heap.size + 1 + 1) 6 (.slice e4 l4 d4) (by omega) (by omega))
  replace HR := hid (HR.out.other (g := w.heap.size + 1 + 1) 6 (.slice e4 l4 d4) (by omega))
  replace HO := hid (HO.out.set6 (.slice e4 l4 d4))
  have hs4 : (V4.setCell ⟨w.heap.size + 1 + 1, 6, none⟩ (.slice e4 l4 d4)).heap.size = V4.heap.size := by simp
  have t0 := HO.out.c0
  have s0 := HR.out.r0
  have w0 := HR.out.c0
  have t1 := HO.out.c1
  have s1 := HR.out.r1
  have w1 := HR.out.c1
  have t2 := HO.out.c2
  have s2 := HR.out.r2
  have w2 := HR.out.c2
  have t3 := HO.out.c3
  have s3 := HR.out.r3
  have w3 := HR.out.c3
  have t4 := HO.out.c4
  have s4 := HR.out.r4
  have w4 := HR.out.c4
  have t5 := HO.out.c5
  have s5 := HR.out.r5
  have w5 := HR.out.c5
  have t6 := HO.out.c6
  have s6 := HR.out.r6
  have w6 := HR.out.c6
  have R0 := hid (HR.out.set0 (.int .i64 a))
  have R1 := hid (R0.out.set1 (.int .i64 p))
  have R2 := hid (R1.out.set2 (.slice e0 l0 d0))
  have R3 := hid (R2.out.set3 (.slice e1 l1 d1))
  have R4 := hid (R3.out.set4 (.slice e2 l2 d2))
  have R5 := hid (R4.out.set5 (.slice e3 l3 d3))
  have R6 := hid (R5.out.set6 (.slice e4 l4 d4))
  have hfin := HBX.out.b0
  clear HR
  go_wp2
  clear t0 s0 w0 t1 s1 w1 t2 s2 w2 t3 s3 w3 t4 s4 w4 t5 s5 w5 t6 s6 w6 r4 z4
  refine bodyPost_ret (v := .agg #[.int .i64 a, .int .i64 p, .slice e0 l0 d0, .slice e1 l1 d1, .slice e2 l2 d2, .slice e3 l3 d3, .slice e4 l4 d4]) ?_ rfl ⟨.slice e0 l0 d0, .slice e1 l1 d1, .slice e2 l2 d2, .slice e3 l3 d3, .slice e4 l4 d4, rfl, ?_, ?_⟩
  · exact resM _ _ _ _ _ _ _ _ _ _ _ _ _ _ _ _ _ _ _ _ _ _ _ _ _ _ _ _ _ _ _ _ _ _ _ _ _ _ _ R6.out
  · have hz : ∀ (X : World) (i : Nat) (u : Value), (X.setCell ⟨w.heap.size + 1, i, none⟩ u).heap.size = X.heap.size := fun X i u => by simp
    have q0 := (((((((Q0.out.chg (chg_set _ (w.heap.size + 1) 0 (.int .i64 a)) (by omega)).chg (chg_set _ (w.heap.size + 1) 1 (.int .i64 p)) (by omega)).chg (chg_set _ (w.heap.size + 1) 2 (.slice e0 l0 d0)) (by omega)).chg (chg_set _ (w.heap.size + 1) 3 (.slice e1 l1 d1)) (by omega)).chg (chg_set _ (w.heap.size + 1) 4 (.slice e2 l2 d2)) (by omega)).chg (chg_set _ (w.heap.size + 1) 5 (.slice e3 l3 d3)) (by omega)).chg (chg_set _ (w.heap.size + 1) 6 (.slice e4 l4 d4)) (by omega))
    have q1 := (((((((Q1.out.chg (chg_set _ (w.heap.size + 1) 0 (.int .i64 a)) (by omega)).chg (chg_set _ (w.heap.size + 1) 1 (.int .i64 p)) (by omega)).chg (chg_set _ (w.heap.size + 1) 2 (.slice e0 l0 d0)) (by omega)).chg (chg_set _ (w.heap.size + 1) 3 (.slice e1 l1 d1)) (by omega)).chg (chg_set _ (w.heap.size + 1) 4 (.slice e2 l2 d2)) (by omega)).chg (chg_set _ (w.heap.size + 1) 5 (.slice e3 l3 d3)) (by omega)).chg (chg_set _ (w.heap.size + 1) 6 (.slice e4 l4 d4)) (by omega))
    have q2 := (((((((Q2.out.chg (chg_set _ (w.heap.size + 1) 0 (.int .i64 a)) (by omega)).chg (chg_set _ (w.heap.size + 1) 1 (.int .i64 p)) (by omega)).chg (chg_set _ (w.heap.size + 1) 2 (.slice e0 l0 d0)) (by omega)).chg (chg_set _ (w.heap.size + 1) 3 (.slice e1 l1 d1)) (by omega)).chg (chg_set _ (w.heap.size + 1) 4 (.slice e2 l2 d2)) (by omega)).chg (chg_set _ (w.heap.size + 1) 5 (.slice e3 l3 d3)) (by omega)).chg (chg_set _ (w.heap.size + 1) 6 (.slice e4 l4 d4)) (by omega))
    have q3 := (((((((Q3.out.chg (chg_set _ (w.heap.size + 1) 0 (.int .i64 a)) (by omega)).chg (chg_set _ (w.heap.size + 1) 1 (.int .i64 p)) (by omega)).chg (chg_set _ (w.heap.size + 1) 2 (.slice e0 l0 d0)) (by omega)).chg (chg_set _ (w.heap.size + 1) 3 (.slice e1 l1 d1)) (by omega)).chg (chg_set _ (w.heap.size + 1) 4 (.slice e2 l2 d2)) (by omega)).chg (chg_set _ (w.heap.size + 1) 5 (.slice e3 l3 d3)) (by omega)).chg (chg_set _ (w.heap.size + 1) 6 (.slice e4 l4 d4)) (by omega))
    have q4 := (((((((Q4.out.chg (chg_set _ (w.heap.size + 1) 0 (.int .i64 a)) (by omega)).chg (chg_set _ (w.heap.size + 1) 1 (.int .i64 p)) (by omega)).chg (chg_set _ (w.heap.size + 1) 2 (.slice e0 l0 d0)) (by omega)).chg (chg_set _ (w.heap.size + 1) 3 (.slice e1 l1 d1)) (by omega)).chg (chg_set _ (w.heap.size + 1) 4 (.slice e2 l2 d2)) (by omega)).chg (chg_set _ (w.heap.size + 1) 5 (.slice e3 l3 d3)) (by omega)).chg (chg_set _ (w.heap.size + 1) 6 (.slice e4 l4 d4)) (by omega))
    refine ⟨Nat.le_refl _, V0.heap.size, V1.heap.size, V2.heap.size, V3.heap.size, by omega, by omega, by omega, by omega, by simp only [hz]; omega, ?_, ?_, ?_, ?_, ?_⟩
    · exact (q0.lo (by omega))
    · exact (q1.lo (by omega))
    · exact (oo_lo q2 (by omega))
    · exact (q3.lo (by omega))
    · exact (q4.lo (by omega)).hi (by simp only [hz]; omega) (Nat.le_refl _)
  · exact (((((((hfin.setCell (by simp) _).setCell (by simp) _).setCell (by simp) _).setCell (by simp) _).setCell (by simp) _).setCell (by simp) _).setCell (by simp) _)

set_option maxRecDepth 100000 in
set_option maxHeartbeats 4000000 in
theorem eqMS (a p : Int) (m : Mch) (f0 f1 f2 f3 f4 g0 g1 g2 g3 g4 : Value) (B C : Nat) (w : World) (ha : MIn w B f0 f1 f2 f3 f4 m) (hb : MIn w C g0 g1 g2 g3 g4 m) (hq : Small m) :
    Calls Try.prog 12 #[.agg #[.int .i64 a, .int .i64 p, f0, f1, f2, f3, f4], .agg #[.int .i64 a, .int .i64 p, g0, g1, g2, g3, g4]] w fun e w' => e = .returned (.bool true) ∧ Below w.heap.size w w' := by
  obtain ⟨a0, n0, k0, rfl⟩ : ∃ a n k, f0 = .slice a n k := by obtain ⟨a, k, h⟩ := ss.rows_val ha.h0; exact ⟨a, _, k, h⟩
  obtain ⟨a1, n1, k1, rfl⟩ : ∃ a n k, f1 = .slice a n k := by obtain ⟨a, k, h⟩ := ss.rows_val ha.h1; exact ⟨a, _, k, h⟩
  obtain ⟨a2, n2, k2, rfl⟩ : ∃ a n k, f2 = .slice a n k := by obtain ⟨a, k, h⟩ := ca.ops_val ha.h2; exact ⟨a, _, k, h⟩
  obtain ⟨a3, n3, k3, rfl⟩ : ∃ a n k, f3 = .slice a n k := by obtain ⟨a, k, h⟩ := nf.infs_val ha.h3; exact ⟨a, _, k, h⟩
  obtain ⟨a4, n4, k4, rfl⟩ : ∃ a n k, f4 = .slice a n k := by obtain ⟨a, k, h⟩ := ints_val ha.h4; exact ⟨a, _, k, h⟩
  obtain ⟨b0, i0, j0, rfl⟩ : ∃ a n k, g0 = .slice a n k := by obtain ⟨a, k, h⟩ := ss.rows_val hb.h0; exact ⟨a, _, k, h⟩
  obtain ⟨b1, i1, j1, rfl⟩ : ∃ a n k, g1 = .slice a n k := by obtain ⟨a, k, h⟩ := ss.rows_val hb.h1; exact ⟨a, _, k, h⟩
  obtain ⟨b2, i2, j2, rfl⟩ : ∃ a n k, g2 = .slice a n k := by obtain ⟨a, k, h⟩ := ca.ops_val hb.h2; exact ⟨a, _, k, h⟩
  obtain ⟨b3, i3, j3, rfl⟩ : ∃ a n k, g3 = .slice a n k := by obtain ⟨a, k, h⟩ := nf.infs_val hb.h3; exact ⟨a, _, k, h⟩
  obtain ⟨b4, i4, j4, rfl⟩ : ∃ a n k, g4 = .slice a n k := by obtain ⟨a, k, h⟩ := ints_val hb.h4; exact ⟨a, _, k, h⟩
  have HM := hid (fun W (b : Below w.heap.size w W) => ha.below b)
  have HN := hid (fun W (b : Below w.heap.size w W) => hb.below b)
  have HX := hid ((bx_new w 34 a p (.slice a0 n0 k0) (.slice a1 n1 k1) (.slice a2 n2 k2) (.slice a3 n3 k3) (.slice a4 n4 k4)).below ((Below.refl _ _).alloc (Nat.le_refl _) (.cells #[.int .i64 a, .int .i64 p, .slice b0 i0 j0, .slice b1 i1 j1, .slice b2 i2 j2, .slice b3 i3 j3, .slice b4 i4 j4] 34)))
  have HY0 := bx_new (w.alloc (.cells #[.int .i64 a, .int .i64 p, .slice a0 n0 k0, .slice a1 n1 k1, .slice a2 n2 k2, .slice a3 n3 k3, .slice a4 n4 k4] 34)) 34 a p (.slice b0 i0 j0) (.slice b1 i1 j1) (.slice b2 i2 j2) (.slice b3 i3 j3) (.slice b4 i4 j4)
  simp only [show (w.alloc (.cells #[.int .i64 a, .int .i64 p, .slice a0 n0 k0, .slice a1 n1 k1, .slice a2 n2 k2, .slice a3 n3 k3, .slice a4 n4 k4] 34)).heap.size = w.heap.size + 1 from by simp] at HY0
  have HY := hid HY0
  clear HY0 ha hb
  have HE0 := hid (fun W (h : ss.Rows W B (.slice a0 n0 k0) m.fr) (k : ss.Rows W C (.slice b0 i0 j0) m.fr) => ss.eqSS m.fr m.fr (.slice a0 n0 k0) (.slice b0 i0 j0) B C W h k (by have := hq.s0.1; omega) (by have := hq.s0.1; omega) (short_mono hq.s0.2 (by omega)) (short_mono hq.s0.2 (by omega)))
  have HE1 := hid (fun W (h : ss.Rows W B (.slice a1 n1 k1) m.bk) (k : ss.Rows W C (.slice b1 i1 j1) m.bk) => ss.eqSS m.bk m.bk (.slice a1 n1 k1) (.slice b1 i1 j1) B C W h k (by have := hq.s1.1; omega) (by have := hq.s1.1; omega) (short_mono hq.s1.2 (by omega)) (short_mono hq.s1.2 (by omega)))
  have HE2 := hid (fun W (h : ca.Ops W B (.slice a2 n2 k2) m.cs) (k : ca.Ops W C (.slice b2 i2 j2) m.cs) => ca.eqOS m.cs (.slice a2 n2 k2) (.slice b2 i2 j2) B C W h k hq.s2)
  have HE3 := hid (fun W (h : nf.Infs W B (.slice a3 n3 k3) m.ls) (k : nf.Infs W C (.slice b3 i3 j3) m.ls) => nf.eqIS m.ls (.slice a3 n3 k3) (.slice b3 i3 j3) B C W h k hq.s3)
  have HE4 := hid (fun W (h : Ints W B (.slice a4 n4 k4) m.dr) (k : Ints W C (.slice b4 i4 j4) m.dr) => eqS m.dr (.slice a4 n4 k4) (.slice b4 i4 j4) B C W h k (by have := hq.s4; omega))
  clear hq
  go_enter Try.func12, Try.ntmps12
  go_wp2_with fail
  generalize ((w.alloc (.cells #[.int .i64 a, .int .i64 p, .slice a0 n0 k0, .slice a1 n1 k1, .slice a2 n2 k2, .slice a3 n3 k3, .slice a4 n4 k4] 34)).alloc (.cells #[.int .i64 a, .int .i64 p, .slice b0 i0 j0, .slice b1 i1 j1, .slice b2 i2 j2, .slice b3 i3 j3, .slice b4 i4 j4] 34)) = W0 at *
  obtain ⟨Y0, hY0⟩ : ∃ Y, Y = (w.alloc (.cells #[.int .i64 a, .int .i64 p, .slice a0 n0 k0, .slice a1 n1 k1, .slice a2 n2 k2, .slice a3 n3 k3, .slice a4 n4 k4] 34)) := ⟨_, rfl⟩
  rw [← hY0] at HY
  clear hY0
  refine (HE0.out W0 ((HM.out W0 HX.out.b0).h0) ((HN.out W0 HX.out.b0).h0)).mono ?_
  rintro e W1 ⟨er0, q0, hq0⟩
  have b0 : Below W0.heap.size W0 W1 := by rw [hq0]; exact bdrewN (Below.refl _ _) _
  have er0' : e = .returned (.bool true) := by rw [er0, ss.sameR_self]
  subst er0'
  clear er0 hq0
  replace HX := hid (HX.out.below b0)
  replace HY := hid (HY.out.below b0)
  clear b0
  have y := HX.out.c3
  have z := HY.out.c3
  go_wp2_with fail
  clear y z
  refine (HE1.out W1 ((HM.out W1 HX.out.b0).h1) ((HN.out W1 HX.out.b0).h1)).mono ?_
  rintro e W2 ⟨er1, q1, hq1⟩
  have b1 : Below W1.heap.size W1 W2 := by rw [hq1]; exact bdrewN (Below.refl _ _) _
  have er1' : e = .returned (.bool true) := by rw [er1, ss.sameR_self]
  subst er1'
  clear er1 hq1
  replace HX := hid (HX.out.below b1)
  replace HY := hid (HY.out.below b1)
  clear b1
  have y := HX.out.c4
  have z := HY.out.c4
  go_wp2_with fail
  clear y z
  refine (HE2.out W2 ((HM.out W2 HX.out.b0).h2) ((HN.out W2 HX.out.b0).h2)).mono ?_
  rintro e W3 ⟨rfl, b2⟩
  replace HX := hid (HX.out.below b2)
  replace HY := hid (HY.out.below b2)
  clear b2
  have y := HX.out.c5
  have z := HY.out.c5
  go_wp2_with fail
  clear y z
  refine (HE3.out W3 ((HM.out W3 HX.out.b0).h3) ((HN.out W3 HX.out.b0).h3)).mono ?_
  rintro e W4 ⟨rfl, b3⟩
  replace HX := hid (HX.out.below b3)
  replace HY := hid (HY.out.below b3)
  clear b3
  have y := HX.out.c6
  have z := HY.out.c6
  go_wp2_with fail
  clear y z
  refine (HE4.out W4 ((HM.out W4 HX.out.b0).h4) ((HN.out W4 HX.out.b0).h4)).mono ?_
  rintro e W5 ⟨rfl, b4⟩
  replace HX := hid (HX.out.below b4)
  replace HY := hid (HY.out.below b4)
  clear b4
  go_wp2
  go_ret
  exact ⟨rfl, HX.out.b0⟩

section
open Go.Joins Go.ChangeShapes Go.WideShapes Go.Deep Go.WideElems
variable {H : Type} {enc : TypeId × Value → H} {P : Program} {w : World} {base : Nat} {held : Bool}
theorem array7 {α : Type} {cs : Array α} (h : cs.size = 7) : ∃ c0 c1 c2 c3 c4 c5 c6, cs = #[c0, c1, c2, c3, c4, c5, c6] := by
  obtain ⟨l⟩ := cs
  match l, h with
  | [c0, c1, c2, c3, c4, c5, c6], _ => exact ⟨c0, c1, c2, c3, c4, c5, c6, rfl⟩
theorem open_agg7 {r : Reach} {b0 : Nat} {spare : Nat → Bool} {t : TypeId} {f0 f1 f2 f3 f4 f5 f6 : Field} {v : Value} {d : DataW H} {p : List MemPlace} (hs : P.underlying t = some (.struct #[f0, f1, f2, f3, f4, f5, f6])) (hone : oneCellFields P #[f0, f1, f2, f3, f4, f5, f6] = true) (hC : P.cellsOf t = 7)
    (hv : Value.okWide P w r b0 t v) (h : DataW.Trod enc P w base spare held t v d p) :
    ∃ (v0 v1 v2 v3 v4 v5 v6 : Value) (y0 y1 y2 y3 y4 y5 y6 : DataW H × List MemPlace) (n : Nat), v = .agg #[v0, v1, v2, v3, v4, v5, v6] ∧ d = .agg [y0.1, y1.1, y2.1, y3.1, y4.1, y5.1, y6.1] ∧ p = y0.2 ++ (y1.2 ++ (y2.2 ++ (y3.2 ++ (y4.2 ++ (y5.2 ++ y6.2))))) ∧
      DataW.trod enc P w base spare held n f0.type [v0] = some y0 ∧ DataW.trod enc P w base spare held n f1.type [v1] = some y1 ∧ DataW.trod enc P w base spare held n f2.type [v2] = some y2 ∧
      DataW.trod enc P w base spare held n f3.type [v3] = some y3 ∧ DataW.trod enc P w base spare held n f4.type [v4] = some y4 ∧ DataW.trod enc P w base spare held n f5.type [v5] = some y5 ∧ DataW.trod enc P w base spare held n f6.type [v6] = some y6 := by
  obtain ⟨cs, rfl, hsz⟩ := okWide_struct hs hv
  obtain ⟨c0, c1, c2, c3, c4, c5, c6, rfl⟩ := array7 (hsz.trans hC)
  obtain ⟨fuel, hf⟩ := h
  obtain ⟨xs, n, _, hx, hl, hlen, hff⟩ := DataW.trod_struct hs hf
  obtain ⟨y0, y1, y2, y3, y4, y5, y6, rfl⟩ : ∃ y0 y1 y2 y3 y4 y5 y6, xs = [y0, y1, y2, y3, y4, y5, y6] := by
    match xs, hlen with
    | [y0, y1, y2, y3, y4, y5, y6], _ => exact ⟨y0, y1, y2, y3, y4, y5, y6, rfl⟩
  obtain ⟨o0, k0⟩ := hone_of hone 0 f0 rfl
  have h0 := by simpa using hff 0 f0 rfl
  obtain ⟨o1, k1⟩ := hone_of hone 1 f1 rfl
  have h1 := by simpa using hff 1 f1 rfl
  obtain ⟨o2, k2⟩ := hone_of hone 2 f2 rfl
  have h2 := by simpa using hff 2 f2 rfl
  obtain ⟨o3, k3⟩ := hone_of hone 3 f3 rfl
  have h3 := by simpa using hff 3 f3 rfl
  obtain ⟨o4, k4⟩ := hone_of hone 4 f4 rfl
  have h4 := by simpa using hff 4 f4 rfl
  obtain ⟨o5, k5⟩ := hone_of hone 5 f5 rfl
  have h5 := by simpa using hff 5 f5 rfl
  obtain ⟨o6, k6⟩ := hone_of hone 6 f6 rfl
  have h6 := by simpa using hff 6 f6 rfl
  simp only [Prod.mk.injEq] at hx
  exact ⟨c0, c1, c2, c3, c4, c5, c6, y0, y1, y2, y3, y4, y5, y6, n, rfl, by simpa using hx.1, by simpa using hx.2, by simpa [Value.cells, o0, k0] using h0, by simpa [Value.cells, o1, k1] using h1, by simpa [Value.cells, o2, k2] using h2, by simpa [Value.cells, o3, k3] using h3, by simpa [Value.cells, o4, k4] using h4, by simpa [Value.cells, o5, k5] using h5, by simpa [Value.cells, o6, k6] using h6⟩

theorem infs_open {s t u : TypeId} {f0 f1 f2 f3 f4 f5 : Field} {fuel : Nat} {v : Value} {x : DataW H × List MemPlace} (hsl : P.underlying s = some (.slice t)) (hs : P.underlying t = some (.struct #[f0, f1, f2, f3, f4, f5]))
    (hone : oneCellFields P #[f0, f1, f2, f3, f4, f5] = true) (hC : P.cellsOf t = 6)
    (hi : P.underlying f0.type = some (.int .i64) ∧ P.underlying f1.type = some (.int .i64) ∧ P.underlying f2.type = some (.int .i64) ∧ P.underlying f3.type = some (.int .i64) ∧ P.underlying f4.type = some (.int .i64))
    (h5 : P.underlying f5.type = some (.slice u)) (hu : P.underlying u = some (.int .i64)) (hcu : P.cellsOf u = 1)
    (h : DataW.trod enc P w base (fun _ => true) held fuel s [v] = some x) : ∃ xs : List nf.V, nf.Infs w w.heap.size v xs ∧ xs.length ≤ 9223372036854775807 ∧ ∀ j, j < xs.length → (xs.getD j nf.iz).ps.length ≤ 9223372036854775807 := by
  rcases open_slice hsl h with ⟨hcs, _⟩ | ⟨a, len, cap, m, n, D, Pl, hcs, hb, hl, hm, hmm, _, hr⟩
  · simp only [List.cons.injEq, and_true] at hcs
    subst hcs
    exact ⟨[], .inl ⟨rfl, _, _, rfl⟩, by simp, fun j hj => by simp at hj⟩
  · simp only [List.cons.injEq, and_true] at hcs
    subst hcs
    simp only [if_true] at hmm
    subst hmm
    unfold maxLen at hm
    have hy : ∀ i, ∃ y : nf.V × Value, i < m → w.cells? base (a.add (i * P.cellsOf t)) (P.cellsOf t) = some [.int .i64 y.1.a0, .int .i64 y.1.a1, .int .i64 y.1.a2, .int .i64 y.1.a3, .int .i64 y.1.a4, y.2] ∧ l5.IntsIn w y.2 y.1.ps := by
      intro i
      by_cases him : i < m
      · obtain ⟨cs', h1, h2⟩ := hr i him
        obtain ⟨y0, y1, y2, y3, y4, y5, n', hx, hl', g0, g1, g2, g3, g4, g5⟩ := sa.trod_struct6 hs h2
        rw [hC] at hl'
        obtain ⟨c0, c1, c2, c3, c4, c5, rfl⟩ : ∃ c0 c1 c2 c3 c4 c5, cs' = [c0, c1, c2, c3, c4, c5] := by
          match cs', hl' with
          | [c0, c1, c2, c3, c4, c5], _ => exact ⟨c0, c1, c2, c3, c4, c5, rfl⟩
        obtain ⟨i0, i1, i2, i3, i4⟩ := hi
        obtain ⟨o0, k0⟩ := hone_of hone 0 f0 rfl
        simp [o0, k0] at g0
        obtain ⟨o1, k1⟩ := hone_of hone 1 f1 rfl
        simp [o1, k1] at g1
        obtain ⟨o2, k2⟩ := hone_of hone 2 f2 rfl
        simp [o2, k2] at g2
        obtain ⟨o3, k3⟩ := hone_of hone 3 f3 rfl
        simp [o3, k3] at g3
        obtain ⟨o4, k4⟩ := hone_of hone 4 f4 rfl
        simp [o4, k4] at g4
        obtain ⟨o5, k5⟩ := hone_of hone 5 f5 rfl
        simp [o5, k5] at g5
        obtain ⟨z0, e0, _, _⟩ := DataW.trod_int i0 g0
        obtain ⟨z1, e1, _, _⟩ := DataW.trod_int i1 g1
        obtain ⟨z2, e2, _, _⟩ := DataW.trod_int i2 g2
        obtain ⟨z3, e3, _, _⟩ := DataW.trod_int i3 g3
        obtain ⟨z4, e4, _, _⟩ := DataW.trod_int i4 g4
        simp at e0 e1 e2 e3 e4
        subst e0 e1 e2 e3 e4
        obtain ⟨ps, hps⟩ := l5.ints_open h5 hu hcu g5
        exact ⟨(⟨z0, z1, z2, z3, z4, ps⟩, c5), fun _ => ⟨h1, hps⟩⟩
      · exact ⟨(nf.iz, .slice none 0 0), fun h => absurd h him⟩
    obtain ⟨Y, hY⟩ := Classical.axiomOfChoice hy
    have hlen : ((List.range len).map fun i => (Y i).1).length = len := by simp
    have hat : ∀ j, j < len → ((List.range len).map fun i => (Y i).1).getD j nf.iz = (Y j).1 := fun j hj => by simp [List.getD, hj]
    refine ⟨(List.range len).map fun i => (Y i).1, ?_, by rw [hlen]; omega, fun j hj => by rw [hlen] at hj; rw [hat j hj]; exact (hY j (by omega)).2.len⟩
    by_cases h0 : len = 0
    · subst h0; exact .inl ⟨rfl, _, _, rfl⟩
    · obtain ⟨b, off, spot⟩ := a
      have hall : ∀ j, j < len → ∀ i u, [Value.int .i64 (Y j).1.a0, .int .i64 (Y j).1.a1, .int .i64 (Y j).1.a2, .int .i64 (Y j).1.a3, .int .i64 (Y j).1.a4, (Y j).2][i]? = some u → w.cell? ((Addr.mk b off spot).add (j * 6 + i)) = some u := by
        intro j hj i u hu
        have h1 := (hY j (by omega)).1
        rw [hC] at h1
        have hi8 : i < 6 := by
          have := (List.getElem?_eq_some_iff.1 hu).1
          simpa using this
        have h2 := (World.cells?_some h1)
        have h3 := h2.2.2 i hi8
        rw [hu] at h3
        rw [← Addr.add_add]; exact h3
      have hspot : spot = none := by
        have := World.cell?_spot (hall 0 (by omega) 0 _ rfl)
        simpa [Addr.add] using this
      subst hspot
      refine .inr ⟨by rw [hlen]; omega, b, off, m, fun i => (Y i).2, by rw [hlen], ?_, fun j hj => ?_⟩
      · have := World.block_lt_of_cell? w _ (hall 0 (by omega) 0 _ rfl)
        simpa [Addr.add] using this
      · rw [hlen] at hj
        rw [hat j hj]
        have hlt := World.block_lt_of_cell? w _ (hall j hj 0 _ rfl)
        have hc := hall j hj
        simp only [Addr.add_lit, ← Nat.add_assoc] at hc
        exact ⟨⟨by rw [Addr.add_lit] at hlt; exact hlt, hc 0 _ rfl, hc 1 _ rfl, hc 2 _ rfl, hc 3 _ rfl, hc 4 _ rfl, hc 5 _ rfl⟩, (hY j (by omega)).2.rd⟩
end
end Go.Proofs.Ytlhpipcmebmpdab.mc
