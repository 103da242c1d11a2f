/-
  SameMachine of the model.
-/
import Derived.Test.YtlbhpndkmgchcaaSmi
namespace Go.Proofs.Ytlbhpndkmgchcaa.mc
open Go.RowKit Go.Sort Go.Proofs.Ytlbhpndkmgchcaa.sl Go.Proofs.Ytlbhpndkmgchcaa.br Go.Proofs.Ytlbhpndkmgchcaa.ss
set_option linter.unusedVariables false
set_option linter.unusedSimpArgs false

set_option maxHeartbeats 800000 in
theorem l07SameQ (a b : List (List Int)) (v u : Value) (B C : Nat) (w : World) (ha : ss.Rows w B v a) (hb : ss.Rows w C u b) (hn : a.length ≤ 1099511627776) (hm : b.length ≤ 1099511627776) (sa : Short a 1099511627776) (sb : Short b 1099511627776) :
    Calls Try.prog 107 #[v, u] w fun e w' => e = .returned (.bool (sameR a b)) ∧ ∃ q, w' = w.drewN q := by
  by_cases hl : a.length = b.length
  · rcases ha with ⟨rfl, ao, cap, rfl⟩ | ⟨hp, g, off, cap, V, rfl, hb', hc⟩
    · rcases hb with ⟨rfl, ao', cap', rfl⟩ | ⟨hp', _⟩
      · go_enter Try.func107, Try.ntmps107
        go_wp2
        refine wp_loop_rounds 1 ?_
        rw [rounds_succ]
        go_wp2
        go_ret
        exact ⟨rfl, 0, rfl⟩
      · simp at hl; omega
    · rcases hb with ⟨rfl, ao', cap', rfl⟩ | ⟨hp', g', off', cap', U, rfl, hb'', hc'⟩
      · simp at hl; subst hl; simp at hp
      · have HS' := hid sb
        rw [← hl] at hc' ⊢
        obtain ⟨n, hnn⟩ : ∃ n, n = a.length := ⟨_, rfl⟩
        rw [← hnn] at hp hc hc' hn ⊢
        have HN := hid hnn
        have HL := hid hl
        have HC := hid hc
        have HC' := hid hc'
        have HS := hid sa
        clear hnn hl hp' hm hc hc' sa sb
        go_enter Try.func107, Try.ntmps107
        go_wp2
        go_loopw [5] (fun i wr => ∃ k : Nat, k ≤ n ∧ i = .int .i64 k ∧ (∀ j, j < k → a.getD j [] = b.getD j []) ∧ ∃ q, wr = w.drewN q)
          (fun i _ => n - (intOf i).toNat)
        case atStart => exact ⟨0, Nat.zero_le _, rfl, fun j hj => by omega, 0, rfl⟩
        case round =>
          obtain ⟨k, hk, rfl, heq, q, hwr⟩ := hrel
          have HE := hid heq
          have HW := hid hwr
          clear heq hwr
          by_cases hlt : k < n
          · have h1 : wr.cell? ⟨g, off + k, none⟩ = some (V k) := by rw [HW.out]; exact (HC.out k hlt).1
            have h2 : wr.cell? ⟨g', off' + k, none⟩ = some (U k) := by rw [HW.out]; exact (HC'.out k hlt).1
            have HI1 : Hid (Ints wr B (V k) (a.getD k [])) := hid (by rw [HW.out]; exact (HC.out k hlt).2)
            have HI2 : Hid (Ints wr C (U k) (b.getD k [])) := hid (by rw [HW.out]; exact (HC'.out k hlt).2)
            have HQ := hid (fun r hr q => nb.sameQ' (a.getD k []) (b.getD k []) r hr (V k) (U k) B C wr HI1.out HI2.out (HS.out k (by rw [← HN.out]; exact hlt)) (HS'.out k (by rw [← HL.out, ← HN.out]; exact hlt)) q)
            clear HI1 HI2
            generalize V k = x at *
            generalize U k = y at *
            by_cases he : a.getD k [] = b.getD k []
            · have HQ1 := hid (HQ.out true (by rw [he]; exact sameB_self _))
              have HX := hid he
              clear he HQ
              go_wp2
              go_quiet ((go_at_call 108; exact HQ1.out _))
              go_wp2
              go_roundw
              case rel => exact ⟨k + 1, by omega, by go_num, fun j hj => by
                rcases Nat.lt_or_ge j k with h | h
                · exact HE.out j h
                · obtain rfl : j = k := by omega
                  exact HX.out, _, by rw [HW.out]; exact drewN_add _ _ _⟩
              case measure => simp [intOf]; omega
            · have HQ1 := hid (HQ.out false (by unfold sameB; exact decide_eq_false he))
              have HF : Hid (sameR a b = false) := by
                refine hid ?_
                simp only [sameR, decide_eq_false_iff_not]
                rintro rfl
                exact he rfl
              clear he HQ
              go_wp2
              go_quiet ((go_at_call 108; exact HQ1.out _))
              go_wp2
              go_ret
              exact ⟨by rw [HF.out]; rfl, _, by rw [HW.out]; exact drewN_add _ _ _⟩
          · obtain rfl : k = n := by omega
            go_wp2
            go_ret
            have : a = b := rows_eq_of HL.out (fun j hj => HE.out j (by rw [HN.out]; exact hj))
            exact ⟨by rw [this, sameR_self]; rfl, q, HW.out⟩
  · have hd : (((a.length : Nat) : Int) == ((b.length : Nat) : Int)) = false := by simp; omega
    have hd' : (((a.length : Nat) : Int) != ((b.length : Nat) : Int)) = true := by simp; omega
    have HF : Hid (sameR a b = false) := by
      refine hid ?_
      simp only [sameR, decide_eq_false_iff_not]
      rintro rfl
      exact hl rfl
    obtain ⟨ao, cap, rfl⟩ := rows_val ha
    obtain ⟨ao', cap', rfl⟩ := rows_val hb
    clear ha hb hl sa sb
    generalize a.length = n at *
    generalize b.length = m at *
    go_enter Try.func107, Try.ntmps107
    go_wp2
    go_ret
    exact ⟨by rw [HF.out]; rfl, 0, rfl⟩

theorem getD_small {xs : List nf.V} (h : nf.Small xs) : ∀ j, j < xs.length → (xs.getD j nf.iz).ps.length ≤ 1048576 := h.short

set_option maxRecDepth 100000 in
set_option maxHeartbeats 8000000 in
theorem specSM (a p : Int) (m : Mch) (c d : Int) (n : Mch) (f0 f1 f2 f3 f4 g0 g1 g2 g3 g4 : Value) (B C : Nat) (w : World) (ha : MIn w B f0 f1 f2 f3 f4 m) (hB : B ≤ w.heap.size) (hb : MIn w C g0 g1 g2 g3 g4 n) (hC : C ≤ w.heap.size) (hq : Small m) (hr : Small n) :
    Calls Try.prog 57 #[.agg #[.int .i64 a, .int .i64 p, f0, f1, f2, f3, f4], .agg #[.int .i64 c, .int .i64 d, g0, g1, g2, g3, g4]] w fun e w' => e = .returned (.bool (sameM a p m c d n)) ∧ Below w.heap.size w w' := by
  obtain ⟨a0, n0, k0, rfl⟩ : ∃ a n k, f0 = .slice a n k := by obtain ⟨a, k, h⟩ := ss.rows_val ha.h0; exact ⟨a, _, k, h⟩
  obtain ⟨b0, i0, j0, rfl⟩ : ∃ a n k, g0 = .slice a n k := by obtain ⟨a, k, h⟩ := ss.rows_val hb.h0; exact ⟨a, _, k, h⟩
  obtain ⟨a1, n1, k1, rfl⟩ : ∃ a n k, f1 = .slice a n k := by obtain ⟨a, k, h⟩ := ss.rows_val ha.h1; exact ⟨a, _, k, h⟩
  obtain ⟨b1, i1, j1, rfl⟩ : ∃ a n k, g1 = .slice a n k := by obtain ⟨a, k, h⟩ := ss.rows_val hb.h1; exact ⟨a, _, k, h⟩
  obtain ⟨a2, n2, k2, rfl, hn2⟩ : ∃ a n' k, f2 = .slice a n' k ∧ n' = m.cs.length := by obtain ⟨a, k, h⟩ := ca.ops_val ha.h2; exact ⟨a, _, k, h, rfl⟩
  obtain ⟨b2, i2, j2, rfl, hi2⟩ : ∃ a n' k, g2 = .slice a n' k ∧ n' = n.cs.length := by obtain ⟨a, k, h⟩ := ca.ops_val hb.h2; exact ⟨a, _, k, h, rfl⟩
  obtain ⟨a3, n3, k3, rfl, hn3⟩ : ∃ a n' k, f3 = .slice a n' k ∧ n' = m.ls.length := by obtain ⟨a, k, h⟩ := nf.infs_val ha.h3; exact ⟨a, _, k, h, rfl⟩
  obtain ⟨b3, i3, j3, rfl, hi3⟩ : ∃ a n' k, g3 = .slice a n' k ∧ n' = n.ls.length := by obtain ⟨a, k, h⟩ := nf.infs_val hb.h3; exact ⟨a, _, k, h, rfl⟩
  obtain ⟨a4, n4, k4, rfl⟩ : ∃ a n k, f4 = .slice a n k := by obtain ⟨a, k, h⟩ := ints_val ha.h4; exact ⟨a, _, k, h⟩
  obtain ⟨b4, i4, j4, rfl⟩ : ∃ a n k, g4 = .slice a n k := by obtain ⟨a, k, h⟩ := ints_val hb.h4; exact ⟨a, _, k, h⟩
  replace hn2 := hid hn2
  replace hi2 := hid hi2
  replace hn3 := hid hn3
  replace hi3 := hid hi3
  have HM := hid (fun W (b : Below w.heap.size w W) => ha.below b)
  have HN := hid (fun W (b : Below w.heap.size w W) => hb.below b)
  have HX := hid ((bx_new w 69 a p (.slice a0 n0 k0) (.slice a1 n1 k1) (.slice a2 n2 k2) (.slice a3 n3 k3) (.slice a4 n4 k4)).below ((Below.refl _ _).alloc (Nat.le_refl _) (.cells #[.int .i64 c, .int .i64 d, .slice b0 i0 j0, .slice b1 i1 j1, .slice b2 i2 j2, .slice b3 i3 j3, .slice b4 i4 j4] 69)))
  have HY0 := bx_new (w.alloc (.cells #[.int .i64 a, .int .i64 p, .slice a0 n0 k0, .slice a1 n1 k1, .slice a2 n2 k2, .slice a3 n3 k3, .slice a4 n4 k4] 69)) 69 c d (.slice b0 i0 j0) (.slice b1 i1 j1) (.slice b2 i2 j2) (.slice b3 i3 j3) (.slice b4 i4 j4)
  simp only [show (w.alloc (.cells #[.int .i64 a, .int .i64 p, .slice a0 n0 k0, .slice a1 n1 k1, .slice a2 n2 k2, .slice a3 n3 k3, .slice a4 n4 k4] 69)).heap.size = w.heap.size + 1 from by simp] at HY0
  have HY := hid (HY0.base ((Below.refl w.heap.size w).alloc (Nat.le_refl _) (.cells #[.int .i64 a, .int .i64 p, .slice a0 n0 k0, .slice a1 n1 k1, .slice a2 n2 k2, .slice a3 n3 k3, .slice a4 n4 k4] 69)))
  clear HY0 ha hb
  have HE0 := hid (fun W (h : ss.Rows W B (.slice a0 n0 k0) m.fr) (k : ss.Rows W C (.slice b0 i0 j0) n.fr) => l07SameQ m.fr n.fr (.slice a0 n0 k0) (.slice b0 i0 j0) B C W h k (by have := hq.s0.1; omega) (by have := hr.s0.1; omega) (short_mono hq.s0.2 (by omega)) (short_mono hr.s0.2 (by omega)))
  have HE1 := hid (fun W (h : ss.Rows W B (.slice a1 n1 k1) m.bk) (k : ss.Rows W C (.slice b1 i1 j1) n.bk) => l07SameQ m.bk n.bk (.slice a1 n1 k1) (.slice b1 i1 j1) B C W h k (by have := hq.s1.1; omega) (by have := hr.s1.1; omega) (short_mono hq.s1.2 (by omega)) (short_mono hr.s1.2 (by omega)))
  have HE4 := hid (fun W (h : Ints W B (.slice a4 n4 k4) m.dr) (k : Ints W C (.slice b4 i4 j4) n.dr) => nb.sameQ m.dr n.dr (.slice a4 n4 k4) (.slice b4 i4 j4) B C W h k (by have := hq.s4; omega) (by have := hr.s4; omega))
  have HSx := hid hq.s3.short
  have HSy := hid hr.s3.short
  have hls := hq.s2.len
  have hls2 := hq.s3.len
  clear hq hr
  obtain ⟨q, hqq⟩ : ∃ q, q = sameM a p m c d n := ⟨_, rfl⟩
  rw [← hqq]
  simp only [sameM] at hqq
  generalize sameR m.fr n.fr = r0 at *
  generalize sameR m.bk n.bk = r1 at *
  generalize sameB m.dr n.dr = r4 at *
  obtain ⟨t0, ht0⟩ : ∃ b, (a == c) = b := ⟨_, rfl⟩
  have hu0 : (a != c) = !t0 := by rw [← ht0]; rfl
  rw [ht0] at hqq
  cases t0 with
  | false =>
    simp only [Bool.not_false] at hu0
    have HQ : Hid (q = false) := hid (by rw [hqq]; simp)
    clear hqq
    go_enter Try.func57, Try.ntmps57
    have HB := HX.out.b0
    go_wp2
    go_ret
    exact ⟨by rw [HQ.out]; first | done | rfl, HB⟩
  | true =>
    simp only [Bool.not_true] at hu0
    obtain ⟨t1, ht1⟩ : ∃ b, (p == d) = b := ⟨_, rfl⟩
    have hu1 : (p != d) = !t1 := by rw [← ht1]; rfl
    rw [ht1] at hqq
    cases t1 with
    | false =>
      simp only [Bool.not_false] at hu1
      have HQ : Hid (q = false) := hid (by rw [hqq]; simp)
      clear hqq
      go_enter Try.func57, Try.ntmps57
      have HB := HX.out.b0
      go_wp2
      go_ret
      exact ⟨by rw [HQ.out]; first | done | rfl, HB⟩
    | true =>
      simp only [Bool.not_true] at hu1
      cases r0 with
      | false =>
        have HQ : Hid (q = false) := hid (by rw [hqq]; simp)
        clear hqq
        go_enter Try.func57, Try.ntmps57
        go_wp2_with fail
        generalize ((w.alloc (.cells #[.int .i64 a, .int .i64 p, .slice a0 n0 k0, .slice a1 n1 k1, .slice a2 n2 k2, .slice a3 n3 k3, .slice a4 n4 k4] 69)).alloc (.cells #[.int .i64 c, .int .i64 d, .slice b0 i0 j0, .slice b1 i1 j1, .slice b2 i2 j2, .slice b3 i3 j3, .slice b4 i4 j4] 69)) = W0 at *
        refine (HE0.out W0 ((HM.out W0 HX.out.b0).h0) ((HN.out W0 HX.out.b0).h0)).mono ?_
        rintro e W1 ⟨rfl, y0, hy0⟩
        have be0 : Below W0.heap.size W0 W1 := by rw [hy0]; exact bdrewN (Below.refl _ _) _
        clear hy0
        replace HX := hid (HX.out.below be0)
        replace HY := hid (HY.out.below be0)
        clear be0
        go_wp2
        go_ret
        exact ⟨by rw [HQ.out]; first | done | rfl, HX.out.b0⟩
      | true =>
        cases r1 with
        | false =>
          have HQ : Hid (q = false) := hid (by rw [hqq]; simp)
          clear hqq
          go_enter Try.func57, Try.ntmps57
          go_wp2_with fail
          generalize ((w.alloc (.cells #[.int .i64 a, .int .i64 p, .slice a0 n0 k0, .slice a1 n1 k1, .slice a2 n2 k2, .slice a3 n3 k3, .slice a4 n4 k4] 69)).alloc (.cells #[.int .i64 c, .int .i64 d, .slice b0 i0 j0, .slice b1 i1 j1, .slice b2 i2 j2, .slice b3 i3 j3, .slice b4 i4 j4] 69)) = W0 at *
          refine (HE0.out W0 ((HM.out W0 HX.out.b0).h0) ((HN.out W0 HX.out.b0).h0)).mono ?_
          rintro e W1 ⟨rfl, y0, hy0⟩
          have be0 : Below W0.heap.size W0 W1 := by rw [hy0]; exact bdrewN (Below.refl _ _) _
          clear hy0
          replace HX := hid (HX.out.below be0)
          replace HY := hid (HY.out.below be0)
          clear be0
          have y := HX.out.c3
          have z := HY.out.c3
          go_wp2_with fail
          clear y z
          refine (HE1.out W1 ((HM.out W1 HX.out.b0).h1) ((HN.out W1 HX.out.b0).h1)).mono ?_
          rintro e W2 ⟨rfl, y1, hy1⟩
          have be1 : Below W1.heap.size W1 W2 := by rw [hy1]; exact bdrewN (Below.refl _ _) _
          clear hy1
          replace HX := hid (HX.out.below be1)
          replace HY := hid (HY.out.below be1)
          clear be1
          go_wp2
          go_ret
          exact ⟨by rw [HQ.out]; first | done | rfl, HX.out.b0⟩
        | true =>
          by_cases hl4 : ¬ n2 = i2
          · have hsame : ca.sameE m.cs n.cs = false := ca.sameE_len (by rw [← hn2.out, ← hi2.out]; exact hl4)
            have hd1 : ((n2 : Int) == (i2 : Int)) = false := by simp; omega
            have hd2 : ((n2 : Int) != (i2 : Int)) = true := by simp; omega
            clear hl4 hn2 hi2 hn3 hi3
            have HQ : Hid (q = false) := hid (by rw [hqq]; simp [hsame])
            clear hqq
            clear hsame
            go_enter Try.func57, Try.ntmps57
            go_wp2_with fail
            generalize ((w.alloc (.cells #[.int .i64 a, .int .i64 p, .slice a0 n0 k0, .slice a1 n1 k1, .slice a2 n2 k2, .slice a3 n3 k3, .slice a4 n4 k4] 69)).alloc (.cells #[.int .i64 c, .int .i64 d, .slice b0 i0 j0, .slice b1 i1 j1, .slice b2 i2 j2, .slice b3 i3 j3, .slice b4 i4 j4] 69)) = W0 at *
            refine (HE0.out W0 ((HM.out W0 HX.out.b0).h0) ((HN.out W0 HX.out.b0).h0)).mono ?_
            rintro e W1 ⟨rfl, y0, hy0⟩
            have be0 : Below W0.heap.size W0 W1 := by rw [hy0]; exact bdrewN (Below.refl _ _) _
            clear hy0
            replace HX := hid (HX.out.below be0)
            replace HY := hid (HY.out.below be0)
            clear be0
            have y := HX.out.c3
            have z := HY.out.c3
            go_wp2_with fail
            clear y z
            refine (HE1.out W1 ((HM.out W1 HX.out.b0).h1) ((HN.out W1 HX.out.b0).h1)).mono ?_
            rintro e W2 ⟨rfl, y1, hy1⟩
            have be1 : Below W1.heap.size W1 W2 := by rw [hy1]; exact bdrewN (Below.refl _ _) _
            clear hy1
            replace HX := hid (HX.out.below be1)
            replace HY := hid (HY.out.below be1)
            clear be1
            have y4 := HX.out.c4
            have z4 := HY.out.c4
            have y5 := HX.out.c5
            have z5 := HY.out.c5
            go_wp2
            go_ret
            exact ⟨by rw [HQ.out]; first | done | rfl, HX.out.b0⟩
          obtain rfl : n2 = i2 := Decidable.not_not.1 hl4
          clear hl4
          by_cases hl5 : ¬ n3 = i3
          · have hsame : nf.sameI m.ls n.ls = false := nf.sameI_len (by rw [← hn3.out, ← hi3.out]; exact hl5)
            have hd1 : ((n3 : Int) == (i3 : Int)) = false := by simp; omega
            have hd2 : ((n3 : Int) != (i3 : Int)) = true := by simp; omega
            clear hl5 hn2 hi2 hn3 hi3
            have HQ : Hid (q = false) := hid (by rw [hqq]; simp [hsame])
            clear hqq
            clear hsame
            go_enter Try.func57, Try.ntmps57
            go_wp2_with fail
            generalize ((w.alloc (.cells #[.int .i64 a, .int .i64 p, .slice a0 n0 k0, .slice a1 n1 k1, .slice a2 n2 k2, .slice a3 n3 k3, .slice a4 n4 k4] 69)).alloc (.cells #[.int .i64 c, .int .i64 d, .slice b0 i0 j0, .slice b1 i1 j1, .slice b2 n2 j2, .slice b3 i3 j3, .slice b4 i4 j4] 69)) = W0 at *
            refine (HE0.out W0 ((HM.out W0 HX.out.b0).h0) ((HN.out W0 HX.out.b0).h0)).mono ?_
            rintro e W1 ⟨rfl, y0, hy0⟩
            have be0 : Below W0.heap.size W0 W1 := by rw [hy0]; exact bdrewN (Below.refl _ _) _
            clear hy0
            replace HX := hid (HX.out.below be0)
            replace HY := hid (HY.out.below be0)
            clear be0
            have y := HX.out.c3
            have z := HY.out.c3
            go_wp2_with fail
            clear y z
            refine (HE1.out W1 ((HM.out W1 HX.out.b0).h1) ((HN.out W1 HX.out.b0).h1)).mono ?_
            rintro e W2 ⟨rfl, y1, hy1⟩
            have be1 : Below W1.heap.size W1 W2 := by rw [hy1]; exact bdrewN (Below.refl _ _) _
            clear hy1
            replace HX := hid (HX.out.below be1)
            replace HY := hid (HY.out.below be1)
            clear be1
            have y4 := HX.out.c4
            have z4 := HY.out.c4
            have y5 := HX.out.c5
            have z5 := HY.out.c5
            go_wp2
            go_ret
            exact ⟨by rw [HQ.out]; first | done | rfl, HX.out.b0⟩
          obtain rfl : n3 = i3 := Decidable.not_not.1 hl5
          clear hl5
          cases r4 with
          | false =>
            clear hn2 hi2 hn3 hi3
            have HQ : Hid (q = false) := hid (by rw [hqq]; simp)
            clear hqq
            go_enter Try.func57, Try.ntmps57
            go_wp2_with fail
            generalize ((w.alloc (.cells #[.int .i64 a, .int .i64 p, .slice a0 n0 k0, .slice a1 n1 k1, .slice a2 n2 k2, .slice a3 n3 k3, .slice a4 n4 k4] 69)).alloc (.cells #[.int .i64 c, .int .i64 d, .slice b0 i0 j0, .slice b1 i1 j1, .slice b2 n2 j2, .slice b3 n3 j3, .slice b4 i4 j4] 69)) = W0 at *
            refine (HE0.out W0 ((HM.out W0 HX.out.b0).h0) ((HN.out W0 HX.out.b0).h0)).mono ?_
            rintro e W1 ⟨rfl, y0, hy0⟩
            have be0 : Below W0.heap.size W0 W1 := by rw [hy0]; exact bdrewN (Below.refl _ _) _
            clear hy0
            replace HX := hid (HX.out.below be0)
            replace HY := hid (HY.out.below be0)
            clear be0
            have y := HX.out.c3
            have z := HY.out.c3
            go_wp2_with fail
            clear y z
            refine (HE1.out W1 ((HM.out W1 HX.out.b0).h1) ((HN.out W1 HX.out.b0).h1)).mono ?_
            rintro e W2 ⟨rfl, y1, hy1⟩
            have be1 : Below W1.heap.size W1 W2 := by rw [hy1]; exact bdrewN (Below.refl _ _) _
            clear hy1
            replace HX := hid (HX.out.below be1)
            replace HY := hid (HY.out.below be1)
            clear be1
            have y := HX.out.c6
            have z := HY.out.c6
            have y4 := HX.out.c4
            have z4 := HY.out.c4
            have y5 := HX.out.c5
            have z5 := HY.out.c5
            go_wp2_with fail
            clear y z y4 z4 y5 z5
            refine (HE4.out W2 ((HM.out W2 HX.out.b0).h4) ((HN.out W2 HX.out.b0).h4)).mono ?_
            rintro e W3 ⟨rfl, y4, hy4⟩
            have be4 : Below W2.heap.size W2 W3 := by rw [hy4]; exact bdrewN (Below.refl _ _) _
            clear hy4
            replace HX := hid (HX.out.below be4)
            replace HY := hid (HY.out.below be4)
            clear be4
            go_wp2
            go_ret
            exact ⟨by rw [HQ.out]; first | done | rfl, HX.out.b0⟩
          | true =>
            have HQ0 : Hid (q = (ca.sameE m.cs n.cs && nf.sameI m.ls n.ls)) := hid (by rw [hqq]; simp)
            clear hqq
            have HAc := (HM.out w (Below.refl _ _)).h2
            have HBc := (HN.out w (Below.refl _ _)).h2
            have HAi := (HM.out w (Below.refl _ _)).h3
            have HBi := (HN.out w (Below.refl _ _)).h3
            have HBadC := hid (fun k h1 h2 => ca.sameE_bad (xs := m.cs) (ys := n.cs) k h1 h2)
            have HGoodC := hid (ca.sameE_good (xs := m.cs) (ys := n.cs) (by rw [← hn2.out, ← hi2.out]))
            have HBadI := hid (fun k h1 h2 => nf.sameI_bad (xs := m.ls) (ys := n.ls) k h1 h2)
            have HGoodI := hid (nf.sameI_good (xs := m.ls) (ys := n.ls) (by rw [← hn3.out, ← hi3.out]))
            rw [← hn2.out] at HBadC HGoodC hls
            rw [← hn3.out] at HBadI HGoodI HSx hls2
            rw [← hi3.out] at HSy
            generalize ca.sameE m.cs n.cs = sc at *
            generalize nf.sameI m.ls n.ls = si at *
            rcases HAc with ⟨hcn, ac, cc, hcv, _⟩ | ⟨hcp, bx, ox, cc, hcv, hcb, hcc⟩
            · have hn0 : n2 = 0 := by rw [hn2.out, hcn]; rfl
              subst hn0
              clear hcv hcn HBc
              rcases HAi with ⟨hen, ae, ce, hev⟩ | ⟨hep, bi, oi, ce, F, hev, heb, hec⟩
              · have hn0 : n3 = 0 := by rw [hn3.out, hen]; rfl
                subst hn0
                clear hev hen HBi hn2 hi2 hn3 hi3
                go_enter Try.func57, Try.ntmps57
                go_wp2_with fail
                generalize ((w.alloc (.cells #[.int .i64 a, .int .i64 p, .slice a0 n0 k0, .slice a1 n1 k1, .slice a2 0 k2, .slice a3 0 k3, .slice a4 n4 k4] 69)).alloc (.cells #[.int .i64 c, .int .i64 d, .slice b0 i0 j0, .slice b1 i1 j1, .slice b2 0 j2, .slice b3 0 j3, .slice b4 i4 j4] 69)) = W0 at *
                refine (HE0.out W0 ((HM.out W0 HX.out.b0).h0) ((HN.out W0 HX.out.b0).h0)).mono ?_
                rintro e W1 ⟨rfl, y0, hy0⟩
                have be0 : Below W0.heap.size W0 W1 := by rw [hy0]; exact bdrewN (Below.refl _ _) _
                clear hy0
                replace HX := hid (HX.out.below be0)
                replace HY := hid (HY.out.below be0)
                clear be0
                have y := HX.out.c3
                have z := HY.out.c3
                go_wp2_with fail
                clear y z
                refine (HE1.out W1 ((HM.out W1 HX.out.b0).h1) ((HN.out W1 HX.out.b0).h1)).mono ?_
                rintro e W2 ⟨rfl, y1, hy1⟩
                have be1 : Below W1.heap.size W1 W2 := by rw [hy1]; exact bdrewN (Below.refl _ _) _
                clear hy1
                replace HX := hid (HX.out.below be1)
                replace HY := hid (HY.out.below be1)
                clear be1
                have y := HX.out.c6
                have z := HY.out.c6
                have y4 := HX.out.c4
                have z4 := HY.out.c4
                have y5 := HX.out.c5
                have z5 := HY.out.c5
                go_wp2_with fail
                clear y z y4 z4 y5 z5
                refine (HE4.out W2 ((HM.out W2 HX.out.b0).h4) ((HN.out W2 HX.out.b0).h4)).mono ?_
                rintro e W3 ⟨rfl, y4, hy4⟩
                have be4 : Below W2.heap.size W2 W3 := by rw [hy4]; exact bdrewN (Below.refl _ _) _
                clear hy4
                replace HX := hid (HX.out.below be4)
                replace HY := hid (HY.out.below be4)
                clear be4
                clear HE0 HE1 HE4
                have yy := HX.out.c4
                go_wp2
                refine wp_loop_rounds 1 ?_
                rw [rounds_succ]
                have HQ1 : Hid (q = si) := hid (by rw [HQ0.out, HGoodC.out (fun j hj => by omega)]; rfl)
                go_wp2
                clear yy
                refine wp_loop_rounds 1 ?_
                rw [rounds_succ]
                have HQ : Hid (q = true) := hid (by rw [HQ1.out]; exact HGoodI.out (fun j hj => by omega))
                have yy := HX.out.c5
                go_wp2
                go_ret
                exact ⟨by rw [HQ.out]; first | done | rfl, HX.out.b0⟩
              · simp only [Value.slice.injEq] at hev
                obtain ⟨rfl, -, rfl⟩ := hev
                rw [← hn3.out] at hep hec
                rcases HBi with ⟨hgn, _⟩ | ⟨hgp, bj, oj, gc, G, hgv, hgb, hgc⟩
                · rw [hi3.out, hgn] at hep; simp at hep
                simp only [Value.slice.injEq] at hgv
                obtain ⟨rfl, -, rfl⟩ := hgv
                rw [← hi3.out] at hgp hgc
                have HIa := hid hec
                have HIb := hid hgc
                clear hec hgc hgp hn2 hi2 hn3 hi3
                go_enter Try.func57, Try.ntmps57
                go_wp2_with fail
                generalize ((w.alloc (.cells #[.int .i64 a, .int .i64 p, .slice a0 n0 k0, .slice a1 n1 k1, .slice a2 0 k2, .slice (some ⟨bi, oi, none⟩) n3 k3, .slice a4 n4 k4] 69)).alloc (.cells #[.int .i64 c, .int .i64 d, .slice b0 i0 j0, .slice b1 i1 j1, .slice b2 0 j2, .slice (some ⟨bj, oj, none⟩) n3 j3, .slice b4 i4 j4] 69)) = W0 at *
                refine (HE0.out W0 ((HM.out W0 HX.out.b0).h0) ((HN.out W0 HX.out.b0).h0)).mono ?_
                rintro e W1 ⟨rfl, y0, hy0⟩
                have be0 : Below W0.heap.size W0 W1 := by rw [hy0]; exact bdrewN (Below.refl _ _) _
                clear hy0
                replace HX := hid (HX.out.below be0)
                replace HY := hid (HY.out.below be0)
                clear be0
                have y := HX.out.c3
                have z := HY.out.c3
                go_wp2_with fail
                clear y z
                refine (HE1.out W1 ((HM.out W1 HX.out.b0).h1) ((HN.out W1 HX.out.b0).h1)).mono ?_
                rintro e W2 ⟨rfl, y1, hy1⟩
                have be1 : Below W1.heap.size W1 W2 := by rw [hy1]; exact bdrewN (Below.refl _ _) _
                clear hy1
                replace HX := hid (HX.out.below be1)
                replace HY := hid (HY.out.below be1)
                clear be1
                have y := HX.out.c6
                have z := HY.out.c6
                have y4 := HX.out.c4
                have z4 := HY.out.c4
                have y5 := HX.out.c5
                have z5 := HY.out.c5
                go_wp2_with fail
                clear y z y4 z4 y5 z5
                refine (HE4.out W2 ((HM.out W2 HX.out.b0).h4) ((HN.out W2 HX.out.b0).h4)).mono ?_
                rintro e W3 ⟨rfl, y4, hy4⟩
                have be4 : Below W2.heap.size W2 W3 := by rw [hy4]; exact bdrewN (Below.refl _ _) _
                clear hy4
                replace HX := hid (HX.out.below be4)
                replace HY := hid (HY.out.below be4)
                clear be4
                clear HE0 HE1 HE4
                have yy := HX.out.c4
                go_wp2
                refine wp_loop_rounds 1 ?_
                rw [rounds_succ]
                have HQ1 : Hid (q = si) := hid (by rw [HQ0.out, HGoodC.out (fun j hj => by omega)]; rfl)
                go_wp2
                clear yy
                go_loopw [6] (fun i wr => ∃ kx : Nat, kx ≤ n3 ∧ i = .int .i64 kx ∧ (∀ j, j < kx → nf.eqV (m.ls.getD j nf.iz) (n.ls.getD j nf.iz) = true) ∧ Bx w wr w.heap.size a p (.slice a0 n0 k0) (.slice a1 n1 k1) (.slice a2 0 k2) (.slice (some ⟨bi, oi, none⟩) n3 k3) (.slice a4 n4 k4) ∧ Bx w wr (w.heap.size + 1) c d (.slice b0 i0 j0) (.slice b1 i1 j1) (.slice b2 0 j2) (.slice (some ⟨bj, oj, none⟩) n3 j3) (.slice b4 i4 j4)) (fun i _ => n3 - (intOf i).toNat)
                case atStart => exact ⟨0, Nat.zero_le _, rfl, fun j hj => by omega, HX.out, HY.out⟩
                case round =>
                  obtain ⟨kx, hkx, rfl, hall, hbx, hby⟩ := hrel
                  clear HX HY
                  have HX := hid hbx
                  have HY := hid hby
                  have HAll := hid hall
                  clear hbx hby hall
                  by_cases hlt2 : kx < n3
                  · have HA := (HIa.out kx hlt2).1.below HX.out.b0
                    have HA' := (HIb.out kx hlt2).1.below HX.out.b0
                    have HI := hid (((HIa.out kx hlt2).2).chg (Chg.ofBelow (lo := 0) HX.out.b0) (.inr (Nat.zero_le _)))
                    have HI' := hid (((HIb.out kx hlt2).2).chg (Chg.ofBelow (lo := 0) HX.out.b0) (.inr (Nat.zero_le _)))
                    have hsx := HSx.out kx hlt2
                    have hsy := HSy.out kx hlt2
                    have HBd := hid (HBadI.out kx hlt2)
                    have HSt : Hid (nf.eqV (m.ls.getD kx nf.iz) (n.ls.getD kx nf.iz) = true → ∀ j, j < kx + 1 → nf.eqV (m.ls.getD j nf.iz) (n.ls.getD j nf.iz) = true) := hid (fun h j hj => by
                      rcases Nat.lt_or_ge j kx with h' | h'
                      · exact HAll.out j h'
                      · obtain rfl : j = kx := by omega
                        exact h)
                    generalize m.ls.getD kx nf.iz = x at HA HI HBd HSt hsx
                    generalize n.ls.getD kx nf.iz = y at HA' HI' HBd HSt hsy
                    generalize F kx = fk at *
                    generalize G kx = gk at *
                    obtain ⟨x0, x1, x2, x3, x4, ps⟩ := x
                    obtain ⟨y0, y1, y2, y3, y4, qs⟩ := y
                    simp only at HI HI' hsx hsy
                    have hE1 := (Below.refl wr.heap.size wr).alloc (Nat.le_refl _) (.cells #[.int .i64 x0, .int .i64 x1, .int .i64 x2, .int .i64 x3, .int .i64 x4, fk] 134)
                    have hE2 := hE1.alloc (by simp) (.cells #[.int .i64 y0, .int .i64 y1, .int .i64 y2, .int .i64 y3, .int .i64 y4, gk] 134)
                    have c0 := HA.c0
                    have c1 := HA.c1
                    have c2 := HA.c2
                    have c3 := HA.c3
                    have c4 := HA.c4
                    have c5 := HA.c5
                    have e0 := (HA'.below hE1).c0
                    have e1 := (HA'.below hE1).c1
                    have e2 := (HA'.below hE1).c2
                    have e3 := (HA'.below hE1).c3
                    have e4 := (HA'.below hE1).c4
                    have e5 := (HA'.below hE1).c5
                    have yy := HX.out.c5
                    have zz := (HY.out.below hE1).c5
                    simp only at c0 c1 c2 c3 c4 c5 e0 e1 e2 e3 e4 e5
                    obtain ⟨ao, cp, hv⟩ := ints_val HI.out
                    obtain ⟨ao', cp', hu⟩ := ints_val HI'.out
                    have HXE := hid (HX.out.below hE2)
                    have HYE := hid (HY.out.below hE2)
                    have HIx := hid (HI.out.chg (Chg.ofBelow (lo := 0) hE2) (.inr (Nat.zero_le _)))
                    have HIy := hid (HI'.out.chg (Chg.ofBelow (lo := 0) hE2) (.inr (Nat.zero_le _)))
                    have HF := hid (fun W i j => nb.sameQ ps qs fk gk B C W i j (by omega) (by omega))
                    have HEq : Hid (nf.eqV ⟨x0, x1, x2, x3, x4, ps⟩ ⟨y0, y1, y2, y3, y4, qs⟩ = (x0 == y0 && (x1 == y1 && (x2 == y2 && (x3 == y3 && (x4 == y4 && sameB ps qs)))))) := hid rfl
                    clear HA HA' hE1 hE2 HI HI' hsx hsy
                    generalize nf.eqV ⟨x0, x1, x2, x3, x4, ps⟩ ⟨y0, y1, y2, y3, y4, qs⟩ = v at *
                    generalize sameB ps qs = r at *
                    generalize ps.length = l1 at *
                    generalize qs.length = l2 at *
                    subst hv hu
                    obtain ⟨g0, hg0⟩ : ∃ b, (x0 == y0) = b := ⟨_, rfl⟩
                    have hh0 : (x0 != y0) = !g0 := by rw [← hg0]; rfl
                    cases g0 with
                    | false =>
                      simp only [Bool.not_false] at hh0
                      have HQ : Hid (q = false) := hid (by rw [HQ1.out]; exact HBd.out (by rw [HEq.out, hg0]; simp))
                      go_wp2
                      go_ret
                      exact ⟨by rw [HQ.out]; first | done | rfl, HXE.out.b0⟩
                    | true =>
                      simp only [Bool.not_true] at hh0
                      obtain ⟨g1, hg1⟩ : ∃ b, (x1 == y1) = b := ⟨_, rfl⟩
                      have hh1 : (x1 != y1) = !g1 := by rw [← hg1]; rfl
                      cases g1 with
                      | false =>
                        simp only [Bool.not_false] at hh1
                        have HQ : Hid (q = false) := hid (by rw [HQ1.out]; exact HBd.out (by rw [HEq.out, hg0, hg1]; simp))
                        go_wp2
                        go_ret
                        exact ⟨by rw [HQ.out]; first | done | rfl, HXE.out.b0⟩
                      | true =>
                        simp only [Bool.not_true] at hh1
                        obtain ⟨g2, hg2⟩ : ∃ b, (x2 == y2) = b := ⟨_, rfl⟩
                        have hh2 : (x2 != y2) = !g2 := by rw [← hg2]; rfl
                        cases g2 with
                        | false =>
                          simp only [Bool.not_false] at hh2
                          have HQ : Hid (q = false) := hid (by rw [HQ1.out]; exact HBd.out (by rw [HEq.out, hg0, hg1, hg2]; simp))
                          go_wp2
                          go_ret
                          exact ⟨by rw [HQ.out]; first | done | rfl, HXE.out.b0⟩
                        | true =>
                          simp only [Bool.not_true] at hh2
                          obtain ⟨g3, hg3⟩ : ∃ b, (x3 == y3) = b := ⟨_, rfl⟩
                          have hh3 : (x3 != y3) = !g3 := by rw [← hg3]; rfl
                          cases g3 with
                          | false =>
                            simp only [Bool.not_false] at hh3
                            have HQ : Hid (q = false) := hid (by rw [HQ1.out]; exact HBd.out (by rw [HEq.out, hg0, hg1, hg2, hg3]; simp))
                            go_wp2
                            go_ret
                            exact ⟨by rw [HQ.out]; first | done | rfl, HXE.out.b0⟩
                          | true =>
                            simp only [Bool.not_true] at hh3
                            obtain ⟨g4, hg4⟩ : ∃ b, (x4 == y4) = b := ⟨_, rfl⟩
                            have hh4 : (x4 != y4) = !g4 := by rw [← hg4]; rfl
                            cases g4 with
                            | false =>
                              simp only [Bool.not_false] at hh4
                              have HQ : Hid (q = false) := hid (by rw [HQ1.out]; exact HBd.out (by rw [HEq.out, hg0, hg1, hg2, hg3, hg4]; simp))
                              go_wp2
                              go_ret
                              exact ⟨by rw [HQ.out]; first | done | rfl, HXE.out.b0⟩
                            | true =>
                              simp only [Bool.not_true] at hh4
                              have HEr : Hid (v = r) := hid (by rw [HEq.out, hg0, hg1, hg2, hg3, hg4]; simp)
                              go_wp2_with fail
                              refine (HF.out _ HIx.out HIy.out).mono ?_
                              rintro e w2 ⟨rfl, yq, hyq⟩
                              have be9 := bdrewN (Below.refl ((wr.alloc (.cells #[.int .i64 x0, .int .i64 x1, .int .i64 x2, .int .i64 x3, .int .i64 x4, (.slice ao l1 cp)] 134)).alloc (.cells #[.int .i64 y0, .int .i64 y1, .int .i64 y2, .int .i64 y3, .int .i64 y4, (.slice ao' l2 cp')] 134)).heap.size ((wr.alloc (.cells #[.int .i64 x0, .int .i64 x1, .int .i64 x2, .int .i64 x3, .int .i64 x4, (.slice ao l1 cp)] 134)).alloc (.cells #[.int .i64 y0, .int .i64 y1, .int .i64 y2, .int .i64 y3, .int .i64 y4, (.slice ao' l2 cp')] 134))) yq
                              rw [← hyq] at be9
                              clear hyq
                              have HX2 := hid (HXE.out.below be9)
                              have HY2 := hid (HYE.out.below be9)
                              clear be9 c0 c1 c2 c3 c4 c5 e0 e1 e2 e3 e4 e5 yy zz hg0 hh0 hg1 hh1 hg2 hh2 hg3 hh3 hg4 hh4
                              cases r with
                              | true =>
                                have HSt2 := hid (HSt.out HEr.out)
                                go_wp2
                                go_roundw
                                case rel => exact ⟨kx + 1, by omega, by go_num, HSt2.out, HX2.out, HY2.out⟩
                                case measure => simp [intOf]; omega
                              | false =>
                                have HQ : Hid (q = false) := hid (by rw [HQ1.out]; exact HBd.out HEr.out)
                                go_wp2
                                go_ret
                                exact ⟨by rw [HQ.out]; first | done | rfl, HX2.out.b0⟩
                  · obtain rfl : kx = n3 := by omega
                    have HQ : Hid (q = true) := hid (by rw [HQ1.out]; exact HGoodI.out HAll.out)
                    have yy := HX.out.c5
                    go_wp2
                    go_ret
                    exact ⟨by rw [HQ.out]; first | done | rfl, HX.out.b0⟩
            · simp only [Value.slice.injEq] at hcv
              obtain ⟨rfl, -, rfl⟩ := hcv
              rw [← hn2.out] at hcp hcc
              rcases HBc with ⟨hdn, _⟩ | ⟨hdp, by_, oy, dc, hdv, hdb, hdc⟩
              · rw [hi2.out, hdn] at hcp; simp at hcp
              simp only [Value.slice.injEq] at hdv
              obtain ⟨rfl, -, rfl⟩ := hdv
              rw [← hi2.out] at hdp hdc
              have HCa := hid hcc
              have HCb := hid hdc
              clear hcc hdc hdp
              rcases HAi with ⟨hen, ae, ce, hev⟩ | ⟨hep, bi, oi, ce, F, hev, heb, hec⟩
              · have hn0 : n3 = 0 := by rw [hn3.out, hen]; rfl
                subst hn0
                clear hev hen HBi hn2 hi2 hn3 hi3
                go_enter Try.func57, Try.ntmps57
                go_wp2_with fail
                generalize ((w.alloc (.cells #[.int .i64 a, .int .i64 p, .slice a0 n0 k0, .slice a1 n1 k1, .slice (some ⟨bx, ox, none⟩) n2 k2, .slice a3 0 k3, .slice a4 n4 k4] 69)).alloc (.cells #[.int .i64 c, .int .i64 d, .slice b0 i0 j0, .slice b1 i1 j1, .slice (some ⟨by_, oy, none⟩) n2 j2, .slice b3 0 j3, .slice b4 i4 j4] 69)) = W0 at *
                refine (HE0.out W0 ((HM.out W0 HX.out.b0).h0) ((HN.out W0 HX.out.b0).h0)).mono ?_
                rintro e W1 ⟨rfl, y0, hy0⟩
                have be0 : Below W0.heap.size W0 W1 := by rw [hy0]; exact bdrewN (Below.refl _ _) _
                clear hy0
                replace HX := hid (HX.out.below be0)
                replace HY := hid (HY.out.below be0)
                clear be0
                have y := HX.out.c3
                have z := HY.out.c3
                go_wp2_with fail
                clear y z
                refine (HE1.out W1 ((HM.out W1 HX.out.b0).h1) ((HN.out W1 HX.out.b0).h1)).mono ?_
                rintro e W2 ⟨rfl, y1, hy1⟩
                have be1 : Below W1.heap.size W1 W2 := by rw [hy1]; exact bdrewN (Below.refl _ _) _
                clear hy1
                replace HX := hid (HX.out.below be1)
                replace HY := hid (HY.out.below be1)
                clear be1
                have y := HX.out.c6
                have z := HY.out.c6
                have y4 := HX.out.c4
                have z4 := HY.out.c4
                have y5 := HX.out.c5
                have z5 := HY.out.c5
                go_wp2_with fail
                clear y z y4 z4 y5 z5
                refine (HE4.out W2 ((HM.out W2 HX.out.b0).h4) ((HN.out W2 HX.out.b0).h4)).mono ?_
                rintro e W3 ⟨rfl, y4, hy4⟩
                have be4 : Below W2.heap.size W2 W3 := by rw [hy4]; exact bdrewN (Below.refl _ _) _
                clear hy4
                replace HX := hid (HX.out.below be4)
                replace HY := hid (HY.out.below be4)
                clear be4
                clear HE0 HE1 HE4
                go_wp2
                go_loopw [5] (fun i wr => ∃ k : Nat, k ≤ n2 ∧ i = .int .i64 k ∧ (∀ j, j < k → ca.eqV (m.cs.getD j ca.oz) (n.cs.getD j ca.oz) = true) ∧ Bx w wr w.heap.size a p (.slice a0 n0 k0) (.slice a1 n1 k1) (.slice (some ⟨bx, ox, none⟩) n2 k2) (.slice a3 0 k3) (.slice a4 n4 k4) ∧ Bx w wr (w.heap.size + 1) c d (.slice b0 i0 j0) (.slice b1 i1 j1) (.slice (some ⟨by_, oy, none⟩) n2 j2) (.slice b3 0 j3) (.slice b4 i4 j4)) (fun i _ => n2 - (intOf i).toNat)
                case atStart => exact ⟨0, Nat.zero_le _, rfl, fun j hj => by omega, HX.out, HY.out⟩
                case round =>
                  obtain ⟨k, hk, rfl, hall, hbx, hby⟩ := hrel
                  clear HX HY
                  have HX := hid hbx
                  have HY := hid hby
                  have HAll := hid hall
                  clear hbx hby hall
                  by_cases hlt : k < n2
                  · have HA := (HCa.out k hlt).below HX.out.b0
                    have HA' := (HCb.out k hlt).below HX.out.b0
                    have HBd := hid (HBadC.out k hlt)
                    have HSt : Hid (ca.eqV (m.cs.getD k ca.oz) (n.cs.getD k ca.oz) = true → ∀ j, j < k + 1 → ca.eqV (m.cs.getD j ca.oz) (n.cs.getD j ca.oz) = true) := hid (fun h j hj => by
                      rcases Nat.lt_or_ge j k with h' | h'
                      · exact HAll.out j h'
                      · obtain rfl : j = k := by omega
                        exact h)
                    generalize m.cs.getD k ca.oz = x at HA HBd HSt
                    generalize n.cs.getD k ca.oz = y at HA' HBd HSt
                    obtain ⟨x0, x1⟩ := x
                    obtain ⟨y0, y1⟩ := y
                    have hrun := fun W => ca.neqRun x0 y0 x1 y1 W
                    generalize ca.eqV ⟨x0, x1⟩ ⟨y0, y1⟩ = r at *
                    have c0 := HA.c0
                    have c1 := HA.c1
                    have e0 := HA'.c0
                    have e1 := HA'.c1
                    have yy := HX.out.c4
                    have zz := HY.out.c4
                    simp only at c0 c1 e0 e1
                    clear HA HA'
                    go_wp2_with fail
                    go_quiet (fail)
                    clear c0 c1 e0 e1 hrun yy zz
                    have HX2 := hid (fun q => HX.out.below (bdrewN (Below.refl wr.heap.size wr) q))
                    have HY2 := hid (fun q => HY.out.below (bdrewN (Below.refl wr.heap.size wr) q))
                    cases r with
                    | true =>
                      have HSt2 := hid (HSt.out rfl)
                      go_wp2
                      go_roundw
                      case rel => exact ⟨k + 1, by omega, by go_num, HSt2.out, HX2.out _, HY2.out _⟩
                      case measure => simp [intOf]; omega
                    | false =>
                      have HQ : Hid (q = false) := hid (by rw [HQ0.out, HBd.out rfl]; rfl)
                      go_wp2
                      go_ret
                      exact ⟨by rw [HQ.out]; first | done | rfl, (HX2.out _).b0⟩
                  · obtain rfl : k = n2 := by omega
                    have HQ1 : Hid (q = si) := hid (by rw [HQ0.out, HGoodC.out HAll.out]; rfl)
                    clear HAll HQ0
                    have yy := HX.out.c4
                    go_wp2
                    clear yy
                    refine wp_loop_rounds 1 ?_
                    rw [rounds_succ]
                    have HQ : Hid (q = true) := hid (by rw [HQ1.out]; exact HGoodI.out (fun j hj => by omega))
                    have yy := HX.out.c5
                    go_wp2
                    go_ret
                    exact ⟨by rw [HQ.out]; first | done | rfl, HX.out.b0⟩
              · simp only [Value.slice.injEq] at hev
                obtain ⟨rfl, -, rfl⟩ := hev
                rw [← hn3.out] at hep hec
                rcases HBi with ⟨hgn, _⟩ | ⟨hgp, bj, oj, gc, G, hgv, hgb, hgc⟩
                · rw [hi3.out, hgn] at hep; simp at hep
                simp only [Value.slice.injEq] at hgv
                obtain ⟨rfl, -, rfl⟩ := hgv
                rw [← hi3.out] at hgp hgc
                have HIa := hid hec
                have HIb := hid hgc
                clear hec hgc hgp hn2 hi2 hn3 hi3
                go_enter Try.func57, Try.ntmps57
                go_wp2_with fail
                generalize ((w.alloc (.cells #[.int .i64 a, .int .i64 p, .slice a0 n0 k0, .slice a1 n1 k1, .slice (some ⟨bx, ox, none⟩) n2 k2, .slice (some ⟨bi, oi, none⟩) n3 k3, .slice a4 n4 k4] 69)).alloc (.cells #[.int .i64 c, .int .i64 d, .slice b0 i0 j0, .slice b1 i1 j1, .slice (some ⟨by_, oy, none⟩) n2 j2, .slice (some ⟨bj, oj, none⟩) n3 j3, .slice b4 i4 j4] 69)) = W0 at *
                refine (HE0.out W0 ((HM.out W0 HX.out.b0).h0) ((HN.out W0 HX.out.b0).h0)).mono ?_
                rintro e W1 ⟨rfl, y0, hy0⟩
                have be0 : Below W0.heap.size W0 W1 := by rw [hy0]; exact bdrewN (Below.refl _ _) _
                clear hy0
                replace HX := hid (HX.out.below be0)
                replace HY := hid (HY.out.below be0)
                clear be0
                have y := HX.out.c3
                have z := HY.out.c3
                go_wp2_with fail
                clear y z
                refine (HE1.out W1 ((HM.out W1 HX.out.b0).h1) ((HN.out W1 HX.out.b0).h1)).mono ?_
                rintro e W2 ⟨rfl, y1, hy1⟩
                have be1 : Below W1.heap.size W1 W2 := by rw [hy1]; exact bdrewN (Below.refl _ _) _
                clear hy1
                replace HX := hid (HX.out.below be1)
                replace HY := hid (HY.out.below be1)
                clear be1
                have y := HX.out.c6
                have z := HY.out.c6
                have y4 := HX.out.c4
                have z4 := HY.out.c4
                have y5 := HX.out.c5
                have z5 := HY.out.c5
                go_wp2_with fail
                clear y z y4 z4 y5 z5
                refine (HE4.out W2 ((HM.out W2 HX.out.b0).h4) ((HN.out W2 HX.out.b0).h4)).mono ?_
                rintro e W3 ⟨rfl, y4, hy4⟩
                have be4 : Below W2.heap.size W2 W3 := by rw [hy4]; exact bdrewN (Below.refl _ _) _
                clear hy4
                replace HX := hid (HX.out.below be4)
                replace HY := hid (HY.out.below be4)
                clear be4
                clear HE0 HE1 HE4
                go_wp2
                go_loopw [5] (fun i wr => ∃ k : Nat, k ≤ n2 ∧ i = .int .i64 k ∧ (∀ j, j < k → ca.eqV (m.cs.getD j ca.oz) (n.cs.getD j ca.oz) = true) ∧ Bx w wr w.heap.size a p (.slice a0 n0 k0) (.slice a1 n1 k1) (.slice (some ⟨bx, ox, none⟩) n2 k2) (.slice (some ⟨bi, oi, none⟩) n3 k3) (.slice a4 n4 k4) ∧ Bx w wr (w.heap.size + 1) c d (.slice b0 i0 j0) (.slice b1 i1 j1) (.slice (some ⟨by_, oy, none⟩) n2 j2) (.slice (some ⟨bj, oj, none⟩) n3 j3) (.slice b4 i4 j4)) (fun i _ => n2 - (intOf i).toNat)
                case atStart => exact ⟨0, Nat.zero_le _, rfl, fun j hj => by omega, HX.out, HY.out⟩
                case round =>
                  obtain ⟨k, hk, rfl, hall, hbx, hby⟩ := hrel
                  clear HX HY
                  have HX := hid hbx
                  have HY := hid hby
                  have HAll := hid hall
                  clear hbx hby hall
                  by_cases hlt : k < n2
                  · have HA := (HCa.out k hlt).below HX.out.b0
                    have HA' := (HCb.out k hlt).below HX.out.b0
                    have HBd := hid (HBadC.out k hlt)
                    have HSt : Hid (ca.eqV (m.cs.getD k ca.oz) (n.cs.getD k ca.oz) = true → ∀ j, j < k + 1 → ca.eqV (m.cs.getD j ca.oz) (n.cs.getD j ca.oz) = true) := hid (fun h j hj => by
                      rcases Nat.lt_or_ge j k with h' | h'
                      · exact HAll.out j h'
                      · obtain rfl : j = k := by omega
                        exact h)
                    generalize m.cs.getD k ca.oz = x at HA HBd HSt
                    generalize n.cs.getD k ca.oz = y at HA' HBd HSt
                    obtain ⟨x0, x1⟩ := x
                    obtain ⟨y0, y1⟩ := y
                    have hrun := fun W => ca.neqRun x0 y0 x1 y1 W
                    generalize ca.eqV ⟨x0, x1⟩ ⟨y0, y1⟩ = r at *
                    have c0 := HA.c0
                    have c1 := HA.c1
                    have e0 := HA'.c0
                    have e1 := HA'.c1
                    have yy := HX.out.c4
                    have zz := HY.out.c4
                    simp only at c0 c1 e0 e1
                    clear HA HA'
                    go_wp2_with fail
                    go_quiet (fail)
                    clear c0 c1 e0 e1 hrun yy zz
                    have HX2 := hid (fun q => HX.out.below (bdrewN (Below.refl wr.heap.size wr) q))
                    have HY2 := hid (fun q => HY.out.below (bdrewN (Below.refl wr.heap.size wr) q))
                    cases r with
                    | true =>
                      have HSt2 := hid (HSt.out rfl)
                      go_wp2
                      go_roundw
                      case rel => exact ⟨k + 1, by omega, by go_num, HSt2.out, HX2.out _, HY2.out _⟩
                      case measure => simp [intOf]; omega
                    | false =>
                      have HQ : Hid (q = false) := hid (by rw [HQ0.out, HBd.out rfl]; rfl)
                      go_wp2
                      go_ret
                      exact ⟨by rw [HQ.out]; first | done | rfl, (HX2.out _).b0⟩
                  · obtain rfl : k = n2 := by omega
                    have HQ1 : Hid (q = si) := hid (by rw [HQ0.out, HGoodC.out HAll.out]; rfl)
                    clear HAll HQ0
                    have yy := HX.out.c4
                    go_wp2
                    clear yy
                    go_loopw [6] (fun i wr => ∃ kx : Nat, kx ≤ n3 ∧ i = .int .i64 kx ∧ (∀ j, j < kx → nf.eqV (m.ls.getD j nf.iz) (n.ls.getD j nf.iz) = true) ∧ Bx w wr w.heap.size a p (.slice a0 n0 k0) (.slice a1 n1 k1) (.slice (some ⟨bx, ox, none⟩) k k2) (.slice (some ⟨bi, oi, none⟩) n3 k3) (.slice a4 n4 k4) ∧ Bx w wr (w.heap.size + 1) c d (.slice b0 i0 j0) (.slice b1 i1 j1) (.slice (some ⟨by_, oy, none⟩) k j2) (.slice (some ⟨bj, oj, none⟩) n3 j3) (.slice b4 i4 j4)) (fun i _ => n3 - (intOf i).toNat)
                    case atStart => exact ⟨0, Nat.zero_le _, rfl, fun j hj => by omega, HX.out, HY.out⟩
                    case round =>
                      obtain ⟨kx, hkx, rfl, hall, hbx, hby⟩ := hrel
                      clear HX HY
                      have HX := hid hbx
                      have HY := hid hby
                      have HAll := hid hall
                      clear hbx hby hall
                      by_cases hlt2 : kx < n3
                      · have HA := (HIa.out kx hlt2).1.below HX.out.b0
                        have HA' := (HIb.out kx hlt2).1.below HX.out.b0
                        have HI := hid (((HIa.out kx hlt2).2).chg (Chg.ofBelow (lo := 0) HX.out.b0) (.inr (Nat.zero_le _)))
                        have HI' := hid (((HIb.out kx hlt2).2).chg (Chg.ofBelow (lo := 0) HX.out.b0) (.inr (Nat.zero_le _)))
                        have hsx := HSx.out kx hlt2
                        have hsy := HSy.out kx hlt2
                        have HBd := hid (HBadI.out kx hlt2)
                        have HSt : Hid (nf.eqV (m.ls.getD kx nf.iz) (n.ls.getD kx nf.iz) = true → ∀ j, j < kx + 1 → nf.eqV (m.ls.getD j nf.iz) (n.ls.getD j nf.iz) = true) := hid (fun h j hj => by
                          rcases Nat.lt_or_ge j kx with h' | h'
                          · exact HAll.out j h'
                          · obtain rfl : j = kx := by omega
                            exact h)
                        generalize m.ls.getD kx nf.iz = x at HA HI HBd HSt hsx
                        generalize n.ls.getD kx nf.iz = y at HA' HI' HBd HSt hsy
                        generalize F kx = fk at *
                        generalize G kx = gk at *
                        obtain ⟨x0, x1, x2, x3, x4, ps⟩ := x
                        obtain ⟨y0, y1, y2, y3, y4, qs⟩ := y
                        simp only at HI HI' hsx hsy
                        have hE1 := (Below.refl wr.heap.size wr).alloc (Nat.le_refl _) (.cells #[.int .i64 x0, .int .i64 x1, .int .i64 x2, .int .i64 x3, .int .i64 x4, fk] 134)
                        have hE2 := hE1.alloc (by simp) (.cells #[.int .i64 y0, .int .i64 y1, .int .i64 y2, .int .i64 y3, .int .i64 y4, gk] 134)
                        have c0 := HA.c0
                        have c1 := HA.c1
                        have c2 := HA.c2
                        have c3 := HA.c3
                        have c4 := HA.c4
                        have c5 := HA.c5
                        have e0 := (HA'.below hE1).c0
                        have e1 := (HA'.below hE1).c1
                        have e2 := (HA'.below hE1).c2
                        have e3 := (HA'.below hE1).c3
                        have e4 := (HA'.below hE1).c4
                        have e5 := (HA'.below hE1).c5
                        have yy := HX.out.c5
                        have zz := (HY.out.below hE1).c5
                        simp only at c0 c1 c2 c3 c4 c5 e0 e1 e2 e3 e4 e5
                        obtain ⟨ao, cp, hv⟩ := ints_val HI.out
                        obtain ⟨ao', cp', hu⟩ := ints_val HI'.out
                        have HXE := hid (HX.out.below hE2)
                        have HYE := hid (HY.out.below hE2)
                        have HIx := hid (HI.out.chg (Chg.ofBelow (lo := 0) hE2) (.inr (Nat.zero_le _)))
                        have HIy := hid (HI'.out.chg (Chg.ofBelow (lo := 0) hE2) (.inr (Nat.zero_le _)))
                        have HF := hid (fun W i j => nb.sameQ ps qs fk gk B C W i j (by omega) (by omega))
                        have HEq : Hid (nf.eqV ⟨x0, x1, x2, x3, x4, ps⟩ ⟨y0, y1, y2, y3, y4, qs⟩ = (x0 == y0 && (x1 == y1 && (x2 == y2 && (x3 == y3 && (x4 == y4 && sameB ps qs)))))) := hid rfl
                        clear HA HA' hE1 hE2 HI HI' hsx hsy
                        generalize nf.eqV ⟨x0, x1, x2, x3, x4, ps⟩ ⟨y0, y1, y2, y3, y4, qs⟩ = v at *
                        generalize sameB ps qs = r at *
                        generalize ps.length = l1 at *
                        generalize qs.length = l2 at *
                        subst hv hu
                        obtain ⟨g0, hg0⟩ : ∃ b, (x0 == y0) = b := ⟨_, rfl⟩
                        have hh0 : (x0 != y0) = !g0 := by rw [← hg0]; rfl
                        cases g0 with
                        | false =>
                          simp only [Bool.not_false] at hh0
                          have HQ : Hid (q = false) := hid (by rw [HQ1.out]; exact HBd.out (by rw [HEq.out, hg0]; simp))
                          go_wp2
                          go_ret
                          exact ⟨by rw [HQ.out]; first | done | rfl, HXE.out.b0⟩
                        | true =>
                          simp only [Bool.not_true] at hh0
                          obtain ⟨g1, hg1⟩ : ∃ b, (x1 == y1) = b := ⟨_, rfl⟩
                          have hh1 : (x1 != y1) = !g1 := by rw [← hg1]; rfl
                          cases g1 with
                          | false =>
                            simp only [Bool.not_false] at hh1
                            have HQ : Hid (q = false) := hid (by rw [HQ1.out]; exact HBd.out (by rw [HEq.out, hg0, hg1]; simp))
                            go_wp2
                            go_ret
                            exact ⟨by rw [HQ.out]; first | done | rfl, HXE.out.b0⟩
                          | true =>
                            simp only [Bool.not_true] at hh1
                            obtain ⟨g2, hg2⟩ : ∃ b, (x2 == y2) = b := ⟨_, rfl⟩
                            have hh2 : (x2 != y2) = !g2 := by rw [← hg2]; rfl
                            cases g2 with
                            | false =>
                              simp only [Bool.not_false] at hh2
                              have HQ : Hid (q = false) := hid (by rw [HQ1.out]; exact HBd.out (by rw [HEq.out, hg0, hg1, hg2]; simp))
                              go_wp2
                              go_ret
                              exact ⟨by rw [HQ.out]; first | done | rfl, HXE.out.b0⟩
                            | true =>
                              simp only [Bool.not_true] at hh2
                              obtain ⟨g3, hg3⟩ : ∃ b, (x3 == y3) = b := ⟨_, rfl⟩
                              have hh3 : (x3 != y3) = !g3 := by rw [← hg3]; rfl
                              cases g3 with
                              | false =>
                                simp only [Bool.not_false] at hh3
                                have HQ : Hid (q = false) := hid (by rw [HQ1.out]; exact HBd.out (by rw [HEq.out, hg0, hg1, hg2, hg3]; simp))
                                go_wp2
                                go_ret
                                exact ⟨by rw [HQ.out]; first | done | rfl, HXE.out.b0⟩
                              | true =>
                                simp only [Bool.not_true] at hh3
                                obtain ⟨g4, hg4⟩ : ∃ b, (x4 == y4) = b := ⟨_, rfl⟩
                                have hh4 : (x4 != y4) = !g4 := by rw [← hg4]; rfl
                                cases g4 with
                                | false =>
                                  simp only [Bool.not_false] at hh4
                                  have HQ : Hid (q = false) := hid (by rw [HQ1.out]; exact HBd.out (by rw [HEq.out, hg0, hg1, hg2, hg3, hg4]; simp))
                                  go_wp2
                                  go_ret
                                  exact ⟨by rw [HQ.out]; first | done | rfl, HXE.out.b0⟩
                                | true =>
                                  simp only [Bool.not_true] at hh4
                                  have HEr : Hid (v = r) := hid (by rw [HEq.out, hg0, hg1, hg2, hg3, hg4]; simp)
                                  go_wp2_with fail
                                  refine (HF.out _ HIx.out HIy.out).mono ?_
                                  rintro e w2 ⟨rfl, yq, hyq⟩
                                  have be9 := bdrewN (Below.refl ((wr.alloc (.cells #[.int .i64 x0, .int .i64 x1, .int .i64 x2, .int .i64 x3, .int .i64 x4, (.slice ao l1 cp)] 134)).alloc (.cells #[.int .i64 y0, .int .i64 y1, .int .i64 y2, .int .i64 y3, .int .i64 y4, (.slice ao' l2 cp')] 134)).heap.size ((wr.alloc (.cells #[.int .i64 x0, .int .i64 x1, .int .i64 x2, .int .i64 x3, .int .i64 x4, (.slice ao l1 cp)] 134)).alloc (.cells #[.int .i64 y0, .int .i64 y1, .int .i64 y2, .int .i64 y3, .int .i64 y4, (.slice ao' l2 cp')] 134))) yq
                                  rw [← hyq] at be9
                                  clear hyq
                                  have HX2 := hid (HXE.out.below be9)
                                  have HY2 := hid (HYE.out.below be9)
                                  clear be9 c0 c1 c2 c3 c4 c5 e0 e1 e2 e3 e4 e5 yy zz hg0 hh0 hg1 hh1 hg2 hh2 hg3 hh3 hg4 hh4
                                  cases r with
                                  | true =>
                                    have HSt2 := hid (HSt.out HEr.out)
                                    go_wp2
                                    go_roundw
                                    case rel => exact ⟨kx + 1, by omega, by go_num, HSt2.out, HX2.out, HY2.out⟩
                                    case measure => simp [intOf]; omega
                                  | false =>
                                    have HQ : Hid (q = false) := hid (by rw [HQ1.out]; exact HBd.out HEr.out)
                                    go_wp2
                                    go_ret
                                    exact ⟨by rw [HQ.out]; first | done | rfl, HX2.out.b0⟩
                      · obtain rfl : kx = n3 := by omega
                        have HQ : Hid (q = true) := hid (by rw [HQ1.out]; exact HGoodI.out HAll.out)
                        have yy := HX.out.c5
                        go_wp2
                        go_ret
                        exact ⟨by rw [HQ.out]; first | done | rfl, HX.out.b0⟩
end Go.Proofs.Ytlbhpndkmgchcaa.mc
