/-
  CourseOf of the model.
-/
import Derived.Test.YtlhpipcmebmpdabCo1
namespace Go.Proofs.Ytlhpipcmebmpdab.mc
open Go.RowKit Go.Sort Go.Maps Go.Proofs.Ytlhpipcmebmpdab.sl Go.Proofs.Ytlhpipcmebmpdab.br Go.Proofs.Ytlhpipcmebmpdab.fn Go.Proofs.Ytlhpipcmebmpdab.ss Go.Proofs.Ytlhpipcmebmpdab.fb
set_option linter.unusedVariables false
set_option linter.unusedSimpArgs false

theorem maxQ (a b : Int) (w : World) : Calls Try.prog 63 #[.int .i64 a, .int .i64 b] w fun e w' => e = .returned (.int .i64 (if a < b then b else a)) ∧ Below w.heap.size w w' := by
  by_cases h : b < a
  · have HQ : Hid ((if a < b then b else a) = a) := hid (if_neg (by omega))
    rw [HQ.out]
    go_enter Try.func63, Try.ntmps63
    go_wp2
    go_ret
    exact ⟨rfl, Below.refl _ _⟩
  · have HQ : Hid ((if a < b then b else a) = b) := hid (by
      by_cases h3 : a < b
      · exact if_pos h3
      · rw [if_neg h3]; omega)
    rw [HQ.out]
    go_enter Try.func63, Try.ntmps63
    go_wp2
    go_ret
    exact ⟨rfl, Below.refl _ _⟩

set_option maxRecDepth 100000 in
set_option maxHeartbeats 8000000 in
theorem specCrs (pb : Nat) (ls : List nf.V) (f3 : Value) (B : Nat) (w : World) (c5 : w.cell? ⟨pb, 5, none⟩ = some f3) (ha : nf.Infs w B f3 ls) (hB : B ≤ w.heap.size) (hl : ls.length ≤ 300) (hp : ParB ls) (hps : ∀ k, k < ls.length → (psF ls k).length ≤ 4) :
    Calls Try.prog 33 #[.pointer (some ⟨pb, 0, none⟩)] w fun e w' => ∃ v, e = .returned v ∧ sl.Own w' w.heap.size w'.heap.size v (crL ls ls.length) ∧ Below w.heap.size w w' := by
  have hpb := World.block_lt_of_cell? w _ c5
  have HC5 := hid c5
  have HPar := hid hp
  have HPs := hid hps
  have HCb := hid (fun y hy => co_bound ls hp y hy)
  have HFo := hid (fun k j h1 h2 => crL_foT ls hp k j h1 h2)
  have HLn := hid (fun k => crL_len ls k)
  have HAt := hid (fun x k h => crL_at ls x k h)
  have HO0 := hid (Own.built w (#[] : Array Value) rfl)
  have HB0 : Hid (Below w.heap.size w (w.alloc (.cells #[] 2))) := hid ((Below.refl _ w).alloc (Nat.le_refl _) _)
  clear c5 hp hps
  rcases ha with ⟨rfl, ao, cap, rfl⟩ | ⟨hp, g, off, cap, F, rfl, hg, hc⟩
  · have y5 := (HB0.out.cell (p := ⟨pb, 5, none⟩) hpb).trans HC5.out
    go_enter Try.func33, Try.ntmps33
    go_wp2
    refine wp_loop_rounds 1 ?_
    rw [rounds_succ]
    go_wp2
    go_ret
    exact ⟨_, rfl, HO0.out, HB0.out⟩
  · obtain ⟨n, hn⟩ : ∃ n, n = ls.length := ⟨_, rfl⟩
    have HN := hid hn
    have HC := hid hc
    have hgl : g < w.heap.size := by omega
    rw [← hn] at hp hl HC5 ⊢
    clear hc hn
    go_enter Try.func33, Try.ntmps33
    go_wp2
    go_loopw [3, 4] (fun v i wr => ∃ (k : Nat) (u : Value), k ≤ n ∧ v = u ∧ i = .int .i64 k ∧ sl.Own wr w.heap.size wr.heap.size u (crL ls k) ∧ Below w.heap.size w wr)
      (fun _ i _ => n - (intOf i).toNat)
    case atStart => exact ⟨0, _, Nat.zero_le _, rfl, rfl, HO0.out, HB0.out⟩
    case round =>
      obtain ⟨k, u, hk, rfl, rfl, hor, hbr⟩ := hrel
      have HBr := hid hbr
      have HOr := hid hor
      obtain ⟨aou, capu, hu⟩ := br.own_val hor
      rw [HLn.out] at hu
      subst hu
      have y5 := (hbr.cell (p := ⟨pb, 5, none⟩) hpb).trans HC5.out
      clear hor hbr HO0 HB0
      by_cases hlt : k < n
      · have hkl : k < ls.length := by rw [← HN.out]; exact hlt
        obtain ⟨hA, hI⟩ := HC.out k hkl
        obtain ⟨ao6, cap6, hv6⟩ := fn.ints_slice hI
        have HI := hid hI
        have q5 := (HBr.out.cell (p := ⟨g, off + k * 6 + 5, none⟩) hgl).trans hA.c5
        rw [hv6] at q5 HI
        obtain ⟨l6, hl6⟩ : ∃ l, l = (psF ls k).length := ⟨_, rfl⟩
        have HL6 := hid hl6
        have hl6' : (ls.getD k nf.iz).ps.length = l6 := hl6.symm
        rw [hl6'] at q5 HI
        have hl64 : l6 ≤ 4 := by rw [hl6]; exact HPs.out k hkl
        have hkI : (k : Int) < (n : Int) := by omega
        clear hA hI hv6 hl6 hl6'
        go_wp2
        go_loopw [5, 6] (fun c i wv => ∃ (j : Nat), j ≤ l6 ∧ i = .int .i64 j ∧ c = .int .i64 (foT (co ls) (psF ls k) j) ∧ sl.Own wv w.heap.size wv.heap.size (.slice aou k capu) (crL ls k) ∧ Below w.heap.size w wv)
          (fun _ i _ => l6 - (intOf i).toNat)
        case atStart => exact ⟨0, Nat.zero_le _, rfl, rfl, HOr.out, HBr.out⟩
        case round =>
          obtain ⟨j, hj, rfl, rfl, hov, hbv⟩ := hrel
          have HOv := hid hov
          have HBv := hid hbv
          have x5 := (hbv.cell (p := ⟨pb, 5, none⟩) hpb).trans HC5.out
          have r5 : wr.cell? ⟨g, off + k * 6 + 5, none⟩ = some (.slice ao6 l6 cap6) := by
            have h1 := (HC.out k hkl).1.c5
            have h2 := (HBr.out.cell (p := ⟨g, off + k * 6 + 5, none⟩) hgl).trans h1
            rw [q5] at h2
            rw [hbv.cell (p := ⟨g, off + k * 6 + 5, none⟩) hgl, h1]
            exact h2.symm
          clear hov hbv y5 q5 HBr HOr
          have hfb := foT_bound (co ls) (psF ls k) (k : Int) (fun j hj => by
            have h1 := HPar.out k hkl j hj
            have h2 := HCb.out ((psF ls k).getD j 0).toNat (by show (((ls.getD k nf.iz).ps).getD j 0).toNat < _; omega)
            have h3 : ((psF ls k).getD j 0) = ((ls.getD k nf.iz).ps).getD j 0 := rfl
            omega) (by omega) j (by rw [← HL6.out]; exact hj)
          by_cases hlj : j < l6
          · rcases HI.out with ⟨hnil, _⟩ | ⟨hpp, b6, off6, c6, hv, hb6, hc6⟩
            · exfalso
              have := HL6.out
              unfold psF at this
              rw [hnil] at this
              simp at this
              omega
            · have hll : (ls.getD k nf.iz).ps.length = l6 := HL6.out.symm
              rw [hll] at hv
              simp only [Value.slice.injEq, true_and] at hv
              obtain ⟨rfl, rfl⟩ := hv
              have hq0 := (HBv.out.cell (p := ⟨b6, off6 + j, none⟩) (by show b6 < _; omega)).trans (hc6 j (by rw [hll]; exact hlj))
              have hqp := HPar.out k hkl j (by rw [hll]; exact hlj)
              have HFs := hid (foT_succ (co ls) (psF ls k) j (by rw [← HL6.out]; exact hlj))
              have hqe : (psF ls k).getD j 0 = (ls.getD k nf.iz).ps.getD j 0 := rfl
              rw [hqe] at HFs
              generalize (ls.getD k nf.iz).ps.getD j 0 = q at *
              obtain ⟨qn, rfl⟩ := Int.eq_ofNat_of_zero_le hqp.1
              have hqx : qn < k := by omega
              have hcb2 := HCb.out qn (by omega)
              rw [Int.toNat_natCast] at HFs
              obtain ⟨g0, c0, hv0, hg0, hg0'⟩ := own_slice HOv.out (by rw [HLn.out]; omega)
              rw [HLn.out] at hv0
              simp only [Value.slice.injEq, true_and] at hv0
              obtain ⟨rfl, rfl⟩ := hv0
              have hcq := (HOv.out.at' qn (by rw [HLn.out]; exact hqx)).1
              rw [HAt.out qn k hqx] at hcq
              have HM := hid (fun W => maxQ (foT (co ls) (psF ls k) j) (1 + co ls qn) W)
              have hqI : (qn : Int) < (k : Int) := by omega
              generalize foT (co ls) (psF ls k) j = f at *
              generalize co ls qn = cq at *
              clear hqp hc6 hqe hpp
              go_wp2_with fail
              refine (HM.out _).mono ?_
              rintro e w6 ⟨rfl, b6'⟩
              have HO6 := hid ((HOv.out.chg (Chg.ofBelow (lo := 0) b6') (.inr (.inr (Nat.zero_le _)))).hi (hi' := w6.heap.size) b6'.size (Nat.le_refl _))
              have HB6 := hid (HBv.out.trans (b6'.mono HBv.out.size))
              clear b6' HM
              have HF2 : Hid (foT (co ls) (psF ls k) (j + 1) = if f < 1 + cq then 1 + cq else f) := hid (by rw [HFs.out, show cq + 1 = 1 + cq by omega])
              by_cases hcmp : f < 1 + cq
              · have HF3 : Hid (foT (co ls) (psF ls k) (j + 1) = 1 + cq) := hid (by rw [HF2.out, if_pos hcmp])
                rw [if_pos hcmp]
                go_wp2
                go_roundw
                case rel => exact ⟨j + 1, by omega, by go_num, by rw [HF3.out], HO6.out, HB6.out⟩
                case measure => simp [intOf]; omega
              · have HF3 : Hid (foT (co ls) (psF ls k) (j + 1) = f) := hid (by rw [HF2.out, if_neg hcmp])
                rw [if_neg hcmp]
                go_wp2
                go_roundw
                case rel => exact ⟨j + 1, by omega, by go_num, by rw [HF3.out], HO6.out, HB6.out⟩
                case measure => simp [intOf]; omega
          · obtain rfl : j = l6 := by omega
            have HE : Hid (crL ls (k + 1) = crL ls k ++ [foT (co ls) (psF ls k) j]) := hid (by
              show crL ls k ++ [foT _ (psF ls k) (psF ls k).length] = _
              rw [HFo.out k (psF ls k).length hkl (Nat.le_refl _), ← HL6.out])
            have hln := HLn.out k
            generalize foT (co ls) (psF ls k) j = f at *
            go_wp2_with (at_builtin; refine wp_append rfl _ _ rfl w.heap.size wr.heap.size _ (crL ls k) f HOv.out rfl rfl HBv.out.size (by omega) ?_; intro v9 w1 hown1 hchg1 hsz1; have HB1 := hid (HBv.out.trans (hchg1.below (Nat.le_refl _) HBv.out.size)); have HO1 := hid hown1; clear hown1 hchg1)
            go_roundw
            case rel => exact ⟨k + 1, _, by omega, rfl, by go_num, by rw [HE.out]; exact HO1.out, HB1.out⟩
            case measure => simp [intOf]; omega
      · obtain rfl : k = n := by omega
        go_wp2
        go_ret
        exact ⟨_, rfl, HOr.out, HBr.out⟩

set_option maxRecDepth 100000 in
set_option maxHeartbeats 4000000 in
theorem specCo (a p : Int) (m : Mch) (x : Int) (f0 f1 f2 f3 f4 : Value) (B : Nat) (w : World) (ha : MInC w B f0 f1 f2 f3 f4 m) (hB : B ≤ w.heap.size) (hq : Small m) :
    Calls Try.prog 9 #[.agg #[.int .i64 a, .int .i64 p, f0, f1, f2, f3, f4], .int .i64 x] w fun e w' => e = .returned (.tuple #[.int .i64 (coR a p m x), .int .i64 (askC a p m x)]) ∧ Below w.heap.size w w' := by
  have HV := hid (fun W (h : Below w.heap.size w W) (hx : Bx w W w.heap.size a p f0 f1 f2 f3 f4) => askS a p m x f0 f1 f2 f3 f4 B w.heap.size w W (ha.below h) hq hx)
  have HInf := hid (fun (X : World) (h : Below w.heap.size w X) => (ha.below h).rd.h3)
  have HAsk := hid (@ask_ok a p m x)
  obtain ⟨y, hy⟩ : ∃ y, y = coR a p m x := ⟨_, rfl⟩
  obtain ⟨d, hd⟩ : ∃ d, d = askC a p m x := ⟨_, rfl⟩
  rw [← hy, ← hd]
  unfold coR at hy
  rw [← hd] at hy HV HAsk
  have HX1 := hid hy
  obtain ⟨⟨a0, k0, rfl⟩, ⟨a1, k1, rfl⟩, ⟨a2, k2, rfl⟩, ⟨a3, k3, rfl⟩, ⟨a4, k4, rfl⟩⟩ := ha.vals
  clear ha hq hy hd
  generalize m.fr.length = n0 at *
  generalize m.bk.length = n1 at *
  generalize m.cs.length = n2 at *
  obtain ⟨n3, hn3⟩ : ∃ n, n = m.ls.length := ⟨_, rfl⟩
  have HN3 := hid hn3
  rw [← hn3] at HV HInf ⊢
  generalize m.dr.length = n4 at *
  have HX := hid (bx_new w 34 a p (.slice a0 n0 k0) (.slice a1 n1 k1) (.slice a2 n2 k2) (.slice a3 n3 k3) (.slice a4 n4 k4))
  clear hn3
  go_enter Try.func9, Try.ntmps9
  go_wp2_with fail
  generalize (w.alloc (.cells #[.int .i64 a, .int .i64 p, .slice a0 n0 k0, .slice a1 n1 k1, .slice a2 n2 k2, .slice a3 n3 k3, .slice a4 n4 k4] 34)) = W1 at *
  refine (HV.out W1 HX.out.b0 HX.out).mono ?_
  rintro e W2 ⟨rfl, b2⟩
  have HX2 := hid (HX.out.below b2)
  clear b2 HX HV
  by_cases h0 : d = 0
  · subst h0
    obtain ⟨hok, hx0, hx1⟩ := HAsk.out rfl
    have hxs : y = co m.ls x.toNat := by rw [HX1.out, if_pos rfl]
    obtain ⟨xn, rfl⟩ := Int.eq_ofNat_of_zero_le hx0
    rw [Int.toNat_natCast] at hxs
    have HY := hid (specCrs w.heap.size m.ls (.slice a3 n3 k3) B W2 HX2.out.c5 (HInf.out W2 HX2.out.b0) (Nat.le_trans hB HX2.out.b0.size) (ls_len (okM_parts hok)) (fun k hk => (par_ok (okM_parts hok) k hk).2.2) (fun k hk => (par_ok (okM_parts hok) k hk).1))
    have HXs := hid hxs
    have hx1' : xn < m.ls.length := by omega
    clear hxs HX1 hok hx0 hx1 HInf HAsk
    go_wp2_with fail
    refine HY.out.mono ?_
    rintro e W3 ⟨v3, rfl, o3, b3⟩
    obtain ⟨g0, c0, hv0, hg0, hg0'⟩ := own_slice o3 (by rw [crL_len]; omega)
    rw [crL_len, ← HN3.out] at hv0
    subst hv0
    have hcx := (o3.at' xn (by rw [crL_len]; exact hx1')).1
    rw [crL_at m.ls xn _ hx1'] at hcx
    have hxI : (xn : Int) < (n3 : Int) := by rw [HN3.out]; omega
    have HB3 := hid (HX2.out.b0.trans (b3.mono HX2.out.b0.size))
    clear o3 b3 HY
    go_wp2
    go_ret2
    exact ⟨by rw [HXs.out]; rfl, HB3.out⟩
  · obtain rfl : y = 0 := by rw [HX1.out, if_neg h0]
    have hnb : (d == 0) = false := by simp [h0]
    have hnd : decide (d = 0) = false := decide_eq_false h0
    go_wp2
    go_ret2
    exact ⟨rfl, HX2.out.b0⟩
end Go.Proofs.Ytlhpipcmebmpdab.mc
