/-
  ApplyMove of the model.
-/
import Derived.Test.YtbbnheiibkcgiaaAm2
namespace Go.Proofs.Ytbbnheiibkcgiaa.mo
open Go.RowKit Go.Sort Go.Proofs.Ytbbnheiibkcgiaa.sl Go.Proofs.Ytbbnheiibkcgiaa.pm
set_option linter.unusedVariables false
set_option maxRecDepth 100000

theorem any_upto_false {p : Int → Bool} {xs : List Int} (h : ∀ j, j < xs.length → p (xs.getD j 0) = false) : xs.any p = false := (br.idx_no p xs h).1
theorem any_at {p : Int → Bool} {xs : List Int} (k : Nat) (hk : k < xs.length) (h : p (xs.getD k 0) = true) : xs.any p = true := by
  rw [List.any_eq_true]
  exact ⟨xs[k], List.getElem_mem hk, by rw [← h, List.getD, List.getElem?_eq_getElem hk]; rfl⟩

set_option maxHeartbeats 8000000 in
theorem specAM (xs : List Int) (f t : Int) (v : Value) (B : Nat) (w : World) (ha : Ints w B v xs) (hB : B ≤ w.heap.size) (hq : l5.Small xs) :
    Calls Try.prog 18 #[v, .agg #[.int .i64 f, .int .i64 t]] w fun e w' => ∃ v', e = .returned (.tuple #[v', .int .i64 (amC xs f t)]) ∧ Own w' w.heap.size w'.heap.size v' (amW xs f t) ∧ Below w.heap.size w w' := by
  have b0 := (Below.refl w.heap.size w).alloc (Nat.le_refl _) (.cells #[.int .i64 f, .int .i64 t] 33)
  have k0 : (w.alloc (.cells #[.int .i64 f, .int .i64 t] 33)).cell? ⟨w.heap.size, 0, none⟩ = some (.int .i64 f) := World.cell?_alloc_at _ _ _ _ rfl
  have k1 : (w.alloc (.cells #[.int .i64 f, .int .i64 t] 33)).cell? ⟨w.heap.size, 1, none⟩ = some (.int .i64 t) := World.cell?_alloc_at _ _ _ _ rfl
  have hs0 : (w.alloc (.cells #[.int .i64 f, .int .i64 t] 33)).heap.size = w.heap.size + 1 := by simp
  have hn : xs.length ≤ 1048576 := by have := hq.len; omega
  have HP := hid (specPl1 xs v B _ (ha.chg (Chg.ofBelow (lo := 0) b0) (.inr (Nat.zero_le _))) (by omega))
  have HV := hid (specMv f t)
  have HA := hid (fun W (b : Below w.heap.size w W) => ha.chg (Chg.ofBelow (lo := 0) b) (.inr (Nat.zero_le _)))
  have HB0 := hid b0
  clear b0
  obtain ⟨ao, cap, hv⟩ := br.ints_val ha
  cases hp : plB xs
  · have HW : Hid (amW xs f t = []) := hid (by rw [amW, amC, hp]; rfl)
    have HC : Hid (amC xs f t = 1) := hid (by rw [amC, hp]; rfl)
    rw [hp] at HP
    clear hp ha hq HA
    generalize xs.length = n at *
    subst hv
    go_enter Try.func18, Try.ntmps18
    go_wp2_with fail
    refine HP.out.mono ?_
    rintro e w1 ⟨rfl, q1, hq1⟩
    have b1 : Below w.heap.size w w1 := by rw [hq1]; exact ⟨HB0.out.os, HB0.out.tape, HB0.out.output, HB0.out.size, HB0.out.block⟩
    have l0 : w1.cell? ⟨w.heap.size, 0, none⟩ = some (.int .i64 f) := by rw [hq1]; exact k0
    have l1 : w1.cell? ⟨w.heap.size, 1, none⟩ = some (.int .i64 t) := by rw [hq1]; exact k1
    have hs1 : w.heap.size < w1.heap.size := by rw [hq1]; show w.heap.size < (w.alloc _).heap.size; omega
    have HW1 := hid b1
    clear b1 k0 k1 hq1
    go_wp2
    go_ret2
    exact ⟨.slice none 0 0, by rw [HC.out]; rfl, by rw [HW.out]; exact Own.nil _ _, HW1.out⟩
  · rw [hp] at HP
    cases hm : mvB f t
    · have HW : Hid (amW xs f t = []) := hid (by rw [amW, amC, hp, hm]; rfl)
      have HC : Hid (amC xs f t = 1) := hid (by rw [amC, hp, hm]; rfl)
      rw [hm] at HV
      clear hp hm ha hq HA
      generalize xs.length = n at *
      subst hv
      go_enter Try.func18, Try.ntmps18
      go_wp2_with fail
      refine HP.out.mono ?_
      rintro e w1 ⟨rfl, q1, hq1⟩
      have b1 : Below w.heap.size w w1 := by rw [hq1]; exact ⟨HB0.out.os, HB0.out.tape, HB0.out.output, HB0.out.size, HB0.out.block⟩
      have l0 : w1.cell? ⟨w.heap.size, 0, none⟩ = some (.int .i64 f) := by rw [hq1]; exact k0
      have l1 : w1.cell? ⟨w.heap.size, 1, none⟩ = some (.int .i64 t) := by rw [hq1]; exact k1
      have hs1 : w.heap.size < w1.heap.size := by rw [hq1]; show w.heap.size < (w.alloc _).heap.size; omega
      have HW1 := hid b1
      clear b1 k0 k1 hq1
      go_wp2_with fail
      refine (HV.out _).mono ?_
      rintro e w2 ⟨rfl, b2⟩
      have m0 := (b2.cell (p := ⟨w.heap.size, 0, none⟩) (by show w.heap.size < _; omega)).trans l0
      have m1 := (b2.cell (p := ⟨w.heap.size, 1, none⟩) (by show w.heap.size < _; omega)).trans l1
      have HW2 := hid (HW1.out.trans (b2.mono (by omega)))
      have hs2 : w.heap.size < w2.heap.size := by have := b2.size; omega
      clear b2 l0 l1
      go_wp2
      go_ret2
      exact ⟨.slice none 0 0, by rw [HC.out]; rfl, by rw [HW.out]; exact Own.nil _ _, HW2.out⟩
    · rw [hm] at HV
      have hmi := mv_iff.1 hm
      obtain ⟨hb, hhb⟩ : ∃ q, fn.hasB xs f = q := ⟨_, rfl⟩
      have HX := hid (fun W (b : Below w.heap.size w W) => fn.hasQ xs f hb hhb v B W (HA.out W b) (by omega))
      rw [has_any] at hhb
      cases hb
      · have HW : Hid (amW xs f t = []) := hid (by rw [amW, amC, hp, hm, hhb]; rfl)
        have HC : Hid (amC xs f t = 7) := hid (by rw [amC, hp, hm, hhb]; rfl)
        clear hp hm ha hq HA hhb hmi
        generalize xs.length = n at *
        subst hv
        go_enter Try.func18, Try.ntmps18
        go_wp2_with fail
        refine HP.out.mono ?_
        rintro e w1 ⟨rfl, q1, hq1⟩
        have b1 : Below w.heap.size w w1 := by rw [hq1]; exact ⟨HB0.out.os, HB0.out.tape, HB0.out.output, HB0.out.size, HB0.out.block⟩
        have l0 : w1.cell? ⟨w.heap.size, 0, none⟩ = some (.int .i64 f) := by rw [hq1]; exact k0
        have l1 : w1.cell? ⟨w.heap.size, 1, none⟩ = some (.int .i64 t) := by rw [hq1]; exact k1
        have hs1 : w.heap.size < w1.heap.size := by rw [hq1]; show w.heap.size < (w.alloc _).heap.size; omega
        have HW1 := hid b1
        clear b1 k0 k1 hq1
        go_wp2_with fail
        refine (HV.out _).mono ?_
        rintro e w2 ⟨rfl, b2⟩
        have m0 := (b2.cell (p := ⟨w.heap.size, 0, none⟩) (by show w.heap.size < _; omega)).trans l0
        have m1 := (b2.cell (p := ⟨w.heap.size, 1, none⟩) (by show w.heap.size < _; omega)).trans l1
        have HW2 := hid (HW1.out.trans (b2.mono (by omega)))
        have hs2 : w.heap.size < w2.heap.size := by have := b2.size; omega
        clear b2 l0 l1
        go_wp2_with fail
        refine (HX.out _ HW2.out).mono ?_
        rintro e w3 ⟨rfl, rfl⟩
        go_wp2
        go_ret2
        exact ⟨.slice none 0 0, by rw [HC.out]; rfl, by rw [HW.out]; exact Own.nil _ _, HW2.out⟩
      · have HC0 : Hid (xs.any (psB f t) = false → amC xs f t = 0 ∧ amW xs f t = cpL (subL f t xs) xs.length) := hid (by
          intro h
          have hc : amC xs f t = 0 := by rw [amC, hp, hm, hhb, h]; rfl
          exact ⟨hc, by rw [amW, hc]; rfl⟩)
        have HC12 : Hid (xs.any (psB f t) = true → amC xs f t = 12 ∧ amW xs f t = []) := hid (by
          intro h
          have hc : amC xs f t = 12 := by rw [amC, hp, hm, hhb, h]; rfl
          exact ⟨hc, by rw [amW, hc]; rfl⟩)
        have hpos : 0 < xs.length := by
          rcases Nat.eq_zero_or_pos xs.length with h | h
          · rw [List.length_eq_zero_iff.1 h] at hhb; cases hhb
          · exact h
        have HBd := hid (fun k h => pl_bound hp k h)
        have HSa := hid (fun k h => sub_at f t xs k h)
        have HCk := hid (fun k h => cp_keep (subL f t xs) k h)
        have HCd := hid (fun k h0 h => cp_drop (subL f t xs) k h0 h)
        have HCl := hid (fun k h => cp_last (subL f t xs) k h)
        have HCn := hid (fun k => cp_len (subL f t xs) k)
        have e1 : IntKind.i64.wrap (f + 1) = f + 1 := IntWalk.i64_in _ (by omega)
        have e2 : IntKind.i64.wrap (t + 1) = t + 1 := IntWalk.i64_in _ (by omega)
        have e3 : IntKind.i64.wrap (f - 1) = f - 1 := IntWalk.i64_in _ (by omega)
        have hn8 := pl_len hp
        rcases ha with ⟨rfl, ao', cap', hv'⟩ | ⟨hp1, b, off, cap', hv', hbb, hc⟩
        · simp at hpos
        · rw [hv'] at hv HP HX
          simp only [Value.slice.injEq] at hv
          obtain ⟨rfl, _, rfl⟩ := hv
          have hv := hv'
          have HCx := hid hc
          clear hp hm hq HA hhb hv' hc hp1
          obtain ⟨n, hnn⟩ : ∃ n, n = xs.length := ⟨_, rfl⟩
          have HN := hid hnn
          rw [← hnn] at hv hn hpos HBd HSa hn8 HCx HP HX
          clear hnn
          generalize hLL : subL f t xs = L at *
          have HLL := hid hLL
          clear hLL
          subst hv
          go_enter Try.func18, Try.ntmps18
          go_wp2_with fail
          refine HP.out.mono ?_
          rintro e w1 ⟨rfl, q1, hq1⟩
          have b1 : Below w.heap.size w w1 := by rw [hq1]; exact ⟨HB0.out.os, HB0.out.tape, HB0.out.output, HB0.out.size, HB0.out.block⟩
          have l0 : w1.cell? ⟨w.heap.size, 0, none⟩ = some (.int .i64 f) := by rw [hq1]; exact k0
          have l1 : w1.cell? ⟨w.heap.size, 1, none⟩ = some (.int .i64 t) := by rw [hq1]; exact k1
          have hs1 : w.heap.size < w1.heap.size := by rw [hq1]; show w.heap.size < (w.alloc _).heap.size; omega
          have HW1 := hid b1
          clear b1 k0 k1 hq1
          go_wp2_with fail
          refine (HV.out _).mono ?_
          rintro e w2 ⟨rfl, b2⟩
          have m0 := (b2.cell (p := ⟨w.heap.size, 0, none⟩) (by show w.heap.size < _; omega)).trans l0
          have m1 := (b2.cell (p := ⟨w.heap.size, 1, none⟩) (by show w.heap.size < _; omega)).trans l1
          have HW2 := hid (HW1.out.trans (b2.mono (by omega)))
          have hs2 : w.heap.size < w2.heap.size := by have := b2.size; omega
          clear b2 l0 l1
          go_wp2_with fail
          refine (HX.out _ HW2.out).mono ?_
          rintro e w3 ⟨rfl, hw3⟩
          rw [hw3]
          clear hw3
          have HE := hid (fn.built1 w2)
          have HBE := hid (HW2.out.alloc (by omega) (.cells #[] 2))
          have c0 := ((Below.refl w2.heap.size w2).alloc (Nat.le_refl _) (.cells #[] 2)).cell (p := ⟨w.heap.size, 0, none⟩) hs2
          have HM0 := hid m0
          have HM1 := hid m1
          clear m0 m1
          go_wp2
          go_loopw [6, 7] (fun s i wr => ∃ (k : Nat) (z : Value), k ≤ n ∧ s = z ∧ i = .int .i64 k ∧ (∀ j, j < k → psB f t (xs.getD j 0) = false) ∧ Own wr w2.heap.size wr.heap.size z (cpL L k) ∧ Below w2.heap.size w2 wr) (fun _ i _ => n - (intOf i).toNat)
          case atStart => exact ⟨0, _, Nat.zero_le _, rfl, rfl, fun j hj => absurd hj (by omega), by rw [cp_zero]; simpa using HE.out, (Below.refl w2.heap.size w2).alloc (Nat.le_refl _) _⟩
          case round =>
            obtain ⟨k, z, hk, rfl, rfl, hg, hown, hbel⟩ := hrel
            have HG := hid hg
            have HO := hid hown
            have HB := hid hbel
            have hsz := hbel.size
            have m0 := (hbel.cell (p := ⟨w.heap.size, 0, none⟩) hs2).trans HM0.out
            have m1 := (hbel.cell (p := ⟨w.heap.size, 1, none⟩) hs2).trans HM1.out
            have hml := HCn.out k
            obtain ⟨az, cz, hzz⟩ := br.ints_val hown.ints
            clear hg hown
            by_cases hlt : k < n
            · have h1 : wr.cell? ⟨b, off + k, none⟩ = some (.int .i64 (xs.getD k 0)) := ((HW2.out.trans (hbel.mono HW2.out.size)).cell (p := ⟨b, off + k, none⟩) (by show b < _; omega)).trans (HCx.out k hlt)
              have hx23 := HBd.out k hlt
              have hLk := HSa.out k hlt
              obtain ⟨x, hxx⟩ : ∃ x, x = xs.getD k 0 := ⟨_, rfl⟩
              rw [← hxx] at h1 hx23 hLk
              have HX1 := hid hxx
              clear hxx hbel
              cases hps : psB f t x
              · have HNx := hid (show ∀ j, j < k + 1 → psB f t (xs.getD j 0) = false from fun j hj => by
                  rcases Nat.lt_or_ge j k with h | h
                  · exact HG.out j h
                  · obtain rfl : j = k := by omega
                    rw [← HX1.out]; exact hps)
                rcases Nat.eq_zero_or_pos k with hk0 | hk0
                · have HKp := hid (HCk.out k (.inl hk0))
                  rw [hLk] at HKp
                  have hm0 : (cpL L k).length = 0 := by rw [hk0, cp_zero]; rfl
                  rw [hm0] at hzz
                  rw [hm0] at hml
                  clear hLk hk0
                  generalize cpL L k = M at *
                  subst hzz
                  have HM0' := hid hm0
                  clear hm0
                  have HML : M.length = 0 := HM0'.out
                  have HMl := hid HML
                  clear HML HM0'
                  by_cases hxf : x = f
                  · rw [show sbI f t x = t from if_pos hxf] at HKp
                    have hxfb : (x == f) = true := by simpa using hxf
                    clear hps hxf
                    go_wp2_with (at_builtin; refine wp_append rfl _ _ rfl w2.heap.size wr.heap.size _ M t HO.out rfl rfl hsz (by have := HMl.out; omega) ?_; intro v9 w9 hown1 hchg1 hsz1; have HO1 := hid hown1; have HB1 := hid (HB.out.trans (hchg1.below (Nat.le_refl _) hsz)); clear hown1 hchg1)
                    go_roundw
                    case rel => exact ⟨k + 1, _, by omega, rfl, by go_num, HNx.out, by rw [HKp.out]; exact HO1.out, HB1.out⟩
                    case measure => simp [intOf]; omega
                  · rw [show sbI f t x = x from if_neg hxf] at HKp
                    have hxfb : (x == f) = false := beq_eq_false_iff_ne.2 hxf
                    clear hxf
                    by_cases hft : f < t
                    · have hd1 : decide (f < t) = true := decide_eq_true hft
                      have hd2 : decide (t < f) = false := decide_eq_false (by omega)
                      rw [psB, if_pos hft] at hps
                      have HI := hid (specInR x (f + 1) t false hps)
                      clear hps hft
                      go_wp2_with (first | (go_at_call 35; refine (HI.out _).mono ?_; rintro e w10 ⟨rfl, rfl⟩) | (at_builtin; refine wp_append rfl _ _ rfl w2.heap.size wr.heap.size _ M x HO.out rfl rfl hsz (by have := HMl.out; omega) ?_; intro v9 w9 hown1 hchg1 hsz1; have HO1 := hid hown1; have HB1 := hid (HB.out.trans (hchg1.below (Nat.le_refl _) hsz)); clear hown1 hchg1))
                      go_roundw
                      case rel => exact ⟨k + 1, _, by omega, rfl, by go_num, HNx.out, by rw [HKp.out]; exact HO1.out, HB1.out⟩
                      case measure => simp [intOf]; omega
                    · have hd1 : decide (f < t) = false := decide_eq_false hft
                      have hd2 : decide (t < f) = true := decide_eq_true (by omega)
                      rw [psB, if_neg hft] at hps
                      have HI := hid (specInR x (t + 1) (f - 1) false hps)
                      clear hps hft
                      go_wp2_with (first | (go_at_call 35; refine (HI.out _).mono ?_; rintro e w10 ⟨rfl, rfl⟩) | (at_builtin; refine wp_append rfl _ _ rfl w2.heap.size wr.heap.size _ M x HO.out rfl rfl hsz (by have := HMl.out; omega) ?_; intro v9 w9 hown1 hchg1 hsz1; have HO1 := hid hown1; have HB1 := hid (HB.out.trans (hchg1.below (Nat.le_refl _) hsz)); clear hown1 hchg1))
                      go_roundw
                      case rel => exact ⟨k + 1, _, by omega, rfl, by go_num, HNx.out, by rw [HKp.out]; exact HO1.out, HB1.out⟩
                      case measure => simp [intOf]; omega
                · have hlast := HCl.out k hk0
                  obtain ⟨p, hp⟩ : ∃ p, p = L.getD (k - 1) 0 := ⟨_, rfl⟩
                  rw [← hp] at hlast
                  by_cases hkp : L.getD k 0 = p
                  · have HKp := hid (HCd.out k hk0 (by rw [hkp, hp]))
                    rw [hLk] at hkp
                    clear hLk hp
                    generalize cpL L k = M at *
                    obtain ⟨g, c, hzz2, hg1, hg2⟩ := fn.own_slice HO.out hlast.1
                    obtain ⟨m, hm⟩ : ∃ m, M.length = m + 1 := ⟨M.length - 1, by omega⟩
                    have HMl := hid hm
                    rw [hm] at hzz2
                    subst hzz2
                    clear hzz
                    have hcl := (HO.out.at' (M.length - 1) (by omega)).1
                    rw [hlast.2] at hcl
                    have em : IntKind.i64.wrap (((m + 1 : Nat) : Int) - 1) = (m : Int) := by rw [show ((m + 1 : Nat) : Int) - 1 = (m : Int) by omega]; exact IntWalk.i64_in _ (by omega)
                    rw [hm, Nat.add_sub_cancel] at hcl
                    have ez : (((m + 1 : Nat) : Int) == 0) = false := beq_eq_false_iff_ne.2 (by omega)
                    have hmm : m < m + 1 := by omega
                    rw [hm] at hml
                    clear hm hlast
                    by_cases hxf : x = f
                    · rw [show sbI f t x = t from if_pos hxf] at hkp
                      have hxfb : (x == f) = true := by simpa using hxf
                      have hne : (p != t) = false := by simpa using hkp.symm
                      clear hkp
                      clear hps hxf
                      go_wp2
                      go_roundw
                      case rel => exact ⟨k + 1, _, by omega, rfl, by go_num, HNx.out, by rw [HKp.out]; exact HO.out, HB.out⟩
                      case measure => simp [intOf]; omega
                    · rw [show sbI f t x = x from if_neg hxf] at hkp
                      have hxfb : (x == f) = false := beq_eq_false_iff_ne.2 hxf
                      have hne : (p != x) = false := by simpa using hkp.symm
                      clear hkp
                      clear hxf
                      by_cases hft : f < t
                      · have hd1 : decide (f < t) = true := decide_eq_true hft
                        have hd2 : decide (t < f) = false := decide_eq_false (by omega)
                        rw [psB, if_pos hft] at hps
                        have HI := hid (specInR x (f + 1) t false hps)
                        clear hps hft
                        go_wp2_with (go_at_call 35; refine (HI.out _).mono ?_; rintro e w10 ⟨rfl, rfl⟩)
                        go_roundw
                        case rel => exact ⟨k + 1, _, by omega, rfl, by go_num, HNx.out, by rw [HKp.out]; exact HO.out, HB.out⟩
                        case measure => simp [intOf]; omega
                      · have hd1 : decide (f < t) = false := decide_eq_false hft
                        have hd2 : decide (t < f) = true := decide_eq_true (by omega)
                        rw [psB, if_neg hft] at hps
                        have HI := hid (specInR x (t + 1) (f - 1) false hps)
                        clear hps hft
                        go_wp2_with (go_at_call 35; refine (HI.out _).mono ?_; rintro e w10 ⟨rfl, rfl⟩)
                        go_roundw
                        case rel => exact ⟨k + 1, _, by omega, rfl, by go_num, HNx.out, by rw [HKp.out]; exact HO.out, HB.out⟩
                        case measure => simp [intOf]; omega
                  · have HKp := hid (HCk.out k (.inr (by rw [← hp]; exact hkp)))
                    rw [hLk] at HKp hkp
                    clear hLk hp
                    generalize cpL L k = M at *
                    obtain ⟨g, c, hzz2, hg1, hg2⟩ := fn.own_slice HO.out hlast.1
                    obtain ⟨m, hm⟩ : ∃ m, M.length = m + 1 := ⟨M.length - 1, by omega⟩
                    have HMl := hid hm
                    rw [hm] at hzz2
                    subst hzz2
                    clear hzz
                    have hcl := (HO.out.at' (M.length - 1) (by omega)).1
                    rw [hlast.2] at hcl
                    have em : IntKind.i64.wrap (((m + 1 : Nat) : Int) - 1) = (m : Int) := by rw [show ((m + 1 : Nat) : Int) - 1 = (m : Int) by omega]; exact IntWalk.i64_in _ (by omega)
                    rw [hm, Nat.add_sub_cancel] at hcl
                    have ez : (((m + 1 : Nat) : Int) == 0) = false := beq_eq_false_iff_ne.2 (by omega)
                    have hmm : m < m + 1 := by omega
                    rw [hm] at hml
                    clear hm hlast
                    by_cases hxf : x = f
                    · rw [show sbI f t x = t from if_pos hxf] at HKp hkp
                      have hxfb : (x == f) = true := by simpa using hxf
                      have hne : (p != t) = true := by simpa using fun h => hkp h.symm
                      clear hps hxf
                      go_wp2_with (at_builtin; refine wp_append rfl _ _ rfl w2.heap.size wr.heap.size _ M t HO.out rfl rfl hsz (by have := HMl.out; omega) ?_; intro v9 w9 hown1 hchg1 hsz1; have HO1 := hid hown1; have HB1 := hid (HB.out.trans (hchg1.below (Nat.le_refl _) hsz)); clear hown1 hchg1)
                      go_roundw
                      case rel => exact ⟨k + 1, _, by omega, rfl, by go_num, HNx.out, by rw [HKp.out]; exact HO1.out, HB1.out⟩
                      case measure => simp [intOf]; omega
                    · rw [show sbI f t x = x from if_neg hxf] at HKp hkp
                      have hxfb : (x == f) = false := beq_eq_false_iff_ne.2 hxf
                      have hne : (p != x) = true := by simpa using fun h => hkp h.symm
                      clear hxf
                      by_cases hft : f < t
                      · have hd1 : decide (f < t) = true := decide_eq_true hft
                        have hd2 : decide (t < f) = false := decide_eq_false (by omega)
                        rw [psB, if_pos hft] at hps
                        have HI := hid (specInR x (f + 1) t false hps)
                        clear hps hft
                        go_wp2_with (first | (go_at_call 35; refine (HI.out _).mono ?_; rintro e w10 ⟨rfl, rfl⟩) | (at_builtin; refine wp_append rfl _ _ rfl w2.heap.size wr.heap.size _ M x HO.out rfl rfl hsz (by have := HMl.out; omega) ?_; intro v9 w9 hown1 hchg1 hsz1; have HO1 := hid hown1; have HB1 := hid (HB.out.trans (hchg1.below (Nat.le_refl _) hsz)); clear hown1 hchg1))
                        go_roundw
                        case rel => exact ⟨k + 1, _, by omega, rfl, by go_num, HNx.out, by rw [HKp.out]; exact HO1.out, HB1.out⟩
                        case measure => simp [intOf]; omega
                      · have hd1 : decide (f < t) = false := decide_eq_false hft
                        have hd2 : decide (t < f) = true := decide_eq_true (by omega)
                        rw [psB, if_neg hft] at hps
                        have HI := hid (specInR x (t + 1) (f - 1) false hps)
                        clear hps hft
                        go_wp2_with (first | (go_at_call 35; refine (HI.out _).mono ?_; rintro e w10 ⟨rfl, rfl⟩) | (at_builtin; refine wp_append rfl _ _ rfl w2.heap.size wr.heap.size _ M x HO.out rfl rfl hsz (by have := HMl.out; omega) ?_; intro v9 w9 hown1 hchg1 hsz1; have HO1 := hid hown1; have HB1 := hid (HB.out.trans (hchg1.below (Nat.le_refl _) hsz)); clear hown1 hchg1))
                        go_roundw
                        case rel => exact ⟨k + 1, _, by omega, rfl, by go_num, HNx.out, by rw [HKp.out]; exact HO1.out, HB1.out⟩
                        case measure => simp [intOf]; omega
              · obtain ⟨hC, hW⟩ := HC12.out (any_at k (by rw [← HN.out]; exact hlt) (by rw [← HX1.out]; exact hps))
                have HC := hid hC
                have HW := hid hW
                have HBr := hid (HW2.out.trans (HB.out.mono HW2.out.size))
                have hxf : ¬ x = f := fun h => by rw [h, ps_self] at hps; cases hps
                have hxfb : (x == f) = false := beq_eq_false_iff_ne.2 hxf
                clear hC hW hxf
                by_cases hft : f < t
                · have hd1 : decide (f < t) = true := decide_eq_true hft
                  rw [psB, if_pos hft] at hps
                  have HI := hid (specInR x (f + 1) t true hps)
                  clear hps hft
                  go_wp2_with (go_at_call 35; refine (HI.out _).mono ?_; rintro e w9 ⟨rfl, rfl⟩)
                  go_ret2
                  exact ⟨.slice none 0 0, by rw [HC.out]; rfl, by rw [HW.out]; exact Own.nil _ _, HBr.out⟩
                · have hd1 : decide (f < t) = false := decide_eq_false hft
                  have hd2 : decide (t < f) = true := decide_eq_true (by omega)
                  rw [psB, if_neg hft] at hps
                  have HI := hid (specInR x (t + 1) (f - 1) true hps)
                  clear hps hft
                  go_wp2_with (go_at_call 35; refine (HI.out _).mono ?_; rintro e w9 ⟨rfl, rfl⟩)
                  go_ret2
                  exact ⟨.slice none 0 0, by rw [HC.out]; rfl, by rw [HW.out]; exact Own.nil _ _, HBr.out⟩
            · obtain rfl : k = n := by omega
              obtain ⟨hC, hW⟩ := HC0.out (any_upto_false (fun j hj => HG.out j (by rw [HN.out]; exact hj)))
              have HC := hid hC
              have HW := hid (hW.trans (by rw [← HN.out]))
              have HBr := hid (HW2.out.trans (HB.out.mono HW2.out.size))
              clear hC hW hzz
              go_wp2
              go_ret2
              exact ⟨_, by rw [HC.out]; rfl, by rw [HW.out]; exact HO.out.lo HW2.out.size, HBr.out⟩
end Go.Proofs.Ytbbnheiibkcgiaa.mo
