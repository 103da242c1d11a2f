/-
  ApplyMove of the program.
-/
import Derived.Test.YtbbnheiibkcgiaaAm1
import Derived.Test.YtbbnheiibkcgiaaL5
import Derived.OwnWalk
namespace Go.Proofs.Ytbbnheiibkcgiaa.mo
open Go.RowKit Go.Sort Go.Proofs.Ytbbnheiibkcgiaa.sl Go.Proofs.Ytbbnheiibkcgiaa.pm
set_option linter.unusedVariables false

theorem nilok_pos {w : World} {B : Nat} {v : Value} {xs : List Int} (h : Ints w B v xs) (h0 : 0 < xs.length) : fn.NilOk v := by
  rcases h with ⟨rfl, ao, cap, rfl⟩ | ⟨hp, b, off, cap, rfl, hb, hc⟩
  · simp at h0
  · intro n c hv
    cases hv

set_option maxHeartbeats 4000000 in
theorem implAM (xs : List Int) (f t : Int) (v : Value) (B : Nat) (w : World) (ha : Ints w B v xs) (hB : B ≤ w.heap.size) (hq : l5.Small xs) :
    Calls Try.prog 20 #[v, .agg #[.int .i64 f, .int .i64 t]] w fun e w' => ∃ v', e = .returned (.tuple #[v', .int .i64 (amC xs f t)]) ∧ Own w' w.heap.size w'.heap.size v' (amW xs f t) ∧ Below w.heap.size w w' := by
  have b0 := (Below.refl w.heap.size w).alloc (Nat.le_refl _) (.cells #[.int .i64 f, .int .i64 t] 33)
  have k0 : (w.alloc (.cells #[.int .i64 f, .int .i64 t] 33)).cell? ⟨w.heap.size, 0, none⟩ = some (.int .i64 f) := World.cell?_alloc_at _ _ _ _ rfl
  have k1 : (w.alloc (.cells #[.int .i64 f, .int .i64 t] 33)).cell? ⟨w.heap.size, 1, none⟩ = some (.int .i64 t) := World.cell?_alloc_at _ _ _ _ rfl
  have hs0 : (w.alloc (.cells #[.int .i64 f, .int .i64 t] 33)).heap.size = w.heap.size + 1 := by simp
  have hn : xs.length ≤ 1048576 := by have := hq.len; omega
  have HP := hid (implVPl xs v B _ (ha.chg (Chg.ofBelow (lo := 0) b0) (.inr (Nat.zero_le _))) (Nat.le_trans hB b0.size) (by omega))
  have HV := hid (isVal f t)
  have HA := hid (fun W (b : Below w.heap.size w W) => ha.chg (Chg.ofBelow (lo := 0) b) (.inr (Nat.zero_le _)))
  have HB0 := hid b0
  clear b0
  obtain ⟨ao, cap, hv⟩ := br.ints_val ha
  cases hp : plB xs
  · have HW : Hid (amW xs f t = []) := hid (by rw [amW, amC, hp]; rfl)
    have HC : Hid (amC xs f t = 1) := hid (by rw [amC, hp]; rfl)
    rw [hp] at HP
    clear hp ha hq k0 k1 HA
    generalize xs.length = n at *
    subst hv
    go_enter Try.func20, Try.ntmps20
    go_wp2_with fail
    refine HP.out.mono ?_
    rintro e w1 ⟨rfl, b1⟩
    have HW1 := hid (HB0.out.trans (b1.mono (by omega)))
    clear b1
    go_wp2
    go_ret2
    exact ⟨.slice none 0 0, by rw [HC.out]; rfl, by rw [HW.out]; exact Own.nil _ _, HW1.out⟩
  · rw [hp] at HP
    cases hm : mvB f t
    · have HW : Hid (amW xs f t = []) := hid (by rw [amW, amC, hp, hm]; rfl)
      have HC : Hid (amC xs f t = 1) := hid (by rw [amC, hp, hm]; rfl)
      rw [hm] at HV
      clear hp hm ha hq HA
      generalize xs.length = n at *
      subst hv
      go_enter Try.func20, Try.ntmps20
      go_wp2_with fail
      refine HP.out.mono ?_
      rintro e w1 ⟨rfl, b1⟩
      have l0 := (b1.cell (p := ⟨w.heap.size, 0, none⟩) (by show w.heap.size < _; omega)).trans k0
      have l1 := (b1.cell (p := ⟨w.heap.size, 1, none⟩) (by show w.heap.size < _; omega)).trans k1
      have HW1 := hid (HB0.out.trans (b1.mono (by omega)))
      have hs1 : w.heap.size < w1.heap.size := by have := b1.size; omega
      clear b1 k0 k1
      go_wp2_with fail
      refine (HV.out _).mono ?_
      rintro e w2 ⟨rfl, b2⟩
      have m0 := (b2.cell (p := ⟨w.heap.size, 0, none⟩) (by show w.heap.size < _; omega)).trans l0
      have m1 := (b2.cell (p := ⟨w.heap.size, 1, none⟩) (by show w.heap.size < _; omega)).trans l1
      have HW2 := hid (HW1.out.trans (b2.mono (by omega)))
      have hs2 : w.heap.size < w2.heap.size := by have := b2.size; omega
      clear b2 l0 l1
      go_wp2
      go_ret2
      exact ⟨.slice none 0 0, by rw [HC.out]; rfl, by rw [HW.out]; exact Own.nil _ _, HW2.out⟩
    · rw [hm] at HV
      have hmi := mv_iff.1 hm
      have HX := hid (fun W (b : Below w.heap.size w W) => indexQ xs f v B W (HA.out W b) (by omega))
      rcases ix_cases xs f (by omega) with ⟨hi, hix⟩ | ⟨hi, k, hix, hk, hkf⟩
      · have HW : Hid (amW xs f t = []) := hid (by rw [amW, amC, hp, hm, hi]; rfl)
        have HC : Hid (amC xs f t = 7) := hid (by rw [amC, hp, hm, hi]; rfl)
        rw [hix] at HX
        clear hp hm ha hq HA hi hix hmi
        generalize xs.length = n at *
        subst hv
        go_enter Try.func20, Try.ntmps20
        go_wp2_with fail
        refine HP.out.mono ?_
        rintro e w1 ⟨rfl, b1⟩
        have l0 := (b1.cell (p := ⟨w.heap.size, 0, none⟩) (by show w.heap.size < _; omega)).trans k0
        have l1 := (b1.cell (p := ⟨w.heap.size, 1, none⟩) (by show w.heap.size < _; omega)).trans k1
        have HW1 := hid (HB0.out.trans (b1.mono (by omega)))
        have hs1 : w.heap.size < w1.heap.size := by have := b1.size; omega
        clear b1 k0 k1
        go_wp2_with fail
        refine (HV.out _).mono ?_
        rintro e w2 ⟨rfl, b2⟩
        have m0 := (b2.cell (p := ⟨w.heap.size, 0, none⟩) (by show w.heap.size < _; omega)).trans l0
        have m1 := (b2.cell (p := ⟨w.heap.size, 1, none⟩) (by show w.heap.size < _; omega)).trans l1
        have HW2 := hid (HW1.out.trans (b2.mono (by omega)))
        have hs2 : w.heap.size < w2.heap.size := by have := b2.size; omega
        clear b2 l0 l1
        go_wp2_with fail
        refine (HX.out _ HW2.out).mono ?_
        rintro e w3 ⟨rfl, rfl⟩
        go_wp2
        go_ret2
        exact ⟨.slice none 0 0, by rw [HC.out]; rfl, by rw [HW.out]; exact Own.nil _ _, HW2.out⟩
      · have HCf := hid (fun W (b : Below w.heap.size w W) => br.contFunc (psB f t) 46 (.agg #[.int .i64 f, .int .i64 t]) xs v B W (HA.out W b) (Nat.le_trans hB b.size) (by omega) (enters_of Try.func46 (by kernel_rfl) rfl) (passes f t ⟨hmi.1, hmi.2.1⟩))
        have hnil := nilok_pos ha (by omega)
        have HCl := hid (fun W (b : Below w.heap.size w W) => fn.clone xs v B W (HA.out W b) hnil (by omega))
        have hd : decide ((k : Int) < 0) = false := decide_eq_false (by omega)
        rw [hix] at HX
        cases hps : xs.any (psB f t)
        · have HC : Hid (amC xs f t = 0) := hid (by rw [amC, hp, hm, hi, hps]; rfl)
          have HW : Hid (amW xs f t = cpL (subL f t xs) xs.length) := hid (by rw [amW, HC.out]; rfl)
          have HS : Hid (xs.set k t = subL f t xs) := hid (set_sub hp f t k hk hkf)
          have HCo := hid (fun (u : Value) (lo hi : Nat) (W : World) (o : Own W lo hi u (xs.set k t)) => cp.comp (xs.set k t) u lo hi W o (by simp; omega))
          rw [hps] at HCf
          have HXS := hid (show (xs.set k t).length = xs.length by simp)
          have HOs := hid (fun (W : World) (u : Value) (lo hi : Nat) (o : Own W lo hi u xs) => fn.own_slice o (by omega))
          clear hp hm ha hq HA hi hix hmi hps hkf hnil
          obtain ⟨n, hnn⟩ : ∃ n, n = xs.length := ⟨_, rfl⟩
          have HN := hid hnn
          rw [← hnn] at hv hn hk
          clear hnn
          subst hv
          go_enter Try.func20, Try.ntmps20
          go_wp2_with fail
          refine HP.out.mono ?_
          rintro e w1 ⟨rfl, b1⟩
          have l0 := (b1.cell (p := ⟨w.heap.size, 0, none⟩) (by show w.heap.size < _; omega)).trans k0
          have l1 := (b1.cell (p := ⟨w.heap.size, 1, none⟩) (by show w.heap.size < _; omega)).trans k1
          have HW1 := hid (HB0.out.trans (b1.mono (by omega)))
          have hs1 : w.heap.size < w1.heap.size := by have := b1.size; omega
          clear b1 k0 k1
          go_wp2_with fail
          refine (HV.out _).mono ?_
          rintro e w2 ⟨rfl, b2⟩
          have m0 := (b2.cell (p := ⟨w.heap.size, 0, none⟩) (by show w.heap.size < _; omega)).trans l0
          have m1 := (b2.cell (p := ⟨w.heap.size, 1, none⟩) (by show w.heap.size < _; omega)).trans l1
          have HW2 := hid (HW1.out.trans (b2.mono (by omega)))
          have hs2 : w.heap.size < w2.heap.size := by have := b2.size; omega
          clear b2 l0 l1
          go_wp2_with fail
          refine (HX.out _ HW2.out).mono ?_
          rintro e w3 ⟨rfl, rfl⟩
          go_wp2_with fail
          refine (HCf.out _ ?_).mono ?_
          · exact HW2.out
          rintro e w4 ⟨rfl, b4⟩
          have n0 := (b4.cell (p := ⟨w.heap.size, 0, none⟩) (by show w.heap.size < _; omega)).trans m0
          have n1 := (b4.cell (p := ⟨w.heap.size, 1, none⟩) (by show w.heap.size < _; omega)).trans m1
          have HW4 := hid (HW2.out.trans (b4.mono (by omega)))
          have hs4 : w.heap.size < w4.heap.size := by have := b4.size; omega
          clear b4 m0 m1
          go_wp2_with fail
          refine (HCl.out _ HW4.out).mono ?_
          rintro e w5 ⟨v5, rfl, o5, b5⟩
          obtain ⟨g, c5, rfl, hg1, hg2⟩ := HOs.out _ _ _ _ o5
          have r1 := (b5.cell (p := ⟨w.heap.size, 1, none⟩) (by show w.heap.size < _; omega)).trans n1
          have HW5 := hid (HW4.out.trans (b5.mono (by omega)))
          have hst := o5.set k t
          have hat := o5.at' k (by rw [← HN.out]; exact hk)
          have hlen := HN.out
          have f5 := hat.2
          have c5' := hat.1
          have HO5 := hid hst.1
          have HC5 := hid hst.2
          clear b5 n0 n1 o5 hst hat
          rw [← HN.out] at HO5 ⊢
          clear hlen
          go_wp2_with fail
          refine (HCo.out _ _ _ _ HO5.out).mono ?_
          rintro e w6 ⟨v6, rfl, o6, c6⟩
          go_wp2
          go_ret2
          have hc := HC5.out.trans c6
          rw [HXS.out, HS.out, HN.out.symm] at o6
          refine ⟨v6, by rw [HC.out]; rfl, ?_, ?_⟩
          · rw [HW.out, ← HN.out]
            have h6 := hc.size
            exact ⟨(o6.lo (by omega)).1, fun b hb => Nat.lt_of_lt_of_le (o6.2.1 b hb) h6, Nat.le_refl _⟩
          · exact HW5.out.trans (hc.below (by omega) (by have := HW5.out.size; omega))
        · have HC : Hid (amC xs f t = 12) := hid (by rw [amC, hp, hm, hi, hps]; rfl)
          have HW : Hid (amW xs f t = []) := hid (by rw [amW, HC.out]; rfl)
          rw [hps] at HCf
          clear hp hm ha hq HA hi hix hmi hps hkf hnil HCl
          generalize xs.length = n at *
          subst hv
          go_enter Try.func20, Try.ntmps20
          go_wp2_with fail
          refine HP.out.mono ?_
          rintro e w1 ⟨rfl, b1⟩
          have l0 := (b1.cell (p := ⟨w.heap.size, 0, none⟩) (by show w.heap.size < _; omega)).trans k0
          have l1 := (b1.cell (p := ⟨w.heap.size, 1, none⟩) (by show w.heap.size < _; omega)).trans k1
          have HW1 := hid (HB0.out.trans (b1.mono (by omega)))
          have hs1 : w.heap.size < w1.heap.size := by have := b1.size; omega
          clear b1 k0 k1
          go_wp2_with fail
          refine (HV.out _).mono ?_
          rintro e w2 ⟨rfl, b2⟩
          have m0 := (b2.cell (p := ⟨w.heap.size, 0, none⟩) (by show w.heap.size < _; omega)).trans l0
          have m1 := (b2.cell (p := ⟨w.heap.size, 1, none⟩) (by show w.heap.size < _; omega)).trans l1
          have HW2 := hid (HW1.out.trans (b2.mono (by omega)))
          have hs2 : w.heap.size < w2.heap.size := by have := b2.size; omega
          clear b2 l0 l1
          go_wp2_with fail
          refine (HX.out _ HW2.out).mono ?_
          rintro e w3 ⟨rfl, rfl⟩
          go_wp2_with fail
          refine (HCf.out _ ?_).mono ?_
          · exact HW2.out
          rintro e w4 ⟨rfl, b4⟩
          have HW4 := hid (HW2.out.trans (b4.mono (by omega)))
          clear b4
          go_wp2
          go_ret2
          exact ⟨.slice none 0 0, by rw [HC.out]; rfl, by rw [HW.out]; exact Own.nil _ _, HW4.out⟩
end Go.Proofs.Ytbbnheiibkcgiaa.mo
