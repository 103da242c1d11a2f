/-
  PackLetters of the model: the groups, and the law's form.
-/
import Derived.Test.YtiacfejileeieaaPks
import Derived.BigQuiet
namespace Go.Proofs.Ytiacfejileeieaa.pk
open Go.RowKit Go.Proofs.Ytiacfejileeieaa.sl Go.Proofs.Ytiacfejileeieaa.pm Go.Proofs.Ytiacfejileeieaa.br Go.Proofs.Ytiacfejileeieaa.bw Go.Proofs.Ytiacfejileeieaa.wk
set_option linter.unusedVariables false
set_option maxRecDepth 100000

set_option maxHeartbeats 4000000 in
theorem specPack (xs : List Int) (v : Value) (B : Nat) (w : World) (ha : Ints w B v xs) (hB : B ≤ w.heap.size) (hn : xs.length ≤ 40) (hr : ∀ j, j < xs.length → Rng (xs.getD j 0)) :
    Calls Try.prog 67 #[v] w fun e w' => ∃ v' vals', e = .returned v' ∧ SR w' w.heap.size v' vals' (pkT xs xs.length) ∧ Below w.heap.size w w' := by
  have HOk := hid (okL_T xs)
  have HRr := hid (okR_T hr)
  have HR0 := hid hr
  have HS0 := hid (SR.made w w.heap.size (Nat.le_refl _))
  rcases ha with ⟨rfl, ao, cap, rfl⟩ | ⟨hp, b, off, cap, rfl, hbb, hc⟩
  · go_enter Try.func67, Try.ntmps67
    go_wp2
    refine wp_loop_rounds 1 ?_
    rw [rounds_succ]
    go_wp2
    go_ret
    exact ⟨_, _, rfl, HS0.out, (Below.refl _ _).alloc (Nat.le_refl _) _⟩
  · obtain ⟨n, hnn⟩ : ∃ n, n = xs.length := ⟨_, rfl⟩
    rw [← hnn] at hp hc hn ⊢
    have HN := hid hnn
    have HC := hid hc
    clear hnn hc hr
    go_enter Try.func67, Try.ntmps67
    go_wp2
    go_loopw [3, 4] (fun s i wr => ∃ k : Nat, k ≤ n ∧ i = .int .i64 k ∧ (∃ vals, SR wr w.heap.size s vals (pkT xs k)) ∧ Below w.heap.size w wr) (fun _ i _ => n - (intOf i).toNat)
    case atStart => exact ⟨0, Nat.zero_le _, rfl, ⟨_, HS0.out⟩, (Below.refl _ _).alloc (Nat.le_refl _) _⟩
    case round =>
      obtain ⟨k, hk, rfl, ⟨vals, hsr⟩, hbel⟩ := hrel
      have HS := hid hsr
      have HB := hid hbel
      have hsz := hbel.size
      clear hbel HS0
      by_cases hlt : k < n
      · have h1 : wr.cell? ⟨b, off + k, none⟩ = some (.int .i64 (xs.getD k 0)) := (HB.out.cell (p := ⟨b, off + k, none⟩) (by show b < _; omega)).trans (HC.out k hlt)
        have HX := hid (pkT_succ xs k (by rw [← HN.out]; exact hlt))
        have hxr := HR0.out k (by rw [← HN.out]; exact hlt)
        have hok := HOk.out k (by rw [← HN.out]; exact hk)
        have hrr := HRr.out k (by rw [← HN.out]; exact hk)
        obtain ⟨ao, c, hv⟩ := hsr.val
        clear hsr
        obtain ⟨L2, hL2⟩ : ∃ L, L = pkT xs (k + 1) := ⟨_, rfl⟩
        rw [← hL2] at HX
        have HL2 := hid hL2
        clear hL2
        generalize pkT xs k = L at *
        generalize xs.getD k 0 = x at *
        have hlen := hok.1
        have bA0 := (Below.refl wr.heap.size wr).alloc (Nat.le_refl _) (.cells #[.int .i64 x] 2)
        by_cases h0 : L.length = 0
        · have hq : newQ L x = true := by simp [newQ, h0]
          have HPk : Hid (pk L x = L ++ [[x]]) := hid (by rw [pk, if_pos hq])
          rw [h0] at hv
          subst hv
          clear hok hrr hxr hq bA0
          have hl40 : L.length ≤ 1048576 := by omega
          go_wp2
          go_quiet (fail)
          have HS1 := hid (HS.out.below (bdrewN (Below.refl _ _) nq))
          have HB1 : Hid (Below w.heap.size w (wr.drewN nq)) := hid (bdrewN HB.out nq)
          have h1' : (wr.drewN nq).cell? ⟨b, off + k, none⟩ = some (.int .i64 x) := h1
          have hsz' : w.heap.size ≤ (wr.drewN nq).heap.size := hsz
          generalize wr.drewN nq = wq at *
          clear h1 hsz HS HB
          go_wp2_with (at_builtin; refine wp_appR rfl _ _ rfl w.heap.size _ (.slice (some ⟨wq.heap.size, 0, none⟩) 1 1) vals L [x] HS1.out ((Below.refl _ _).alloc (Nat.le_refl _) _) (own_one wq x) rfl rfl (Eq.trans (b := Value.slice (some ⟨wq.heap.size + 1, 0, none⟩) 1 1) rfl (by simp)) hsz' hl40 ?_; intro v' w' s1 b1 g1 _; have HS2 := hid s1; have HB2 := hid ((HB1.out.alloc hsz' _).trans b1); clear s1 b1 g1)
          go_roundw
          case rel => exact ⟨k + 1, by omega, by go_num, ⟨_, by rw [← HL2.out, HX.out, HPk.out]; exact HS2.out⟩, HB2.out⟩
          case measure => simp [intOf]; omega
        · have hkl : L.length - 1 < L.length := by omega
          obtain ⟨g, c', hv', hg, hcl, hin⟩ := SR_at HS.out (L.length - 1) hkl
          have hin' : Ints wr wr.heap.size (vals.getD (L.length - 1) (.bool false)) (lastL L) := hin
          have hokj := hok.2 (L.length - 1) hkl
          have hrl : (lastL L).length ≤ 40 ∧ 0 < (lastL L).length := ⟨by unfold lastL; omega, hokj.1⟩
          have HT := hid (fun W (h : Ints W wr.heap.size (vals.getD (L.length - 1) (.bool false)) (lastL L)) => specTouch (lastL L) x _ _ W h (by omega) (lastL_mem hrr) hxr)
          have hqq : newQ L x = tch (lastL L) x := by simp [newQ, h0]
          rw [← hqq] at HT
          obtain ⟨y, hy⟩ : ∃ y, y = vals.getD (L.length - 1) (.bool false) := ⟨_, rfl⟩
          obtain ⟨ya, yc, hyv⟩ := ints_val hin'
          rw [← hy] at hcl HT hyv hin'
          have HY := hid hy
          have HIn := hid hin'
          have hl40 : L.length ≤ 1048576 := by omega
          obtain ⟨m, hm⟩ : ∃ m, m = L.length := ⟨_, rfl⟩
          have hm1 : (((m : Nat) : Int) - 1) = ((m - 1 : Nat) : Int) := by omega
          have hm2 : IntKind.i64.wrap ((m - 1 : Nat) : Int) = ((m - 1 : Nat) : Int) := IntWalk.i64_in _ (by omega)
          have hm3 : decide (((m - 1 : Nat) : Int) < ((m : Nat) : Int)) = true := decide_eq_true (by omega)
          have hm4 : ((m - 1 : Nat) : Int) < ((m : Nat) : Int) := by omega
          have hm5 : m - 1 < m := by omega
          have hz : (((m : Nat) : Int) == 0) = false := by simp; omega
          rw [← hm] at hv' hcl hlen h0
          have HM := hid hm
          obtain ⟨r, hr0⟩ : ∃ r, r = (lastL L).length := ⟨_, rfl⟩
          rw [← hr0] at hyv hrl
          have HR := hid hr0
          clear hr0 hm hy hin hin' hokj hqq hok hrr hxr hv
          subst hv' hyv
          have HH := hid hlen
          cases hq : newQ L x
          · have HPk : Hid (pk L x = L.set (L.length - 1) (lastL L ++ [x])) := hid (by rw [pk, if_neg (by rw [hq]; simp)])
            rw [hq] at HT
            clear hq
            go_wp2
            go_quiet ((go_at_call 72; exact Calls.quiet_of_same (HT.out _ HIn.out)))
            have HS1 := hid (HS.out.below (bdrewN (Below.refl _ _) nq))
            have HB1 : Hid (Below w.heap.size w (wr.drewN nq)) := hid (bdrewN HB.out nq)
            have h1' : (wr.drewN nq).cell? ⟨b, off + k, none⟩ = some (.int .i64 x) := h1
            have hsz' : w.heap.size ≤ (wr.drewN nq).heap.size := hsz
            have hcl' : (wr.drewN nq).cell? ⟨g, m - 1, none⟩ = some (.slice ya r yc) := hcl
            have hg' : g < (wr.drewN nq).heap.size := hg
            have hb' : b < (wr.drewN nq).heap.size := by show b < wr.heap.size; omega
            generalize wr.drewN nq = wq at *
            clear h1 hsz HS HB hcl hg HIn HT bA0
            have bD := (Below.refl wq.heap.size wq).drew
            have HS2 : Hid (SR wq.drew w.heap.size (.slice (some ⟨g, 0, none⟩) m c') vals L) := hid (HS1.out.below bD)
            have bA : Below wq.heap.size wq (wq.drew.alloc (.cells #[.int .i64 x] 2)) := bD.alloc (Nat.le_refl _) _
            have y0 := (bA.cell (p := ⟨b, off + k, none⟩) hb').trans h1'
            have y1 := (bA.cell (p := ⟨g, m - 1, none⟩) hg').trans hcl'
            clear bD bA
            go_wp2
            go_region_law (refine step_growR rfl _ _ rfl w.heap.size g c' (L.length - 1) (.slice (some ⟨g, 0, none⟩) m c') (.slice ya r yc) vals L x HS2.out (by rw [HM.out]) (by rw [← HM.out]; omega) (by show w.heap.size ≤ wq.heap.size; omega) (by have := hrl.1; have := HR.out; unfold lastL at this; omega) (by have := hrl.2; have := HR.out; unfold lastL at this; omega) HY.out rfl rfl ?_; intro y' w3 hy' G3; obtain ⟨ao3, c3, hv3⟩ := hy'; obtain ⟨q3, hq3⟩ : ∃ q, q = (L.getD (L.length - 1) []).length + 1 := ⟨_, rfl⟩; rw [← hq3] at hv3; clear hq3; subst hv3; have e3 := G3.cell; have e4 := G3.froz; rw [← HM.out] at e3 e4; have hs3 := G3.size; have HF3 : Hid (SR (w3.setCell ⟨g, m - 1, none⟩ (.slice ao3 q3 c3)) w.heap.size (.slice (some ⟨g, 0, none⟩) m c') (vals.set (L.length - 1) (.slice ao3 q3 c3)) (pk L x)) := hid (by have h := G3.sr; rw [HPk.out]; rw [HM.out] at h ⊢; exact h); have HG3 : Hid (Below w.heap.size wq (w3.setCell ⟨g, m - 1, none⟩ (.slice ao3 q3 c3))) := hid (by have h := G3.below; rw [HM.out]; exact ⟨h.os, h.tape, h.output, h.size, h.block⟩); clear G3)
            all_goals (try go_wp2)
            all_goals
              go_roundw
              case rel => exact ⟨k + 1, by omega, by go_num, ⟨_, by rw [← HL2.out, HX.out]; exact HF3.out⟩, HB1.out.trans HG3.out⟩
              case measure => simp [intOf]; omega
          · have HPk : Hid (pk L x = L ++ [[x]]) := hid (by rw [pk, if_pos hq])
            rw [hq] at HT
            clear hq
            go_wp2
            go_quiet ((go_at_call 72; exact Calls.quiet_of_same (HT.out _ HIn.out)))
            have HS1 := hid (HS.out.below (bdrewN (Below.refl _ _) nq))
            have HB1 : Hid (Below w.heap.size w (wr.drewN nq)) := hid (bdrewN HB.out nq)
            have h1' : (wr.drewN nq).cell? ⟨b, off + k, none⟩ = some (.int .i64 x) := h1
            have hsz' : w.heap.size ≤ (wr.drewN nq).heap.size := hsz
            generalize wr.drewN nq = wq at *
            clear h1 hsz HS HB
            go_wp2_with (at_builtin; refine wp_appR rfl _ _ rfl w.heap.size _ (.slice (some ⟨wq.heap.size, 0, none⟩) 1 1) vals L [x] HS1.out ((Below.refl _ _).alloc (Nat.le_refl _) _) (own_one wq x) rfl rfl (Eq.trans (b := Value.slice (some ⟨wq.heap.size + 1, 0, none⟩) 1 1) rfl (by simp)) hsz' hl40 ?_; intro v' w' s1 b1 g1 _; have HS2 := hid s1; have HB2 := hid ((HB1.out.alloc hsz' _).trans b1); clear s1 b1 g1)
            go_roundw
            case rel => exact ⟨k + 1, by omega, by go_num, ⟨_, by rw [← HL2.out, HX.out, HPk.out]; exact HS2.out⟩, HB2.out⟩
            case measure => simp [intOf]; omega
      · obtain rfl : k = n := by omega
        go_wp2
        go_ret
        exact ⟨_, _, rfl, HS.out, HB.out⟩

theorem specPL (s : Int) (xs : List Int) (v : Value) (B : Nat) (w : World) (ha : Ints w B v xs) (hB : B ≤ w.heap.size) (hq : l5.Small xs) :
    Calls Try.prog 37 #[.agg #[.int .i64 s, v]] w fun e w' => ∃ v', e = .returned (.tuple #[v', .bool (okB s xs)]) ∧ ss.ROwn w' w.heap.size w'.heap.size v' (pkW s xs) ∧ Below w.heap.size w w' := by
  have HV := hid (specOkA s xs v B w ha (by have := hq.len; omega))
  have HA := hid ha
  have hb := (Below.refl w.heap.size w).alloc (Nat.le_refl _) (.cells #[.int .i64 s, v] 57)
  obtain ⟨ao, cap, hv⟩ := ints_val ha
  cases hr : okB s xs
  · rw [pk_no hr]
    rw [hr] at HV
    clear ha hq hr HA hb
    generalize xs.length = n at *
    subst hv
    go_enter Try.func37, Try.ntmps37
    go_wp2_with fail
    refine HV.out.mono ?_
    rintro e w1 ⟨rfl, q, rfl⟩
    go_wp2
    go_ret2
    exact ⟨_, rfl, ⟨Nat.le_refl _, .inl ⟨rfl, none, 0, rfl⟩⟩, bdrewN ((Below.refl w.heap.size w).alloc (Nat.le_refl _) _) _⟩
  · rw [pk_yes hr]
    have HG := hid (fun W (h : Ints W B v xs) (hb : B ≤ W.heap.size) => specPack xs v B W h hb (ok_parts hr).2.2.1 (ok_rng hr))
    rw [hr] at HV
    have HI := hid (fun q => (HA.out.chg (Chg.ofBelow (lo := 0) (bdrewN hb q)) (.inr (Nat.zero_le _))))
    have HBq := hid (fun q => bdrewN hb q)
    clear ha hq hr hb
    generalize pkT xs xs.length = L at *
    obtain ⟨n, hn⟩ : ∃ n, n = xs.length := ⟨_, rfl⟩
    rw [← hn] at hv
    clear hn
    subst hv
    go_enter Try.func37, Try.ntmps37
    go_wp2_with fail
    refine HV.out.mono ?_
    rintro e w1 ⟨rfl, q, rfl⟩
    have HIq := hid (HI.out q)
    have HB1 := hid (HBq.out q)
    clear HI HBq HV
    have hs1 := HB1.out.size
    have r1 : ((w.alloc (.cells #[.int .i64 s, .slice ao n cap] 57)).drewN q).cell? ⟨w.heap.size, 1, none⟩ = some (.slice ao n cap) := World.cell?_alloc_at _ _ _ _ rfl
    generalize (w.alloc (.cells #[.int .i64 s, .slice ao n cap] 57)).drewN q = W1 at *
    go_wp2_with fail
    refine (HG.out _ HIq.out (by omega)).mono ?_
    rintro e w2 ⟨v2, vals2, rfl, s2, b2⟩
    have HS := hid (s2.low hs1)
    have B2 := hid (HB1.out.trans (b2.mono hs1))
    clear s2 b2
    go_wp2
    go_ret2
    exact ⟨_, rfl, HS.out.rown, B2.out⟩
theorem pkW_len (s : Int) (xs : List Int) : (pkW s xs).length ≤ 1048576 ∧ ss.Short (pkW s xs) 1099511627776 ∧ ss.tot (pkW s xs) ≤ 1048576 := by
  cases h : okB s xs
  · rw [pk_no h]
    exact tot_small [] 0 (by omega) ⟨by simp, fun j hj => by simp at hj⟩
  · rw [pk_yes h]
    exact tot_small _ xs.length (ok_parts h).2.2.1 (okL_T xs xs.length (Nat.le_refl _))
theorem specPLc (s : Int) (xs : List Int) (v : Value) (B : Nat) (w : World) (ha : l5.IntsC w B v xs) (hB : B ≤ w.heap.size) (hq : l5.Small xs) :
    Calls Try.prog 37 #[.agg #[.int .i64 s, v]] w fun e w' => ∃ v', e = .returned (.tuple #[v', .bool (okB s xs)]) ∧ ss.ROwn w' w.heap.size w'.heap.size v' (pkW s xs) ∧ Below w.heap.size w w' := specPL s xs v B w ha.ints hB hq
theorem implPLc (s : Int) (xs : List Int) (v : Value) (B : Nat) (w : World) (ha : l5.IntsC w B v xs) (hB : B ≤ w.heap.size) (hq : l5.Small xs) :
    Calls Try.prog 39 #[.agg #[.int .i64 s, v]] w fun e w' => ∃ v', e = .returned (.tuple #[v', .bool (okB s xs)]) ∧ ss.ROwn w' w.heap.size w'.heap.size v' (pkW s xs) ∧ Below w.heap.size w w' := implPL s xs v B w ha.ints hB hq
end Go.Proofs.Ytiacfejileeieaa.pk
