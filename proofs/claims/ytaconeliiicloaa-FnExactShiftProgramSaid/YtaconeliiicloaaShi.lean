/-
  ShiftProgram of both sides.
-/
import Derived.Test.YtaconeliiicloaaMii
namespace Go.Proofs.Ytaconeliiicloaa.os
open Go.RowKit Go.Sort Go.Proofs.Ytaconeliiicloaa.sl Go.Proofs.Ytaconeliiicloaa.vo Go.Proofs.Ytaconeliiicloaa.nd Go.Proofs.Ytaconeliiicloaa.bw Go.Proofs.Ytaconeliiicloaa.br Go.Proofs.Ytaconeliiicloaa.fv
set_option linter.unusedVariables false
set_option linter.unusedSimpArgs false

theorem OOwn.hiS {w : World} {lo hi hi' : Nat} {v : Value} {xs : List OpV} (o : OOwn w lo hi v xs) (h : hi ≤ hi') (h2 : hi' ≤ w.heap.size) : OOwn w lo hi' v xs := by
  obtain ⟨hh, hr⟩ := o
  refine ⟨h2, ?_⟩
  rcases hr with hr | ⟨hp, g, cap, hv, e1, e2, e3, e4⟩
  · exact .inl hr
  · exact .inr ⟨hp, g, cap, hv, e1, by omega, e3, e4⟩
def shV (f : Int → Int) (x : OpV) : OpV := ⟨x.k, x.d, x.fb, chN f x.fb x.fa, x.tb, chN f x.tb x.ta, x.c, x.r⟩
def shL (f : Int → Int) (xs : List OpV) : List OpV := xs.map (shV f)
theorem shL_len (f : Int → Int) (xs : List OpV) : (shL f xs).length = xs.length := by simp [shL]
theorem shL_at (f : Int → Int) (xs : List OpV) (j : Nat) (h : j < xs.length) : (shL f xs).getD j oz = shV f (xs.getD j oz) := by simp [shL, List.getD, h]
def clampB (by_ : Int) : Int := max (-24) (min by_ 24)
def f1 (by_ : Int) : Int → Int := fun t => t + clampB by_
def f2 (by_ : Int) : Int → Int := fun t => IntKind.i64.wrap (t + by_)
def shB (wd by_ : Int) (xs : List OpV) : List OpV := if opsB wd xs then (if opsB wd (shL (f1 by_) xs) then shL (f1 by_) xs else []) else []
def shC (wd by_ : Int) (xs : List OpV) : Int := if opsB wd xs then (if opsB wd (shL (f1 by_) xs) then 0 else 2) else 1
theorem shB_len (wd by_ : Int) (xs : List OpV) : (shB wd by_ xs).length ≤ 20000 := by
  unfold shB
  split
  · split
    · rename_i h _
      rw [shL_len]
      have := (ops_all h).2
      omega
    · simp
  · simp

/-- Who uses a needle uses From. -/
theorem val_from {x : OpV} (h : valB x = true) : validB x.fb x.fa = true ∨ (x.fb = 0 ∧ x.fa = 0 ∧ x.tb = 0 ∧ x.ta = 0) := by
  obtain ⟨k, d, fb, fa, tb, ta, c, r⟩ := x
  simp only [valB] at h ⊢
  unfold opB at h
  repeat' (split at h)
  all_goals simp_all
theorem validB_range {b t : Int} (h : validB b t = true) (u : Int) : validB b u = decide (0 ≤ u ∧ u ≤ 23) := by
  simp [validB] at h ⊢
  omega
theorem validB_zero (t : Int) : validB 0 t = false := by simp [validB]
theorem f_same {by_ t : Int} (h0 : -9223372036854775808 ≤ by_) (h1 : by_ ≤ 9223372036854775807) (ht : 0 ≤ t ∧ t ≤ 23) : f1 by_ t = f2 by_ t ∨ (¬ (0 ≤ f1 by_ t ∧ f1 by_ t ≤ 23) ∧ ¬ (0 ≤ f2 by_ t ∧ f2 by_ t ≤ 23)) := by
  unfold f1 f2 clampB
  rw [IntKind.wrap_i64]
  omega
theorem sh_point {by_ : Int} (h0 : -9223372036854775808 ≤ by_) (h1 : by_ ≤ 9223372036854775807) {x : OpV} (h : valB x = true) :
    shV (f1 by_) x = shV (f2 by_) x ∨ (valB (shV (f1 by_) x) = false ∧ valB (shV (f2 by_) x) = false) := by
  rcases val_from h with hv | ⟨e1, e2, e3, e4⟩
  · have bad : ∀ f : Int → Int, ¬ (0 ≤ f x.fa ∧ f x.fa ≤ 23) → valB (shV f x) = false := by
      intro f hf
      by_cases hb : valB (shV f x) = true
      · have hc : chN f x.fb x.fa = f x.fa := by rw [chN, if_pos hv]
        rcases val_from hb with h2 | ⟨h2, _⟩
        · simp only [shV, hc] at h2
          rw [validB_range hv] at h2
          exact absurd (of_decide_eq_true h2) hf
        · exact absurd h2 (valid_bed hv)
      · simpa using hb
    rcases f_same h0 h1 (needle_range hv) with he | ⟨hn1, hn2⟩
    · have ht : chN (f1 by_) x.tb x.ta = chN (f2 by_) x.tb x.ta ∨ (validB x.tb x.ta = true ∧ ¬ (0 ≤ f1 by_ x.ta ∧ f1 by_ x.ta ≤ 23) ∧ ¬ (0 ≤ f2 by_ x.ta ∧ f2 by_ x.ta ≤ 23)) := by
        unfold chN
        by_cases hq : validB x.tb x.ta = true
        · rw [if_pos hq, if_pos hq]
          rcases f_same h0 h1 (needle_range hq) with h | h
          · exact .inl h
          · exact .inr ⟨hq, h⟩
        · rw [if_neg hq, if_neg hq]; exact .inl rfl
      have hf : chN (f1 by_) x.fb x.fa = chN (f2 by_) x.fb x.fa := by unfold chN; rw [he]
      rcases ht with ht | ⟨hq, ht1, ht2⟩
      · left; simp only [shV, hf, ht]
      · right
        have badT : ∀ f : Int → Int, ¬ (0 ≤ f x.ta ∧ f x.ta ≤ 23) → valB (shV f x) = false := by
          intro f hf
          by_cases hb : valB (shV f x) = true
          · have hc : chN f x.tb x.ta = f x.ta := by rw [chN, if_pos hq]
            have h2 := (val_more hb).2.2.2
            simp only [shV, hc] at h2
            rcases h2 with h2 | ⟨h2, _⟩
            · rw [validB_range hq] at h2
              exact absurd (of_decide_eq_true h2) hf
            · exact absurd h2 (valid_bed hq)
          · simpa using hb
        exact ⟨badT _ ht1, badT _ ht2⟩
    · exact .inr ⟨bad _ hn1, bad _ hn2⟩
  · left
    have hc : ∀ f : Int → Int, shV f x = x := by
      intro f
      obtain ⟨k, d, fb, fa, tb, ta, c, r⟩ := x
      simp only at e1 e2 e3 e4
      subst e1 e2 e3 e4
      simp [shV, chN, validB_zero]
    rw [hc, hc]
theorem ops_false {wd : Int} {xs : List OpV} (k : Nat) (hk : k < xs.length) (h : valB (xs.getD k oz) = false) : opsB wd xs = false := by
  have := all_bad (okB wd) xs k hk (by rw [okB, h]; rfl)
  rw [opsB, this]; simp
theorem sh_lists {wd by_ : Int} (h0 : -9223372036854775808 ≤ by_) (h1 : by_ ≤ 9223372036854775807) {xs : List OpV} (h : opsB wd xs = true) :
    shL (f1 by_) xs = shL (f2 by_) xs ∨ (opsB wd (shL (f1 by_) xs) = false ∧ opsB wd (shL (f2 by_) xs) = false) := by
  by_cases hall : ∀ k, k < xs.length → shV (f1 by_) (xs.getD k oz) = shV (f2 by_) (xs.getD k oz)
  · left
    unfold shL
    apply List.map_congr_left
    intro x hx
    obtain ⟨j, hj, rfl⟩ := List.getElem_of_mem hx
    have := hall j hj
    rwa [show xs.getD j oz = xs[j] from by simp [List.getD, List.getElem?_eq_getElem hj]] at this
  · right
    obtain ⟨k, hk⟩ := Classical.not_forall.1 hall
    obtain ⟨hk1, hk2⟩ := Classical.not_imp.1 hk
    rcases sh_point h0 h1 (ops_at h k hk1) with e | ⟨e1, e2⟩
    · exact absurd e hk2
    · exact ⟨ops_false k (by rw [shL_len]; exact hk1) (by rw [shL_at _ _ _ hk1]; exact e1), ops_false k (by rw [shL_len]; exact hk1) (by rw [shL_at _ _ _ hk1]; exact e2)⟩
theorem ch_mov (by_ b t : Int) (h : validB b t = true ∨ b = 0 ∧ t = 0) : chN (f1 by_) b t = if b = 0 then t else t + clampB by_ := by
  unfold chN f1
  rcases h with h | ⟨rfl, rfl⟩
  · rw [if_pos h, if_neg (valid_bed h)]
  · rw [if_pos rfl, validB_zero]; rfl

set_option maxRecDepth 100000 in
theorem movedN (b t by_ : Int) (w : World) (h1 : -24 ≤ by_ ∧ by_ ≤ 24) (h2 : 0 ≤ t ∧ t ≤ 23) :
    Calls Try.prog 80 #[.agg #[.int .i64 b, .int .i64 t], .int .i64 by_] w fun e w' => e = .returned (.agg #[.int .i64 b, .int .i64 (if b = 0 then t else t + by_)]) ∧ Below w.heap.size w w' := by
  by_cases hb : b = 0
  · subst hb
    rw [if_pos rfl]
    go_enter Try.func80, Try.ntmps80
    go_wp2
    refine bodyPost_ret (v := .agg #[.int .i64 0, .int .i64 t]) (by simp [results, Try.results80, go_sem]) rfl ⟨rfl, ?_⟩
    repeat (first | exact Below.refl _ _ | refine Below.setCell ?_ (by simp <;> omega) _ | refine Below.alloc ?_ (by simp <;> omega) _)
  · have hbb : (b == 0) = false := by simpa using hb
    rw [if_neg hb]
    go_enter Try.func80, Try.ntmps80
    go_wp2
    refine bodyPost_ret (v := .agg #[.int .i64 b, .int .i64 (t + by_)]) (by simp [results, Try.results80, go_sem]) rfl ⟨rfl, ?_⟩
    repeat (first | exact Below.refl _ _ | refine Below.setCell ?_ (by simp <;> omega) _ | refine Below.alloc ?_ (by simp <;> omega) _)
theorem maxJ (a b : Int) (w : World) : Calls Try.prog 78 #[.int .i64 a, .int .i64 b] w fun e w' => e = .returned (.int .i64 (max a b)) ∧ w = w' := by
  by_cases h : b < a
  · have HQ : Hid (max a b = a) := hid (by omega)
    go_enter Try.func78, Try.ntmps78
    go_wp2
    go_ret
    exact ⟨by rw [HQ.out]; rfl, rfl⟩
  · have HQ : Hid (max a b = b) := hid (by omega)
    have hd : decide (b < a) = false := decide_eq_false h
    go_enter Try.func78, Try.ntmps78
    go_wp2
    go_ret
    exact ⟨by rw [HQ.out]; rfl, rfl⟩
theorem minJ (a b : Int) (w : World) : Calls Try.prog 79 #[.int .i64 a, .int .i64 b] w fun e w' => e = .returned (.int .i64 (min a b)) ∧ w = w' := by
  by_cases h : a < b
  · have HQ : Hid (min a b = a) := hid (by omega)
    go_enter Try.func79, Try.ntmps79
    go_wp2
    go_ret
    exact ⟨by rw [HQ.out]; rfl, rfl⟩
  · have HQ : Hid (min a b = b) := hid (by omega)
    have hd : decide (a < b) = false := decide_eq_false h
    go_enter Try.func79, Try.ntmps79
    go_wp2
    go_ret
    exact ⟨by rw [HQ.out]; rfl, rfl⟩

set_option maxRecDepth 100000 in
set_option maxHeartbeats 2000000 in
theorem specSh (wd by_ : Int) (xs : List OpV) (v : Value) (B : Nat) (w : World) (ha : Ops w B v xs) (hB : B ≤ w.heap.size) (hq : Small xs) :
    Calls Try.prog 30 #[.int .i64 wd, v, .int .i64 by_] w fun e w' => ∃ v', e = .returned (.tuple #[v', .int .i64 (shC wd by_ xs)]) ∧ OOwn w' w.heap.size w'.heap.size v' (shB wd by_ xs) ∧ Below w.heap.size w w' := by
  have HS := hid (specOps wd xs v B w ha hB hq)
  have hn := hq.len
  clear hq
  obtain ⟨y, hy⟩ : ∃ y, y = opsB wd xs := ⟨_, rfl⟩
  rw [← hy] at HS
  have HR : Hid (shB wd by_ xs = if y then (if opsB wd (shL (f1 by_) xs) then shL (f1 by_) xs else []) else []) := hid (by rw [hy]; rfl)
  have HR' : Hid (shC wd by_ xs = if y then (if opsB wd (shL (f1 by_) xs) then 0 else 2) else 1) := hid (by rw [hy]; rfl)
  cases y with
  | false =>
    have HR2 : Hid (shB wd by_ xs = []) := hid (by rw [HR.out]; simp)
    have HR3 : Hid (shC wd by_ xs = 1) := hid (by rw [HR'.out]; simp)
    rw [HR3.out, HR2.out]
    obtain ⟨ao, cap, rfl⟩ := ops_val ha
    clear ha hy HR HR'
    generalize xs.length = n at *
    go_enter Try.func30, Try.ntmps30
    go_wp2_with fail
    refine HS.out.mono ?_
    rintro e w1 ⟨rfl, b1⟩
    have HB := hid b1
    clear b1
    go_wp2
    go_ret2
    exact ⟨_, rfl, ⟨Nat.le_refl _, .inl ⟨rfl, _, _, rfl, fun _ => rfl⟩⟩, HB.out⟩
  | true =>
    have HR2 : Hid (shB wd by_ xs = if opsB wd (shL (f1 by_) xs) then shL (f1 by_) xs else []) := hid (by rw [HR.out]; simp)
    have HR3 : Hid (shC wd by_ xs = if opsB wd (shL (f1 by_) xs) then 0 else 2) := hid (by rw [HR'.out]; simp)
    rw [HR3.out, HR2.out]
    obtain ⟨bq, hbq⟩ : ∃ z, z = clampB by_ := ⟨_, rfl⟩
    have hbqr : -24 ≤ bq ∧ bq ≤ 24 := by rw [hbq]; unfold clampB; omega
    have HMn := hid (fun W => minJ by_ 24 W)
    have HMx := hid (fun W => show Calls Try.prog 78 #[.int .i64 (-24), .int .i64 (min by_ 24)] W fun e w' => e = .returned (.int .i64 bq) ∧ W = w' from by rw [hbq]; exact maxJ (-24) (min by_ 24) W)
    have HCm := hid (fun b t h => ch_mov by_ b t h)
    rw [← hbq] at HCm
    clear hbq
    generalize min by_ 24 = mb at *
    generalize f1 by_ = F at *
    have HV := hid (fun k (hk : k < xs.length) => ops_at hy.symm k hk)
    have HOA := hid (fun w1 (b : Below w.heap.size w w1) => ha.below b)
    obtain ⟨p, hp⟩ : ∃ p, p = opsB wd (shL F xs) := ⟨_, rfl⟩
    have HSO := hid (fun (W : World) (u : Value) (h : Ops W W.heap.size u (shL F xs)) => show Calls Try.prog 71 #[.int .i64 wd, u] W fun e w' => e = .returned (.bool p) ∧ Below W.heap.size W w' from by rw [hp]; exact specOps wd (shL F xs) u W.heap.size W h (Nat.le_refl _) ⟨by rw [shL_len]; exact hn⟩)
    rw [← hp]
    clear hp
    obtain ⟨ao, cap, hv⟩ := ops_val ha
    clear ha hy HR HR'
    obtain ⟨n, hnn⟩ : ∃ n, n = xs.length := ⟨_, rfl⟩
    rw [← hnn] at hv
    have HN := hid hnn
    have hn' : n ≤ 1048576 := by omega
    clear hnn hn
    subst hv
    go_enter Try.func30, Try.ntmps30
    go_wp2_with fail
    refine HS.out.mono ?_
    rintro e w0 ⟨rfl, b1⟩
    have HB := hid b1
    have hsz := b1.size
    have HO0 := hid (HOA.out w0 b1)
    clear b1
    go_wp2_with (first | (go_at_call 79; refine (HMn.out _).mono ?_; rintro e w' ⟨rfl, rfl⟩) | (go_at_call 78; refine (HMx.out _).mono ?_; rintro e w' ⟨rfl, rfl⟩) | (at_builtin; refine wp_appendO rfl _ _ rfl w.heap.size rfl _ xs B HO0.out rfl hsz (by rw [← HN.out]; exact hn') ?_; intro v1 w1 ho1 hb1))
    have HO1 := hid ho1
    have HB1 := hid (HB.out.trans hb1)
    clear ho1 hb1 HO0 HB
    by_cases h0 : n = 0
    · obtain ⟨ao1, cap1, hv1⟩ := oown_val HO1.out
      rw [← HN.out] at hv1
      subst hv1
      have HX : Hid (xs = []) := hid (List.length_eq_zero_iff.1 (by rw [← HN.out]; exact h0))
      have HF : Hid (OOwn w1 w.heap.size w1.heap.size (.slice ao1 n cap1) (shL F xs)) := hid (by have := HO1.out; rw [HX.out] at this ⊢; exact this)
      clear HO1
      subst h0
      go_wp2
      refine wp_loop_rounds 1 ?_
      rw [rounds_succ]
      go_wp2_with fail
      refine (HSO.out w1 _ HF.out.ops).mono ?_
      rintro e w2 ⟨rfl, b1⟩
      have HF2 := hid (HF.out.chg (Chg.ofBelow (lo := w1.heap.size) b1) (.inl (Nat.le_refl _)))
      have HB2 := hid (HB1.out.trans (b1.mono HB1.out.size))
      have hz := b1.size
      clear b1
      cases p with
      | false =>
        go_wp2
        go_ret2
        exact ⟨_, rfl, ⟨Nat.le_refl _, .inl ⟨rfl, _, _, rfl, fun _ => rfl⟩⟩, HB2.out⟩
      | true =>
        go_wp2
        go_ret2
        exact ⟨_, rfl, HF2.out.hiS hz (Nat.le_refl _), HB2.out⟩
    obtain ⟨g, cap1, hv1⟩ := oown_slice HO1.out (by rw [← HN.out]; omega)
    subst hv1
    obtain ⟨hg1, hg2, hw1, ha1⟩ := OOwn.wr HO1.out (by rw [← HN.out]; omega)
    rw [← HN.out] at hw1 ha1 ⊢
    have HW0 := hid hw1
    have HA0 := hid ha1
    clear hw1 ha1
    go_wp2
    go_loopw [9] (fun i wr => ∃ k : Nat, k ≤ n ∧ i = .int .i64 k ∧ Wr wr g (n * 8) ∧ (∀ j, j < n → At wr g (0 + j * 8) (if j < k then shV F (xs.getD j oz) else xs.getD j oz)) ∧ Below w.heap.size w wr) (fun i _ => n - (intOf i).toNat)
    case atStart => exact ⟨0, Nat.zero_le _, rfl, HW0.out, fun j hj => by rw [if_neg (by omega)]; exact HA0.out j hj, HB1.out⟩
    case round =>
      obtain ⟨k, hk, rfl, hw1, ha1, hbel⟩ := hrel
      clear HW0 HA0 HB1
      by_cases hlt : k < n
      · obtain ⟨hd3, hr3, hf3, ht3⟩ := val_more (HV.out k (by rw [← HN.out]; exact hlt))
        obtain ⟨hfa, hta⟩ := val_range (HV.out k (by rw [← HN.out]; exact hlt))
        have HA := ha1 k hlt
        rw [if_neg (by omega)] at HA
        obtain ⟨fk, hfk⟩ : ∃ fk : Nat → OpV, ∀ j, fk j = (if j < k + 1 then shV F (xs.getD j oz) else xs.getD j oz) := ⟨_, fun _ => rfl⟩
        have HO : Hid (Oth wr g n k fk) := hid (fun j hj hne => by
          have := ha1 j hj
          rw [hfk]
          by_cases h : j < k
          · rw [if_pos h] at this; rw [if_pos (by omega)]; exact this
          · rw [if_neg h] at this; rw [if_neg (by omega)]; exact this)
        have HE : Hid (fk k = shV F (xs.getD k oz)) := hid (by rw [hfk, if_pos (by omega)])
        have HFK := hid hfk
        clear hfk ha1 hd3 hr3
        generalize xs.getD k oz = x at *
        obtain ⟨x0, xd, xfb, xfa, xtb, xta, xc, xr⟩ := x
        simp only [shV] at hf3 ht3 hfa hta HE
        rw [HCm.out xfb xfa hf3, HCm.out xtb xta ht3] at HE
        have HM1 := hid (fun W => movedN xfb xfa bq W hbqr hfa)
        have HM2 := hid (fun W => movedN xtb xta bq W hbqr hta)
        generalize (if xfb = 0 then xfa else xfa + bq) = mf at *
        generalize (if xtb = 0 then xta else xta + bq) = mt at *
        clear hf3 ht3
        have HWr := hid hw1
        have HBel := hid hbel
        clear hw1 hbel
        have z2 : wr.cell? ⟨g, k * 8 + 2, none⟩ = some (.int .i64 xfb) := by have := HA.c2; rwa [Nat.zero_add] at this
        have z3 : wr.cell? ⟨g, k * 8 + 3, none⟩ = some (.int .i64 xfa) := by have := HA.c3; rwa [Nat.zero_add] at this
        go_wp2_with fail
        clear z2 z3
        refine (HM1.out _).mono ?_
        rintro e w2 ⟨rfl, b1⟩
        have HA2 := HA.below b1
        have HO2 := hid (HO.out.below b1)
        have HW2 := hid (HWr.out.below b1)
        have HB2 := hid (HBel.out.trans (b1.mono HBel.out.size))
        clear b1 HA HO HWr HBel
        unfold At at HA2
        rw [Nat.zero_add] at HA2
        have d0 := HA2.c0
        have d1 := HA2.c1
        have d2 := HA2.c2
        have d3 := HA2.c3
        have d4 := HA2.c4
        have d5 := HA2.c5
        have d6 := HA2.c6
        have d7 := HA2.c7
        simp only at d0 d1 d2 d3 d4 d5 d6 d7
        clear HA2
        obtain ⟨f2', _⟩ := HW2.out.2 (k * 8 + 2) (by omega)
        obtain ⟨f3', _⟩ := HW2.out.2 (k * 8 + 3) (by omega)
        have hgz := HW2.out.1
        go_wp2_with fail
        refine (HM2.out _).mono ?_
        rintro e w3 ⟨rfl, b1⟩
        have HO3 := hid (((HO2.out.set (k * 8 + 2) (.int .i64 xfb) (by omega) (by omega)).set (k * 8 + 3) (.int .i64 mf) (by omega) (by omega)).below b1)
        have HW3 := hid (((HW2.out.set (k * 8 + 2) (.int .i64 xfb) (by omega)).set (k * 8 + 3) (.int .i64 mf) (by omega)).below b1)
        have HB3a := (HB2.out.setCell (p := ⟨g, k * 8 + 2, none⟩) hg1 (.int .i64 xfb)).setCell (p := ⟨g, k * 8 + 3, none⟩) hg1 (.int .i64 mf)
        have HB3 := hid (HB3a.trans (b1.mono HB3a.size))
        have e0 : w3.cell? ⟨g, k * 8, none⟩ = some (.int .i64 x0) := (b1.cell (p := ⟨g, k * 8, none⟩) (by simpa using hgz)).trans (by go_simp)
        have e1 : w3.cell? ⟨g, k * 8 + 1, none⟩ = some (.int .i64 xd) := (b1.cell (p := ⟨g, k * 8 + 1, none⟩) (by simpa using hgz)).trans (by go_simp)
        have e2 : w3.cell? ⟨g, k * 8 + 2, none⟩ = some (.int .i64 xfb) := (b1.cell (p := ⟨g, k * 8 + 2, none⟩) (by simpa using hgz)).trans (by go_simp)
        have e3 : w3.cell? ⟨g, k * 8 + 3, none⟩ = some (.int .i64 mf) := (b1.cell (p := ⟨g, k * 8 + 3, none⟩) (by simpa using hgz)).trans (by go_simp)
        have e4 : w3.cell? ⟨g, k * 8 + 4, none⟩ = some (.int .i64 xtb) := (b1.cell (p := ⟨g, k * 8 + 4, none⟩) (by simpa using hgz)).trans (by go_simp)
        have e5 : w3.cell? ⟨g, k * 8 + 5, none⟩ = some (.int .i64 xta) := (b1.cell (p := ⟨g, k * 8 + 5, none⟩) (by simpa using hgz)).trans (by go_simp)
        have e6 : w3.cell? ⟨g, k * 8 + 6, none⟩ = some (.int .i64 xc) := (b1.cell (p := ⟨g, k * 8 + 6, none⟩) (by simpa using hgz)).trans (by go_simp)
        have e7 : w3.cell? ⟨g, k * 8 + 7, none⟩ = some (.int .i64 xr) := (b1.cell (p := ⟨g, k * 8 + 7, none⟩) (by simpa using hgz)).trans (by go_simp)
        clear b1 HB3a d0 d1 d2 d3 d4 d5 d6 d7 f2' f3' HO2 HW2 HB2 hgz
        obtain ⟨f4, _⟩ := HW3.out.2 (k * 8 + 4) (by omega)
        obtain ⟨f5, _⟩ := HW3.out.2 (k * 8 + 5) (by omega)
        have hgz := HW3.out.1
        have HAf : Hid (At ((w3.setCell ⟨g, k * 8 + 4, none⟩ (.int .i64 xtb)).setCell ⟨g, k * 8 + 5, none⟩ (.int .i64 mt)) g (0 + k * 8) ⟨x0, xd, xfb, mf, xtb, mt, xc, xr⟩) := hid (by
          rw [Nat.zero_add]
          exact ⟨by simpa using hgz, by go_simp, by go_simp, by go_simp, by go_simp, by go_simp, by go_simp, by go_simp, by go_simp⟩)
        go_wp2
        clear e0 e1 e2 e3 e4 e5 e6 e7 f4 f5
        go_roundw
        case rel =>
          refine ⟨k + 1, by omega, by go_num, ?_, ?_, ?_⟩
          · exact (HW3.out.set (k * 8 + 4) _ (by omega)).set (k * 8 + 5) _ (by omega)
          · intro j hj
            rw [← HFK.out j]
            by_cases e : j = k
            · subst e
              rw [HE.out]
              exact HAf.out
            · exact ((HO3.out.set (k * 8 + 4) _ (by omega) (by omega)).set (k * 8 + 5) _ (by omega) (by omega)) j hj e
          · exact (HB3.out.setCell (p := ⟨g, k * 8 + 4, none⟩) hg1 _).setCell (p := ⟨g, k * 8 + 5, none⟩) hg1 _
        case measure => simp [intOf]; omega
      · obtain rfl : k = n := by omega
        have HF : Hid (OOwn wr w.heap.size wr.heap.size (.slice (some ⟨g, 0, none⟩) k cap1) (shL F xs)) := hid (by
          have hl : (shL F xs).length = k := by rw [shL_len, HN.out]
          have := OOwn.ofWr (xs := shL F xs) (cap := cap1) (by rw [hl]; omega) hg1 (by rw [hl]; exact hw1) (fun j hj => by
            rw [hl] at hj
            rw [shL_at F xs j (by rw [← HN.out]; exact hj)]
            have := ha1 j hj
            rw [if_pos hj] at this
            exact this)
          rw [hl] at this
          exact this)
        have HBf := hid hbel
        clear hw1 ha1 hbel
        go_wp2_with fail
        refine (HSO.out wr _ HF.out.ops).mono ?_
        rintro e w2 ⟨rfl, b1⟩
        have HF2 := hid (HF.out.chg (Chg.ofBelow (lo := wr.heap.size) b1) (.inl (Nat.le_refl _)))
        have HB2 := hid (HBf.out.trans (b1.mono HBf.out.size))
        have hz := b1.size
        clear b1
        cases p with
        | false =>
          go_wp2
          go_ret2
          exact ⟨_, rfl, ⟨Nat.le_refl _, .inl ⟨rfl, _, _, rfl, fun _ => rfl⟩⟩, HB2.out⟩
        | true =>
          go_wp2
          go_ret2
          exact ⟨_, rfl, HF2.out.hiS hz (Nat.le_refl _), HB2.out⟩
end Go.Proofs.Ytaconeliiicloaa.os
