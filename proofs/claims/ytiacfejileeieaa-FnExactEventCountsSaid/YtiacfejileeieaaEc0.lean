/-
  EventCounts of both sides.
-/
import Derived.Test.YtiacfejileeieaaEvo
import Derived.Test.YtiacfejileeieaaEvn
import Derived.Test.YtiacfejileeieaaIds
namespace Go.Proofs.Ytiacfejileeieaa.ev
open Go.RowKit Go.Sort Go.Proofs.Ytiacfejileeieaa.sl Go.Proofs.Ytiacfejileeieaa.fn
set_option linter.unusedVariables false
set_option linter.unusedSimpArgs false
set_option maxRecDepth 100000

def kdQ (q : Nat) (x : V) : Bool := x.a0 == ((q : Nat) : Int) + 1
def ecAt (xs : List V) (k q : Nat) : Int := (((xs.take k).filter (kdQ q)).length : Int)
def ecL (xs : List V) (k : Nat) : List Int := (List.range 5).map (ecAt xs k)
theorem ecL_len (xs : List V) (k : Nat) : (ecL xs k).length = 5 := by simp [ecL]
theorem ecL_at (xs : List V) (k q : Nat) (h : q < 5) : (ecL xs k).getD q 0 = ecAt xs k q := by simp [ecL, List.getD, h]
theorem ecL_zero (xs : List V) : ecL xs 0 = List.replicate 5 0 := by simp [ecL, ecAt, List.range_succ, List.replicate]
theorem ecAt_bound (xs : List V) (k q : Nat) (h : k ≤ xs.length) : 0 ≤ ecAt xs k q ∧ ecAt xs k q ≤ k := by
  unfold ecAt
  have := List.length_filter_le (kdQ q) (xs.take k)
  rw [List.length_take] at this
  omega
theorem ecAt_succ (xs : List V) (k q : Nat) (h : k < xs.length) : ecAt xs (k + 1) q = ecAt xs k q + (if kdQ q (xs.getD k oz) = true then 1 else 0) := by
  unfold ecAt
  rw [List.take_succ_eq_append_getElem h, List.filter_append, List.length_append]
  have e : xs.getD k oz = xs[k] := by simp [List.getD, List.getElem?_eq_getElem h]
  rw [e]
  by_cases hq : kdQ q xs[k] = true
  · simp [hq]
  · simp [hq]
theorem ecL_step (xs : List V) (k q : Nat) (h : k < xs.length) (hq : q < 5) (hx : (xs.getD k oz).a0 = (q : Int) + 1) : (ecL xs k).set q (ecAt xs k q + 1) = ecL xs (k + 1) := by
  apply sl.list_eq_of
  · simp [ecL_len]
  · intro j hj
    rw [List.length_set, ecL_len] at hj
    rw [ecL_at xs (k + 1) j hj, ecAt_succ xs k j h]
    by_cases hjq : j = q
    · subst hjq
      have : kdQ j (xs.getD k oz) = true := by unfold kdQ; rw [hx]; simp
      rw [if_pos this]
      simp [List.getD, ecL_len, hj]
    · have : ¬ kdQ j (xs.getD k oz) = true := by simp only [kdQ, hx, beq_iff_eq]; omega
      rw [if_neg this]
      have e : ((ecL xs k).set q (ecAt xs k q + 1)).getD j 0 = (ecL xs k).getD j 0 := by simp [List.getD, Ne.symm hjq]
      rw [e, ecL_at xs k j hj]; omega
def ecW (xs : List V) : List Int := if okE xs = true then ecL xs xs.length else []
def ecC (xs : List V) : Int := if okE xs = true then 0 else 1
theorem ecW_len (xs : List V) : (ecW xs).length ≤ 20000 := by
  unfold ecW
  split
  · rw [ecL_len]; omega
  · simp
theorem ec_no {xs : List V} (h : okE xs = false) : ecW xs = [] ∧ ecC xs = 1 := by simp [ecW, ecC, h]
theorem ec_yes {xs : List V} (h : okE xs = true) : ecW xs = ecL xs xs.length ∧ ecC xs = 0 := by simp [ecW, ecC, h]
theorem ev_kind {s : Int} {x : V} (h : evB s x = true) : 1 ≤ x.a0 ∧ x.a0 ≤ 5 := by
  obtain ⟨x0, x1, x2, x3, x4, x5⟩ := x
  simp only [evB] at h ⊢
  split at h
  · omega
  · split at h
    · omega
    · split at h
      · omega
      · split at h
        · omega
        · split at h
          · omega
          · cases h
theorem kind_at {xs : List V} (h : okE xs = true) (k : Nat) (hk : k < xs.length) : ∃ q : Nat, q < 5 ∧ (xs.getD k oz).a0 = (q : Int) + 1 := by
  have hs : ∀ j, j ≤ xs.length → ∃ s, st xs j = some s := fun j hj => by
    cases e : st xs j with
    | some s => exact ⟨s, rfl⟩
    | none =>
      have := st_none e (xs.length - j)
      rw [show j + (xs.length - j) = xs.length by omega] at this
      simp [okE, this] at h
  obtain ⟨s, e1⟩ := hs k (by omega)
  obtain ⟨s', e2⟩ := hs (k + 1) (by omega)
  have e3 := st_next e1
  rw [e2] at e3
  cases hg : goodB s (xs.getD k oz) with
  | false => rw [hg] at e3; cases e3
  | true =>
    simp only [goodB, Bool.and_eq_true, decide_eq_true_eq] at hg
    have := ev_kind hg.1
    exact ⟨((xs.getD k oz).a0 - 1).toNat, by omega, by omega⟩

set_option maxHeartbeats 2000000 in
theorem specEC (xs : List V) (v : Value) (B : Nat) (w : World) (ha : Ops w B v xs) (hB : B ≤ w.heap.size) (hq : Small xs) :
    Calls Try.prog 33 #[v] w fun e w' => ∃ v', e = .returned (.tuple #[v', .int .i64 (ecC xs)]) ∧ sl.Own w' w.heap.size w'.heap.size v' (ecW xs) ∧ Below w.heap.size w w' := by
  have hn := hq.len
  obtain ⟨i0, hi, hz0, hz1, hz2⟩ := info_parts info64
  have HCt := hid (specVal xs v B w ha hB hq)
  cases hok : okE xs with
  | false =>
    obtain ⟨h1, h2⟩ := ec_no hok
    rw [h1, h2]
    rw [hok] at HCt
    obtain ⟨ao, cap, rfl⟩ := ops_val ha
    clear ha hok h1 h2 hq
    generalize xs.length = n at *
    go_enter Try.func33, Try.ntmps33
    go_wp2_with fail
    refine HCt.out.mono ?_
    rintro e w1 ⟨rfl, b1⟩
    have HB1 := hid b1
    clear b1 HCt
    go_wp2
    go_ret2
    exact ⟨_, rfl, sl.Own.nil _ _, HB1.out⟩
  | true =>
    obtain ⟨h1, h2⟩ := ec_yes hok
    rw [h1, h2]
    rw [hok] at HCt
    have HK := hid (fun k h => kind_at hok k h)
    have hln : xs.length ≤ 2000 := by
      simp only [okE, Bool.and_eq_true, decide_eq_true_eq] at hok
      exact hok.2
    clear h1 h2 hok
    rcases ha with ⟨rfl, ao, cap, rfl, hao⟩ | ⟨hp, b, off, cap, rfl, hbb, hc⟩
    · have HE := hid (ecL_zero [])
      go_enter Try.func33, Try.ntmps33
      go_wp2_with fail
      refine HCt.out.mono ?_
      rintro e w1 ⟨rfl, b1⟩
      have HB1 := hid b1
      have hs1 := b1.size
      clear b1 HCt
      go_wp2_with (at_make; refine wpList_make_full _ rfl _ _ 22 rfl w1.heap.size 2 i0 (.int .i64 0) 1 Try.underlying22 hi hz0 hz1 .i64 .i64 _ _ 5 rfl rfl (by rfl) (by rfl) (by rw [hz2]; omega) (by unfold maxLen; omega) (Nat.le_refl _) ?_; intro w2 hown1 hgrow1; have HO2 := hid ((made_own hown1).lo (lo' := w.heap.size) (by omega)); have HB2 : Hid (Below w.heap.size w w2) := hid (HB1.out.trans (((Below.refl w1.heap.size w1).grown hgrow1 (Nat.le_refl _) (fun k hk => by cases hk)).mono (by omega))); clear hown1 hgrow1)
      refine wp_loop_rounds 1 ?_
      rw [rounds_succ]
      go_wp2
      go_ret2
      exact ⟨_, rfl, by simp only [List.length_nil]; rw [HE.out]; exact HO2.out, HB2.out⟩
    · obtain ⟨n, hnn⟩ : ∃ n, n = xs.length := ⟨_, rfl⟩
      rw [← hnn] at hp hc hn HK HCt hln ⊢
      have HN := hid hnn
      have HC := hid hc
      clear hnn hc hq
      go_enter Try.func33, Try.ntmps33
      go_wp2_with fail
      refine HCt.out.mono ?_
      rintro e w1 ⟨rfl, b1⟩
      have HB1 := hid b1
      have hs1 := b1.size
      clear b1 HCt
      go_wp2_with (at_make; refine wpList_make_full _ rfl _ _ 22 rfl w1.heap.size 2 i0 (.int .i64 0) 1 Try.underlying22 hi hz0 hz1 .i64 .i64 _ _ 5 rfl rfl (by rfl) (by rfl) (by rw [hz2]; omega) (by unfold maxLen; omega) (Nat.le_refl _) ?_; intro w2 hown1 hgrow1; have HO2 := hid ((made_own hown1).lo (lo' := w.heap.size) (by omega)); have HB2 : Hid (Below w.heap.size w w2) := hid (HB1.out.trans (((Below.refl w1.heap.size w1).grown hgrow1 (Nat.le_refl _) (fun k hk => by cases hk)).mono (by omega))); clear hown1 hgrow1)
      go_loopw [5] (fun i wr => ∃ k : Nat, k ≤ n ∧ i = .int .i64 k ∧ Own wr w.heap.size wr.heap.size (.slice (some ⟨w1.heap.size, 0, none⟩) 5 5) (ecL xs k) ∧ Below w.heap.size w wr)
        (fun i _ => n - (intOf i).toNat)
      case atStart => exact ⟨0, Nat.zero_le _, rfl, by rw [ecL_zero]; exact HO2.out, HB2.out⟩
      case round =>
        obtain ⟨k, hk, rfl, hown, hbel⟩ := hrel
        have HO := hid hown
        have HB := hid hbel
        clear hown hbel HO2 HB2
        by_cases hlt : k < n
        · have c0 := ((HC.out k hlt).below HB.out).c0
          obtain ⟨q, hq5, hxq⟩ := HK.out k hlt
          rw [hxq] at c0
          have HSt := hid (ecL_step xs k q (by rw [← HN.out]; exact hlt) hq5 hxq)
          have hbd := ecAt_bound xs k q (by rw [← HN.out]; exact hk)
          have hcell := (HO.out.at' q (by rw [ecL_len]; exact hq5)).1
          have hfr := (HO.out.at' q (by rw [ecL_len]; exact hq5)).2
          rw [ecL_at xs k q hq5] at hcell
          have HS := hid (HO.out.set q (ecAt xs k q + 1)).1
          rw [HSt.out] at HS
          have hgl := HO.out.1.lt w1.heap.size rfl
          have hsub : IntKind.i64.wrap ((q : Int) + 1 - 1) = (q : Int) := by rw [IntWalk.i64_in _ (by omega)]; omega
          have hsub2 : ((q : Int) + 1 - 1) = (q : Int) := by omega
          clear hxq
          generalize ecAt xs k q = z at *
          go_wp2
          go_roundw
          case rel => exact ⟨k + 1, by omega, by go_num, by simpa using HS.out, HB.out.setCell (by simp; omega) _⟩
          case measure => simp [intOf]; omega
        · obtain rfl : k = n := by omega
          go_wp2
          go_ret2
          exact ⟨_, rfl, HO.out, HB.out⟩
set_option maxHeartbeats 2000000 in
theorem implEC (xs : List V) (v : Value) (B : Nat) (w : World) (ha : Ops w B v xs) (hB : B ≤ w.heap.size) (hq : Small xs) :
    Calls Try.prog 35 #[v] w fun e w' => ∃ v', e = .returned (.tuple #[v', .int .i64 (ecC xs)]) ∧ sl.Own w' w.heap.size w'.heap.size v' (ecW xs) ∧ Below w.heap.size w w' := by
  have hn := hq.len
  obtain ⟨i0, hi, hz0, hz1, hz2⟩ := info_parts info64
  have HCt := hid (implVal xs v B w ha hB hq)
  cases hok : okE xs with
  | false =>
    obtain ⟨h1, h2⟩ := ec_no hok
    rw [h1, h2]
    rw [hok] at HCt
    obtain ⟨ao, cap, rfl⟩ := ops_val ha
    clear ha hok h1 h2 hq
    generalize xs.length = n at *
    go_enter Try.func35, Try.ntmps35
    go_wp2_with fail
    refine HCt.out.mono ?_
    rintro e w1 ⟨rfl, b1⟩
    have HB1 := hid b1
    clear b1 HCt
    go_wp2
    go_ret2
    exact ⟨_, rfl, sl.Own.nil _ _, HB1.out⟩
  | true =>
    obtain ⟨h1, h2⟩ := ec_yes hok
    rw [h1, h2]
    rw [hok] at HCt
    have HK := hid (fun k h => kind_at hok k h)
    have hln : xs.length ≤ 2000 := by
      simp only [okE, Bool.and_eq_true, decide_eq_true_eq] at hok
      exact hok.2
    clear h1 h2 hok
    rcases ha with ⟨rfl, ao, cap, rfl, hao⟩ | ⟨hp, b, off, cap, rfl, hbb, hc⟩
    · have HE := hid (ecL_zero [])
      go_enter Try.func35, Try.ntmps35
      go_wp2_with fail
      refine HCt.out.mono ?_
      rintro e w1 ⟨rfl, b1⟩
      have HB1 := hid b1
      have hs1 := b1.size
      clear b1 HCt
      go_wp2_with (at_make; refine wpList_make_full _ rfl _ _ 22 rfl w1.heap.size 2 i0 (.int .i64 0) 1 Try.underlying22 hi hz0 hz1 .i64 .i64 _ _ 5 rfl rfl (by rfl) (by rfl) (by rw [hz2]; omega) (by unfold maxLen; omega) (Nat.le_refl _) ?_; intro w2 hown1 hgrow1; have HO2 := hid ((made_own hown1).lo (lo' := w.heap.size) (by omega)); have HB2 : Hid (Below w.heap.size w w2) := hid (HB1.out.trans (((Below.refl w1.heap.size w1).grown hgrow1 (Nat.le_refl _) (fun k hk => by cases hk)).mono (by omega))); clear hown1 hgrow1)
      refine wp_loop_rounds 1 ?_
      rw [rounds_succ]
      go_wp2
      go_ret2
      exact ⟨_, rfl, by simp only [List.length_nil]; rw [HE.out]; exact HO2.out, HB2.out⟩
    · obtain ⟨n, hnn⟩ : ∃ n, n = xs.length := ⟨_, rfl⟩
      rw [← hnn] at hp hc hn HK HCt hln ⊢
      have HN := hid hnn
      have HC := hid hc
      clear hnn hc hq
      go_enter Try.func35, Try.ntmps35
      go_wp2_with fail
      refine HCt.out.mono ?_
      rintro e w1 ⟨rfl, b1⟩
      have HB1 := hid b1
      have hs1 := b1.size
      clear b1 HCt
      go_wp2_with (at_make; refine wpList_make_full _ rfl _ _ 22 rfl w1.heap.size 2 i0 (.int .i64 0) 1 Try.underlying22 hi hz0 hz1 .i64 .i64 _ _ 5 rfl rfl (by rfl) (by rfl) (by rw [hz2]; omega) (by unfold maxLen; omega) (Nat.le_refl _) ?_; intro w2 hown1 hgrow1; have HO2 := hid ((made_own hown1).lo (lo' := w.heap.size) (by omega)); have HB2 : Hid (Below w.heap.size w w2) := hid (HB1.out.trans (((Below.refl w1.heap.size w1).grown hgrow1 (Nat.le_refl _) (fun k hk => by cases hk)).mono (by omega))); clear hown1 hgrow1)
      go_loopw [13] (fun i wr => ∃ k : Nat, k ≤ n ∧ i = .int .i64 k ∧ Own wr w.heap.size wr.heap.size (.slice (some ⟨w1.heap.size, 0, none⟩) 5 5) (ecL xs k) ∧ Below w.heap.size w wr)
        (fun i _ => n - (intOf i).toNat)
      case atStart => exact ⟨0, Nat.zero_le _, rfl, by rw [ecL_zero]; exact HO2.out, HB2.out⟩
      case round =>
        obtain ⟨k, hk, rfl, hown, hbel⟩ := hrel
        have HO := hid hown
        have HB := hid hbel
        clear hown hbel HO2 HB2
        by_cases hlt : k < n
        · have HA := (HC.out k hlt).below HB.out
          obtain ⟨q, hq5, hxq⟩ := HK.out k hlt
          have HSt := hid (ecL_step xs k q (by rw [← HN.out]; exact hlt) hq5 hxq)
          have hbd := ecAt_bound xs k q (by rw [← HN.out]; exact hk)
          have c0 := HA.c0
          have c1 := HA.c1
          have c2 := HA.c2
          have c3 := HA.c3
          have c4 := HA.c4
          have c5 := HA.c5
          rw [hxq] at c0
          obtain ⟨x1, hx1⟩ : ∃ y, y = (xs.getD k oz).a1 := ⟨_, rfl⟩
          obtain ⟨x2, hx2⟩ : ∃ y, y = (xs.getD k oz).a2 := ⟨_, rfl⟩
          obtain ⟨x3, hx3⟩ : ∃ y, y = (xs.getD k oz).a3 := ⟨_, rfl⟩
          obtain ⟨x4, hx4⟩ : ∃ y, y = (xs.getD k oz).a4 := ⟨_, rfl⟩
          obtain ⟨x5, hx5⟩ : ∃ y, y = (xs.getD k oz).a5 := ⟨_, rfl⟩
          rw [← hx1] at c1
          rw [← hx2] at c2
          rw [← hx3] at c3
          rw [← hx4] at c4
          rw [← hx5] at c5
          clear hx1 hx2 hx3 hx4 hx5 HA hxq
          have hbE := (Below.refl wr.heap.size wr).alloc (Nat.le_refl _) (.cells #[.int .i64 ((q : Int) + 1), .int .i64 x1, .int .i64 x2, .int .i64 x3, .int .i64 x4, .int .i64 x5] 77)
          have HO1 := hid ((HO.out.chg (Chg.ofBelow (lo := 0) hbE) (.inr (.inr (Nat.zero_le _)))).hi hbE.size (Nat.le_refl _))
          have hcell := (HO1.out.at' q (by rw [ecL_len]; exact hq5)).1
          have hfr := (HO1.out.at' q (by rw [ecL_len]; exact hq5)).2
          rw [ecL_at xs k q hq5] at hcell
          have HS0 := hid (HO.out.set q (ecAt xs k q + 1)).1
          rw [HSt.out] at HS0
          have HBs := hid (HB.out.setCell (B := w.heap.size) (p := ⟨w1.heap.size, q, none⟩) (by show w.heap.size ≤ w1.heap.size; omega) (.int .i64 (ecAt xs k q + 1)))
          have d0 := (at_new ⟨(q : Int) + 1, x1, x2, x3, x4, x5⟩ 77 wr).c0
          simp only [Nat.zero_add] at d0
          have hgl := HO.out.1.lt w1.heap.size rfl
          have hgl2 : w1.heap.size < wr.heap.size := hgl.2
          have hsub : IntKind.i64.wrap ((q : Int) + 1 - 1) = (q : Int) := by rw [IntWalk.i64_in _ (by omega)]; omega
          have hsub2 : ((q : Int) + 1 - 1) = (q : Int) := by omega
          have HBE := hid (HB.out.alloc (by have := HB.out.size; omega) (.cells #[.int .i64 ((q : Int) + 1), .int .i64 x1, .int .i64 x2, .int .i64 x3, .int .i64 x4, .int .i64 x5] 77))
          clear hbE
          generalize ecAt xs k q = z at *
          go_wp2
          go_roundw
          case rel => exact ⟨k + 1, by omega, by go_num, (HS0.out.chg (Chg.ofBelow (lo := 0) ((Below.refl _ _).alloc (Nat.le_refl _) _)) (.inr (.inr (Nat.zero_le _)))).hi (by simp) (Nat.le_refl _), HBs.out.alloc (by have := HBs.out.size; simpa using this) _⟩
          case measure => simp [intOf]; omega
        · obtain rfl : k = n := by omega
          go_wp2
          go_ret2
          exact ⟨_, rfl, HO.out, HB.out⟩
end Go.Proofs.Ytiacfejileeieaa.ev
