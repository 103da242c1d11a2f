/-
  KindCounts of both sides.
-/
import Derived.Test.YtkpilmcaeemfmaaMo
import Derived.Test.YtkpilmcaeemfmaaAp
namespace Go.Proofs.Ytkpilmcaeemfmaa.os
open Go.RowKit Go.Sort Go.Proofs.Ytkpilmcaeemfmaa.sl Go.Proofs.Ytkpilmcaeemfmaa.vo Go.Proofs.Ytkpilmcaeemfmaa.nd
set_option linter.unusedVariables false
set_option linter.unusedSimpArgs false

theorem madeB {B g : Nat} {w1 : World} {n : Nat} (h : w1.ownsRow B 2 1 (.slice (some ⟨g, 0, none⟩) n n) n (madeCells (Value.int .i64 0).cells (n * 1)).toList) :
    Own w1 B w1.heap.size (.slice (some ⟨g, 0, none⟩) n n) (List.replicate n 0) := by
  rw [zeros_list] at h
  refine Own.mk' ?_
  simpa using h
theorem val_kind {x : OpV} (h : valB x = true) : ∃ m : Nat, m < 9 ∧ x.k = (m : Int) + 1 := by
  by_cases hk : 1 ≤ x.k ∧ x.k ≤ 9
  · exact ⟨(x.k - 1).toNat, by omega, by omega⟩
  · rw [valB, opB_none _ _ _ _ _ _ _ hk] at h; cases h
/-- The counts of the first operations. -/
def kc (xs : List OpV) : Nat → List Int
  | 0 => List.replicate 9 0
  | k + 1 => (kc xs k).set ((xs.getD k oz).k - 1).toNat ((kc xs k).getD ((xs.getD k oz).k - 1).toNat 0 + 1)
theorem kc_len (xs : List OpV) : ∀ k, (kc xs k).length = 9
  | 0 => by simp [kc]
  | k + 1 => by simp [kc, kc_len xs k]
theorem kc_range (xs : List OpV) : ∀ k j, 0 ≤ (kc xs k).getD j 0 ∧ (kc xs k).getD j 0 ≤ (k : Int)
  | 0, j => by
    simp only [kc]
    have e : (List.replicate 9 (0 : Int)).getD j 0 = 0 := by
      by_cases h : j < 9
      · rw [List.getD, List.getElem?_replicate, if_pos h]; rfl
      · rw [List.getD, List.getElem?_replicate, if_neg h]; rfl
    rw [e]; omega
  | k + 1, j => by
    have h := kc_range xs k
    have h1 := h ((xs.getD k oz).k - 1).toNat
    have h2 := h j
    simp only [kc]
    generalize ((xs.getD k oz).k - 1).toNat = m at *
    generalize kc xs k = l at *
    by_cases e : m = j
    · subst e
      by_cases hl : m < l.length
      · have : (l.set m (l.getD m 0 + 1)).getD m 0 = l.getD m 0 + 1 := by simp [List.getD, hl]
        rw [this]; omega
      · have : (l.set m (l.getD m 0 + 1)).getD m 0 = l.getD m 0 := by rw [List.set_eq_of_length_le (by omega)]
        rw [this]; omega
    · have : (l.set m (l.getD m 0 + 1)).getD j 0 = l.getD j 0 := by simp [List.getD, List.getElem?_set, e]
      rw [this]; omega
theorem ops_all' {wd : Int} {xs : List OpV} (h : opsB wd xs = true) : xs.all (okB wd) = true := by
  simp only [opsB, Bool.and_eq_true, decide_eq_true_eq] at h
  exact h.2
def kcB (xs : List OpV) : List Int := if opsB 24 xs then kc xs xs.length else []

theorem kcB_len (xs : List OpV) : (kcB xs).length ≤ 20000 := by
  unfold kcB; split
  · rw [kc_len]; omega
  · simp

set_option maxRecDepth 100000 in
set_option maxHeartbeats 2000000 in
theorem specKC (xs : List OpV) (v : Value) (B : Nat) (w : World) (ha : Ops w B v xs) (hB : B ≤ w.heap.size) (hq : Small xs) :
    Calls Try.prog 59 #[v] w fun e w' => ∃ v', e = .returned v' ∧ Own w' w.heap.size w'.heap.size v' (kcB xs) ∧ Below w.heap.size w w' := by
  obtain ⟨i0, hi, hz0, hz1, hz2⟩ := info_parts info64
  have HS := hid (specOps 24 xs v B w ha hB hq)
  have hn := hq.len
  clear hq
  obtain ⟨y, hy⟩ : ∃ y, y = opsB 24 xs := ⟨_, rfl⟩
  rw [← hy] at HS
  have HR : Hid (kcB xs = if y then kc xs xs.length else []) := hid (by rw [hy]; rfl)
  cases y with
  | false =>
    have HR2 : Hid (kcB xs = []) := hid (by rw [HR.out]; simp)
    obtain ⟨ao, cap, rfl⟩ := ops_val ha
    clear ha hy HR
    generalize xs.length = n at *
    go_enter Try.func59, Try.ntmps59
    go_wp2_with fail
    refine HS.out.mono ?_
    rintro e w1 ⟨rfl, b1⟩
    have HB := hid b1
    have HO := hid (Own.nil w1 w.heap.size)
    clear b1
    go_wp2
    go_ret
    exact ⟨_, rfl, by rw [HR2.out]; exact HO.out, HB.out⟩
  | true =>
    have HR2 : Hid (kcB xs = kc xs xs.length) := hid (by rw [HR.out]; simp)
    have HV := hid (fun k (hk : k < xs.length) => val_kind (x := xs.getD k oz) (by have := all_at (ops_all' hy.symm) k hk; simp only [okB, Bool.and_eq_true] at this; exact this.1))
    clear hy HR
    rcases ha with ⟨rfl, ao, cap, rfl⟩ | ⟨hp, b, off, cap, rfl, hb, hc⟩
    · go_enter Try.func59, Try.ntmps59
      go_wp2_with fail
      refine HS.out.mono ?_
      rintro e w0 ⟨rfl, b1⟩
      have HB := hid b1
      have hsz := b1.size
      clear b1
      go_wp2_with (at_make; refine wpList_make_full _ rfl _ _ 29 rfl w.heap.size 2 i0 (.int .i64 0) 1 Try.underlying29 hi hz0 hz1 .i64 .i64 _ _ 9 rfl rfl (by rfl) (by rfl) (by rw [hz2]; omega) (by unfold maxLen; omega) hsz ?_; intro w1 hown1 hgrow1)
      have HO1 := hid (madeB hown1)
      have HB1 : Hid (Below w.heap.size w w1) := hid (HB.out.grown hgrow1 hsz (fun k hk => by cases hk))
      clear hown1 hgrow1
      refine wp_loop_rounds 1 ?_
      rw [rounds_succ]
      go_wp2
      go_ret
      exact ⟨_, rfl, by rw [HR2.out]; exact HO1.out, HB1.out⟩
    · have HC := hid hc
      clear hc
      obtain ⟨n, hnn⟩ : ∃ n, n = xs.length := ⟨_, rfl⟩
      rw [← hnn] at hp hn HC HR2 HV HS ⊢
      clear hnn
      go_enter Try.func59, Try.ntmps59
      go_wp2_with fail
      refine HS.out.mono ?_
      rintro e w0 ⟨rfl, b1⟩
      have HB := hid b1
      have hsz := b1.size
      clear b1
      go_wp2_with (at_make; refine wpList_make_full _ rfl _ _ 29 rfl w.heap.size 2 i0 (.int .i64 0) 1 Try.underlying29 hi hz0 hz1 .i64 .i64 _ _ 9 rfl rfl (by rfl) (by rfl) (by rw [hz2]; omega) (by unfold maxLen; omega) hsz ?_; intro w1 hown1 hgrow1)
      have HO1 := hid (madeB hown1)
      have HB1 : Hid (Below w.heap.size w w1) := hid (HB.out.grown hgrow1 hsz (fun k hk => by cases hk))
      clear hown1 hgrow1
      generalize w0.heap.size = g at *
      go_loopw [4] (fun i wr => ∃ k : Nat, k ≤ n ∧ i = .int .i64 k ∧ Own wr w.heap.size wr.heap.size (.slice (some ⟨g, 0, none⟩) 9 9) (kc xs k) ∧ Below w.heap.size w wr) (fun i _ => n - (intOf i).toNat)
      case atStart => exact ⟨0, Nat.zero_le _, rfl, HO1.out, HB1.out⟩
      case round =>
        obtain ⟨k, hk, rfl, hown, hbel⟩ := hrel
        have HO := hid hown
        have HBr := hid hbel
        clear hown hbel
        by_cases hlt : k < n
        · have h0 := ((HC.out k hlt).below HBr.out).c0
          obtain ⟨m, hm9, hm⟩ := HV.out k hlt
          rw [hm] at h0
          have hat := HO.out.at' m (by rw [kc_len]; exact hm9)
          have hcell := hat.1
          have hfr := hat.2
          have hr := kc_range xs k m
          have HN : Hid (kc xs (k + 1) = (kc xs k).set m ((kc xs k).getD m 0 + 1)) := hid (by rw [kc, hm]; simp)
          have HSt := hid (HO.out.set m ((kc xs k).getD m 0 + 1)).1
          generalize (kc xs k).getD m 0 = c at *
          clear hat hm
          have hgs : w.heap.size ≤ g := hsz
          go_wp2
          go_roundw
          case rel => exact ⟨k + 1, by omega, by go_num, by have := HSt.out; rw [← HN.out] at this; simpa using this, HBr.out.setCell (by simpa using hgs) _⟩
          case measure => simp [intOf]; omega
        · obtain rfl : k = n := by omega
          go_wp2
          go_ret
          exact ⟨_, rfl, by rw [HR2.out]; exact HO.out, HBr.out⟩

set_option maxRecDepth 100000 in
set_option maxHeartbeats 2000000 in
theorem implKC (xs : List OpV) (v : Value) (B : Nat) (w : World) (ha : Ops w B v xs) (hB : B ≤ w.heap.size) (hq : Small xs) :
    Calls Try.prog 61 #[v] w fun e w' => ∃ v', e = .returned v' ∧ Own w' w.heap.size w'.heap.size v' (kcB xs) ∧ Below w.heap.size w w' := by
  obtain ⟨i0, hi, hz0, hz1, hz2⟩ := info_parts info64
  have HS := hid (areFor 24 xs v B w ha hB hq)
  have hn := hq.len
  clear hq
  obtain ⟨y, hy⟩ : ∃ y, y = opsB 24 xs := ⟨_, rfl⟩
  rw [← hy] at HS
  have HR : Hid (kcB xs = if y then kc xs xs.length else []) := hid (by rw [hy]; rfl)
  cases y with
  | false =>
    have HR2 : Hid (kcB xs = []) := hid (by rw [HR.out]; simp)
    obtain ⟨ao, cap, rfl⟩ := ops_val ha
    clear ha hy HR
    generalize xs.length = n at *
    go_enter Try.func61, Try.ntmps61
    go_wp2_with fail
    refine HS.out.mono ?_
    rintro e w1 ⟨rfl, b1⟩
    have HB := hid b1
    have HO := hid (Own.nil w1 w.heap.size)
    clear b1
    go_wp2
    go_ret
    exact ⟨_, rfl, by rw [HR2.out]; exact HO.out, HB.out⟩
  | true =>
    have HR2 : Hid (kcB xs = kc xs xs.length) := hid (by rw [HR.out]; simp)
    have HV := hid (fun k (hk : k < xs.length) => val_kind (x := xs.getD k oz) (by have := all_at (ops_all' hy.symm) k hk; simp only [okB, Bool.and_eq_true] at this; exact this.1))
    clear hy HR
    rcases ha with ⟨rfl, ao, cap, rfl⟩ | ⟨hp, b, off, cap, rfl, hb, hc⟩
    · go_enter Try.func61, Try.ntmps61
      go_wp2_with fail
      refine HS.out.mono ?_
      rintro e w0 ⟨rfl, b1⟩
      have HB := hid b1
      have hsz := b1.size
      clear b1
      go_wp2_with (at_make; refine wpList_make_full _ rfl _ _ 29 rfl w.heap.size 2 i0 (.int .i64 0) 1 Try.underlying29 hi hz0 hz1 .i64 .i64 _ _ 9 rfl rfl (by rfl) (by rfl) (by rw [hz2]; omega) (by unfold maxLen; omega) hsz ?_; intro w1 hown1 hgrow1)
      have HO1 := hid (madeB hown1)
      have HB1 : Hid (Below w.heap.size w w1) := hid (HB.out.grown hgrow1 hsz (fun k hk => by cases hk))
      clear hown1 hgrow1
      refine wp_loop_rounds 1 ?_
      rw [rounds_succ]
      go_wp2
      go_ret
      exact ⟨_, rfl, by rw [HR2.out]; exact HO1.out, HB1.out⟩
    · have HC := hid hc
      clear hc
      obtain ⟨n, hnn⟩ : ∃ n, n = xs.length := ⟨_, rfl⟩
      rw [← hnn] at hp hn HC HR2 HV HS ⊢
      clear hnn
      go_enter Try.func61, Try.ntmps61
      go_wp2_with fail
      refine HS.out.mono ?_
      rintro e w0 ⟨rfl, b1⟩
      have HB := hid b1
      have hsz := b1.size
      clear b1
      go_wp2_with (at_make; refine wpList_make_full _ rfl _ _ 29 rfl w.heap.size 2 i0 (.int .i64 0) 1 Try.underlying29 hi hz0 hz1 .i64 .i64 _ _ 9 rfl rfl (by rfl) (by rfl) (by rw [hz2]; omega) (by unfold maxLen; omega) hsz ?_; intro w1 hown1 hgrow1)
      have HO1 := hid (madeB hown1)
      have HB1 : Hid (Below w.heap.size w w1) := hid (HB.out.grown hgrow1 hsz (fun k hk => by cases hk))
      clear hown1 hgrow1
      generalize w0.heap.size = g at *
      go_loopw [12] (fun i wr => ∃ k : Nat, k ≤ n ∧ i = .int .i64 k ∧ Own wr w.heap.size wr.heap.size (.slice (some ⟨g, 0, none⟩) 9 9) (kc xs k) ∧ Below w.heap.size w wr) (fun i _ => n - (intOf i).toNat)
      case atStart => exact ⟨0, Nat.zero_le _, rfl, HO1.out, HB1.out⟩
      case round =>
        obtain ⟨k, hk, rfl, hown, hbel⟩ := hrel
        have HO := hid hown
        have HBr := hid hbel
        have hgw : g < wr.heap.size := by
          exact hown.2.1 g rfl
        clear hown hbel
        by_cases hlt : k < n
        · have HA := (HC.out k hlt).below HBr.out
          obtain ⟨m, hm9, hm⟩ := HV.out k hlt
          have hr := kc_range xs k m
          have HN : Hid (kc xs (k + 1) = (kc xs k).set m ((kc xs k).getD m 0 + 1)) := hid (by rw [kc, hm]; simp)
          generalize xs.getD k oz = x at *
          obtain ⟨x0, x1, x2, x3, x4, x5, x6, x7⟩ := x
          simp only at hm
          subst hm
          have c0 := HA.c0
          have c1 := HA.c1
          have c2 := HA.c2
          have c3 := HA.c3
          have c4 := HA.c4
          have c5 := HA.c5
          have c6 := HA.c6
          have c7 := HA.c7
          simp only at c0 c1 c2 c3 c4 c5 c6 c7
          clear HA
          have hat := HO.out.at' m (by rw [kc_len]; exact hm9)
          have hcell := hat.1
          have hfr := hat.2
          have hgs : w.heap.size ≤ g := hsz
          have HSt := hid (HO.out.set m ((kc xs k).getD m 0 + 1)).1
          have HB2 := hid (HBr.out.setCell (p := ⟨g, m, none⟩) hgs (.int .i64 ((kc xs k).getD m 0 + 1)))
          generalize (kc xs k).getD m 0 = c at *
          clear hat
          go_wp2
          go_roundw
          case rel => exact ⟨k + 1, by omega, by go_num, by have := HSt.out; rw [← HN.out] at this; exact (br.own_al this _).hi (by simp) (Nat.le_refl _), HB2.out.alloc (by have := HB2.out.size; simpa using this) _⟩
          case measure => simp [intOf]; omega
        · obtain rfl : k = n := by omega
          go_wp2
          go_ret
          exact ⟨_, rfl, by rw [HR2.out]; exact HO.out, HBr.out⟩
end Go.Proofs.Ytkpilmcaeemfmaa.os
