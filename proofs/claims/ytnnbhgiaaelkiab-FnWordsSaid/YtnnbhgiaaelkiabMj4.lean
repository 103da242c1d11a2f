/-
  Pair sets: contracts of union and closed.
-/
import Derived.Test.YtnnbhgiaaelkiabMj3
namespace Go.Proofs.Ytnnbhgiaaelkiab.mj
open Go.RowKit Go.Proofs.Ytnnbhgiaaelkiab.sl Go.Proofs.Ytnnbhgiaaelkiab.bt Go.Proofs.Ytnnbhgiaaelkiab.la

theorem rows_al {w : World} {b T : Nat} {f : Nat → Nat} (h : Rows12 w b T f) (o : Obj) : Rows12 (w.alloc o) b T f := by
  unfold Rows12
  rw [Below.heap_alloc w o b h.lt]
  exact h
theorem rows_other {w : World} {b T : Nat} {f : Nat → Nat} (h : Rows12 w b T f) (c i : Nat) (u : Value) (hc : b ≠ c) : Rows12 (w.setCell ⟨c, i, none⟩ u) b T f := by
  unfold Rows12
  rw [heap_setCell_other _ _ _ _ (by intro e; simp at e; omega)]
  exact h

/-! ### union -/
def uSt (f h : Nat → Nat) (k r : Nat) : Nat := if r < k then f r ||| h r else f r
theorem uSt_zero (f h : Nat → Nat) : uSt f h 0 = f := by funext r; simp [uSt]
theorem uSt_at (f h : Nat → Nat) (k : Nat) : uSt f h k k = f k := by simp [uSt]
theorem uSt_step (f h : Nat → Nat) (k r : Nat) : uSt f h (k + 1) r = if r = k then f k ||| h k else uSt f h k r := by
  unfold uSt
  by_cases e : r = k
  · subst e; rw [if_pos (by omega), if_pos rfl]
  · rw [if_neg e]
    by_cases h1 : r < k
    · rw [if_pos (by omega), if_pos h1]
    · rw [if_neg (by omega), if_neg h1]
theorem or_val2 (x y : Nat) (hx : x < 65536) (hy : y < 65536) : bits .or .u16 (x : Int) (y : Int) = ((x ||| y : Nat) : Int) := u16_or_nat x y hx hy

set_option maxRecDepth 100000 in
set_option maxHeartbeats 800000 in
theorem union (f h : Nat → Nat) (hf : ∀ i, i < 12 → f i < 65536) (hh : ∀ i, i < 12 → h i < 65536) (w : World) :
    Calls Try.prog 83 #[.agg (arr f), .agg (arr h)] w fun e w' => e = .returned (.agg (arr (uSt f h 12))) ∧ Below w.heap.size w w' := by
  have h0 : Rows12 (((w.alloc (.cells (arr f) 86)).alloc (.cells (arr h) 86)).alloc (.cells (arr fun _ => 0) 86)) w.heap.size 86 f := rows_al (rows_al (rows_new w f) _) _
  have h1 : Rows12 (((w.alloc (.cells (arr f) 86)).alloc (.cells (arr h) 86)).alloc (.cells (arr fun _ => 0) 86)) (w.heap.size + 1) 86 h := by
    have := rows_al (rows_new (w.alloc (.cells (arr f) 86)) h) (.cells (arr fun _ => 0) 86)
    simpa using this
  have h2 : Rows12 (((w.alloc (.cells (arr f) 86)).alloc (.cells (arr h) 86)).alloc (.cells (arr fun _ => 0) 86)) (w.heap.size + 2) 86 (fun _ => 0) := by
    have := rows_new ((w.alloc (.cells (arr f) 86)).alloc (.cells (arr h) 86)) (fun _ => 0)
    simpa using this
  have hb : Below w.heap.size w (((w.alloc (.cells (arr f) 86)).alloc (.cells (arr h) 86)).alloc (.cells (arr fun _ => 0) 86)) := (((Below.refl w.heap.size w).alloc (Nat.le_refl _) _).alloc (by simp) _).alloc (by simp; omega) _
  have HH : Hid (_ ∧ _ ∧ _ ∧ _) := hid ⟨h0, h1, h2, hb⟩
  have HF := hid hf
  have HHh := hid hh
  clear h0 h1 h2 hb hf hh
  rw [arr_zero] at HH
  go_enter Try.func83, Try.ntmps83
  go_wp2
  go_loopw [6] (fun iv wr => ∃ k : Nat, k ≤ 12 ∧ iv = .int .i64 k ∧ Rows12 wr w.heap.size 86 (uSt f h k) ∧ Rows12 wr (w.heap.size + 1) 86 h ∧ Rows12 wr (w.heap.size + 2) 86 (fun _ => 0) ∧ Below w.heap.size w wr)
    (fun iv _ => 12 - (intOf iv).toNat)
  case atStart =>
    refine ⟨0, by omega, rfl, ?_, HH.out.2.1, HH.out.2.2.1, HH.out.2.2.2⟩
    rw [uSt_zero]
    exact HH.out.1
  case round =>
    obtain ⟨k, hk, rfl, hr0, hr1, hr2, hbel⟩ := hrel
    have HR0 := hid hr0
    have HR1 := hid hr1
    have HR2 := hid hr2
    have HB := hid hbel
    clear hr0 hr1 hr2 hbel HH
    by_cases hlt : k < 12
    · have c0 : wr.cell? ⟨w.heap.size, k, none⟩ = some (.int .u16 (f k : Int)) := by have := (HR0.out.at' k hlt).1; rwa [uSt_at] at this
      have f0 : wr.frozen? ⟨w.heap.size, k, none⟩ = false := (HR0.out.at' k hlt).2
      have c1 : wr.cell? ⟨w.heap.size + 1, k, none⟩ = some (.int .u16 (h k : Int)) := (HR1.out.at' k hlt).1
      have HE := hid (or_val2 (f k) (h k) (HF.out k hlt) (HHh.out k hlt))
      have HS := hid ((HR0.out.drewN 1).set k (f k ||| h k) hlt (uSt_step f h k))
      have HS1 := hid (rows_other (HR1.out.drewN 1) w.heap.size k (.int .u16 ((f k ||| h k : Nat) : Int)) (by omega))
      have HS2 := hid (rows_other (HR2.out.drewN 1) w.heap.size k (.int .u16 ((f k ||| h k : Nat) : Int)) (by omega))
      go_wp2
      go_region
      all_goals (try go_wp2)
      go_roundw
      case rel => exact ⟨k + 1, by omega, by go_num, by rw [HE.out]; exact HS.out, by rw [HE.out]; exact HS1.out, by rw [HE.out]; exact HS2.out, (bdrewN HB.out 1).setCell (by simp) _⟩
      case measure => simp [intOf]; omega
    · obtain rfl : k = 12 := by omega
      go_wp2_with (first | (refine wpList_load_row rfl 86 _ rfl w.heap.size rfl 86 (arr (uSt f h 12)) (0, 0) _ HR0.out Try.underlying86 rfl (infoP' _) ?_) | (refine wpList_store_row rfl 86 _ _ rfl (w.heap.size + 2) (arr (uSt f h 12)) rfl rfl 86 _ HR2.out (infoP' _) (arr_same _ _) (arr_one _) ?_))
      refine bodyPost_ret (v := .agg (arr (uSt f h 12))) (results_cell_row rfl _ _ (w.heap.size + 2) 86 (arr (uSt f h 12)) (0, 0) _ rfl (setRow_heap _ _ _ _ _ _ HR2.out) Try.underlying86 rfl (infoP' _)) rfl ⟨rfl, ?_⟩
      exact HB.out.trans ⟨rfl, rfl, rfl, by simp, fun k hk => setRow_other _ _ _ _ (by omega)⟩

/-! ### closed -/
/-- Row r while pivot j has met the rows below i. -/
def pv (f : Nat → Nat) (j i r : Nat) : Nat := if r < i ∧ (f r).testBit j = true then f r ||| f j else f r
def cls (f : Nat → Nat) : Nat → Nat → Nat
  | 0 => f
  | j + 1 => pv (cls f j) j j
theorem pv_zero (f : Nat → Nat) (j : Nat) : pv f j 0 = f := by funext r; simp [pv]
theorem pv_self (f : Nat → Nat) (j i r : Nat) (h : i ≤ r) : pv f j i r = f r := by rw [pv, if_neg (by omega)]
theorem pv_no (f : Nat → Nat) (j i : Nat) (h : (f i).testBit j = false) : pv f j (i + 1) = pv f j i := by
  funext r
  unfold pv
  by_cases e : r = i
  · subst e; rw [h]; simp
  · by_cases h1 : r < i
    · have : r < i + 1 := by omega
      simp [h1, this]
    · have : ¬ r < i + 1 := by omega
      simp [h1, this]
theorem pv_yes (f : Nat → Nat) (j i : Nat) (h : (f i).testBit j = true) (r : Nat) : pv f j (i + 1) r = if r = i then f i ||| f j else pv f j i r := by
  by_cases e : r = i
  · subst e; rw [if_pos rfl, pv, if_pos ⟨by omega, h⟩]
  · rw [if_neg e]
    unfold pv
    by_cases h1 : r < i
    · have : r < i + 1 := by omega
      simp [h1, this]
    · have : ¬ r < i + 1 := by omega
      simp [h1, this]
theorem pv_lt (f : Nat → Nat) (hf : ∀ i, f i < 2 ^ 12) (j i r : Nat) : pv f j i r < 2 ^ 12 := by
  unfold pv
  split
  · exact Nat.or_lt_two_pow (hf r) (hf j)
  · exact hf r
theorem cls_lt (f : Nat → Nat) (hf : ∀ i, f i < 2 ^ 12) (j r : Nat) : cls f j r < 2 ^ 12 := by
  induction j generalizing r with
  | zero => exact hf r
  | succ j ih => exact pv_lt _ ih j j r
theorem cls_bits {n : Nat} {u : Nat → Nat → Bool} (f : Nat → Nat) (hu : Up n u) (hf : ∀ i k, (f i).testBit k = u i k) (j i k : Nat) : (cls f j i).testBit k = reach u j i k := by
  induction j generalizing i k with
  | zero => exact hf i k
  | succ j ih =>
    have e1 : (cls f j j).testBit k = u j k := by rw [ih, reach_low hu j j k (by omega)]
    show (pv (cls f j) j j i).testBit k = (reach u j i k || (reach u j i j && u j k))
    unfold pv
    by_cases h1 : i < j
    · cases h2 : (cls f j i).testBit j
      · rw [if_neg (by simp)]
        rw [ih] at h2
        rw [ih, h2]; simp
      · rw [if_pos ⟨h1, rfl⟩, Nat.testBit_or, e1, ih]
        rw [ih] at h2
        rw [h2]; simp
    · rw [if_neg (by omega), ih]
      cases h2 : reach u j i j
      · simp
      · have := reach_up hu j i j h2; omega

set_option maxRecDepth 100000 in
set_option maxHeartbeats 1600000 in
theorem closed (f : Nat → Nat) (hf : ∀ i, f i < 2 ^ 12) (w : World) :
    Calls Try.prog 84 #[.agg (arr f)] w fun e w' => e = .returned (.agg (arr (cls f 12))) ∧ Below w.heap.size w w' := by
  have h0 : Rows12 ((w.alloc (.cells (arr f) 86)).alloc (.cells (arr fun _ => 0) 86)) w.heap.size 86 f := rows_al (rows_new w f) _
  have h1 : Rows12 ((w.alloc (.cells (arr f) 86)).alloc (.cells (arr fun _ => 0) 86)) (w.heap.size + 1) 86 (fun _ => 0) := by
    have := rows_new (w.alloc (.cells (arr f) 86)) (fun _ => 0)
    simpa using this
  have hb : Below w.heap.size w ((w.alloc (.cells (arr f) 86)).alloc (.cells (arr fun _ => 0) 86)) := ((Below.refl w.heap.size w).alloc (Nat.le_refl _) _).alloc (by simp) _
  have HH : Hid (_ ∧ _ ∧ _) := hid ⟨h0, h1, hb⟩
  have HF := hid hf
  have h4096 : (2 : Nat) ^ 12 = 4096 := by decide
  clear h0 h1 hb hf
  rw [arr_zero] at HH
  go_enter Try.func84, Try.ntmps84
  go_wp2
  go_loopw [5] (fun iv wr => ∃ j : Nat, j ≤ 12 ∧ iv = .int .i64 j ∧ Rows12 wr w.heap.size 86 (cls f j) ∧ Rows12 wr (w.heap.size + 1) 86 (fun _ => 0) ∧ Below w.heap.size w wr)
    (fun iv _ => 12 - (intOf iv).toNat)
  case atStart => exact ⟨0, by omega, rfl, HH.out.1, HH.out.2.1, HH.out.2.2⟩
  case round =>
    obtain ⟨j, hj, rfl, hr0, hr1, hbel⟩ := hrel
    obtain ⟨wo, hwo⟩ : ∃ wo : World, wo = wr := ⟨_, rfl⟩
    subst hwo
    have HR0 := hid hr0
    have HR1 := hid hr1
    have HB := hid hbel
    clear hr0 hr1 hbel HH
    by_cases hlt : j < 12
    · have HC := hid (cls_lt f HF.out j)
      have HNx : Hid (cls f (j + 1) = pv (cls f j) j j) := hid rfl
      generalize cls f j = r at *
      have hlt' : (j : Int) < 12 := by omega
      have hltd : decide ((j : Int) < 12) = true := decide_eq_true hlt'
      go_wp2
      go_loopw [9] (fun iv wx => ∃ i : Nat, i ≤ j ∧ iv = .int .i64 i ∧ Rows12 wx w.heap.size 86 (pv r j i) ∧ Rows12 wx (w.heap.size + 1) 86 (fun _ => 0) ∧ Below w.heap.size w wx)
        (fun iv _ => j - (intOf iv).toNat)
      case atStart => exact ⟨0, Nat.zero_le _, rfl, by rw [pv_zero]; exact HR0.out, HR1.out, HB.out⟩
      case round =>
        obtain ⟨i, hi, rfl, hq0, hq1, hqb⟩ := hrel
        have HQ0 := hid hq0
        have HQ1 := hid hq1
        have HQB := hid hqb
        have hz := hq1.lt
        clear hq0 hq1 hqb HR0 HR1 HB
        by_cases hil : i < j
        · have hil' : (i : Int) < (j : Int) := by omega
          have HP := hid (pv_lt r HC.out j i)
          have HHas := hid (has (pv r j i) i j (by omega) hlt (by have := HP.out i; omega) wr)
          rw [pv_self r j i i (Nat.le_refl _)] at HHas
          have b1 : Below wr.heap.size wr (wr.alloc (.cells (arr (pv r j i)) 86)) := (Below.refl _ _).alloc (Nat.le_refl _) _
          have HA0 := hid (rows_al HQ0.out (.cells (arr (pv r j i)) 86))
          have HA1 := hid (rows_al HQ1.out (.cells (arr (pv r j i)) 86))
          have HAB := hid (HQB.out.trans (b1.mono (by omega)))
          clear b1
          cases hbit : (r i).testBit j
          · have HD := hid (pv_no r j i hbit)
            rw [hbit] at HHas
            clear hbit
            go_wp2_with (first | (refine wpList_load_row rfl 86 _ rfl w.heap.size rfl 86 (arr (pv r j i)) (0, 0) _ HQ0.out Try.underlying86 rfl (infoP' _) ?_) | (go_at_call 87; refine HHas.out.mono ?_; rintro e w' ⟨rfl, rfl⟩))
            go_roundw
            case rel => exact ⟨i + 1, by omega, by go_num, by rw [HD.out]; exact HA0.out, HA1.out, HAB.out⟩
            case measure => simp [intOf]; omega
          · have HD := hid (pv_yes r j i hbit)
            rw [hbit] at HHas
            have hri := HC.out i
            have hrj := HC.out j
            have HE := hid (or_val2 (r i) (r j) (by omega) (by omega))
            clear hbit
            go_wp2_with (first | (refine wpList_load_row rfl 86 _ rfl w.heap.size rfl 86 (arr (pv r j i)) (0, 0) _ HQ0.out Try.underlying86 rfl (infoP' _) ?_) | (go_at_call 87; refine HHas.out.mono ?_; rintro e w' ⟨rfl, rfl⟩))
            clear HQ0 HQ1 HQB HHas
            generalize wr.alloc (.cells (arr (pv r j i)) 86) = w2 at *
            have c0 : w2.cell? ⟨w.heap.size, i, none⟩ = some (.int .u16 (r i : Int)) := by have := (HA0.out.at' i (by omega)).1; rwa [pv_self r j i i (Nat.le_refl _)] at this
            have f0 : w2.frozen? ⟨w.heap.size, i, none⟩ = false := (HA0.out.at' i (by omega)).2
            have c1 : w2.cell? ⟨w.heap.size, j, none⟩ = some (.int .u16 (r j : Int)) := by have := (HA0.out.at' j hlt).1; rwa [pv_self r j i j (by omega)] at this
            have HS := hid ((HA0.out.drewN 1).set i (r i ||| r j) (by omega) HD.out)
            have HS1 := hid (rows_other (HA1.out.drewN 1) w.heap.size i (.int .u16 ((r i ||| r j : Nat) : Int)) (by omega))
            go_region
            all_goals (try go_wp2)
            go_roundw
            case rel => exact ⟨i + 1, by omega, by go_num, by rw [HE.out]; exact HS.out, by rw [HE.out]; exact HS1.out, (bdrewN HAB.out 1).setCell (by simp) _⟩
            case measure => simp [intOf]; omega
        · obtain rfl : i = j := by omega
          go_wp2
          go_roundw
          case rel => exact ⟨i + 1, by omega, by go_num, by rw [HNx.out]; exact HQ0.out, HQ1.out, HQB.out⟩
          case measure => simp [intOf]; omega
    · obtain rfl : j = 12 := by omega
      go_wp2_with (first | (refine wpList_load_row rfl 86 _ rfl w.heap.size rfl 86 (arr (cls f 12)) (0, 0) _ HR0.out Try.underlying86 rfl (infoP' _) ?_) | (refine wpList_store_row rfl 86 _ _ rfl (w.heap.size + 1) (arr (cls f 12)) rfl rfl 86 _ HR1.out (infoP' _) (arr_same _ _) (arr_one _) ?_))
      refine bodyPost_ret (v := .agg (arr (cls f 12))) (results_cell_row rfl _ _ (w.heap.size + 1) 86 (arr (cls f 12)) (0, 0) _ rfl (setRow_heap _ _ _ _ _ _ HR1.out) Try.underlying86 rfl (infoP' _)) rfl ⟨rfl, ?_⟩
      exact HB.out.trans ⟨rfl, rfl, rfl, by simp, fun k hk => setRow_other _ _ _ _ (by omega)⟩

end Go.Proofs.Ytnnbhgiaaelkiab.mj
