/-
  Contracts of InversionsOf, of the program and of its model: both count the pairs that change their order.
-/
import Derived.Test.YtaconeliiicloaaBits
namespace Go.Proofs.Ytaconeliiicloaa.bt
open Go.RowKit Go.Proofs.Ytaconeliiicloaa.sl Go.Proofs.Ytaconeliiicloaa.pm

def sumN : Nat → (Nat → Nat) → Nat
  | 0, _ => 0
  | n + 1, f => sumN n f + f n
theorem sum_congr (n : Nat) (f g : Nat → Nat) (h : ∀ i, i < n → f i = g i) : sumN n f = sumN n g := by
  induction n with
  | zero => rfl
  | succ n ih => rw [sumN, sumN, ih (fun i hi => h i (by omega)), h n (by omega)]
theorem sum_zero (n : Nat) (f : Nat → Nat) (h : ∀ i, i < n → f i = 0) : sumN n f = 0 := by
  induction n with
  | zero => rfl
  | succ n ih => rw [sumN, ih (fun i hi => h i (by omega)), h n (by omega)]
theorem sum_add (n : Nat) (f g : Nat → Nat) : sumN n (fun i => f i + g i) = sumN n f + sumN n g := by
  induction n with
  | zero => rfl
  | succ n ih => simp only [sumN, ih]; omega
theorem sum_swap (n m : Nat) (g : Nat → Nat → Nat) : sumN n (fun i => sumN m (fun j => g i j)) = sumN m (fun j => sumN n (fun i => g i j)) := by
  induction n with
  | zero => simp only [sumN]; exact (sum_zero m _ (fun _ _ => rfl)).symm
  | succ n ih =>
    rw [sumN, ih, ← sum_add]
    rfl
theorem sum_more (n m : Nat) (f : Nat → Nat) (hnm : n ≤ m) (h : ∀ i, n ≤ i → i < m → f i = 0) : sumN m f = sumN n f := by
  induction m with
  | zero => obtain rfl : n = 0 := by omega
            rfl
  | succ m ih =>
    rcases Nat.lt_or_ge n (m + 1) with h1 | h1
    · rw [sumN, ih (by omega) (fun i a b => h i a (by omega)), h m (by omega) (by omega)]; omega
    · obtain rfl : n = m + 1 := by omega
      rfl
theorem sum_le (n c : Nat) (f : Nat → Nat) (h : ∀ i, i < n → f i ≤ c) : sumN n f ≤ n * c := by
  induction n with
  | zero => simp [sumN]
  | succ n ih =>
    have h1 := ih (fun i hi => h i (by omega))
    have h2 := h n (by omega)
    rw [sumN, Nat.add_mul]; omega

/-- 1 where the things i and j change their order. -/
def pr (p : List Int) (i j : Nat) : Nat := if i < j ∧ j < p.length ∧ p.getD j 0 < p.getD i 0 then 1 else 0
theorem pr_le (p : List Int) (i j : Nat) : pr p i j ≤ 1 := by unfold pr; split <;> omega
/-- How many pairs change their order. -/
def invs (p : List Int) : Nat := sumN p.length fun j => sumN j fun i => pr p i j

theorem cnt_sum (f x : Nat) : cnt f x = sumN f fun b => if x.testBit b = true then 1 else 0 := by
  induction f with
  | zero => rfl
  | succ f ih =>
    rw [sumN, ← ih]
    unfold cnt
    rw [List.range_succ, List.countP_append]
    simp only [List.countP_cons, List.countP_nil]
    omega
theorem row_cnt (p : List Int) (i : Nat) : cnt 16 (row p i) = sumN 16 fun j => pr p i j := by
  rw [cnt_sum]
  apply sum_congr
  intro j _
  rw [row, rowTo_bit]
  unfold pr
  by_cases h : i < j ∧ j < p.length ∧ p.getD j 0 < p.getD i 0
  · rw [if_pos h, if_pos (by simp only [decide_eq_true_eq]; exact ⟨h.2.1, h.1, h.2.2⟩)]
  · rw [if_neg h, if_neg (by simp only [decide_eq_true_eq]; rintro ⟨a, b, c⟩; exact h ⟨b, a, c⟩)]
theorem rows_sum (p : List Int) (hn : p.length ≤ 12) : sumN 12 (fun i => cnt 16 (row p i)) = invs p := by
  rw [sum_congr 12 _ _ (fun i _ => row_cnt p i), sum_swap]
  have h1 : sumN 16 (fun j => sumN 12 fun i => pr p i j) = sumN p.length (fun j => sumN 12 fun i => pr p i j) :=
    sum_more _ _ _ (by omega) (fun j hj _ => sum_zero _ _ (fun i _ => by unfold pr; rw [if_neg (by omega)]))
  rw [h1]
  apply sum_congr
  intro j hj
  exact sum_more _ _ _ (by omega) (fun i hi _ => by unfold pr; rw [if_neg (by omega)])
theorem invs_le (p : List Int) (hn : p.length ≤ 12) : invs p ≤ 144 := by
  have h1 := sum_le p.length 12 (fun j => sumN j fun i => pr p i j) (fun j hj => by
    have := sum_le j 1 (fun i => pr p i j) (fun i _ => pr_le p i j)
    omega)
  have h2 : p.length * 12 ≤ 12 * 12 := Nat.mul_le_mul_right _ hn
  unfold invs
  omega

theorem idx (f : Nat → Nat) (k : Nat) (hk : k < 12) (w : World) : (Instr.index 79 (.agg (arr f)) (.int .i64 k)).run Try.prog w = .ok (.int .u16 (f k : Int)) w := by
  have h1 : 0 ≤ (k : Int) ∧ (k : Int) < 12 := by omega
  have h2 := arr_at f k hk
  have h3 : (Try.prog.info? 77).map (fun i => (i.zero, i.size, i.bytes)) = some (some (.int .u16 0), 1, 2) := by kernel_rfl
  obtain ⟨i0, hi, hz0, hz1, hz2⟩ := info_parts h3
  simp [Instr.index, run_underlying Try.underlying79, asIntOf, h1, sizeOf, typeInfo, hi, hz1, go_sem, h2]
  intro h; omega

theorem size (f : Nat → Nat) (hf : ∀ i, i < 12 → f i < 65536) (w : World) :
    Calls Try.prog 67 #[.agg (arr f)] w fun e w' => e = .returned (.int .i64 (sumN 12 fun i => cnt 16 (f i))) ∧ Below w.heap.size w w' := by
  have HF := hid hf
  clear hf
  have hg : (w.alloc (.cells (arr f) 79)).heap[w.heap.size]? = some (.cells (arr f) 79 (0, 0)) := heap_alloc_new _ _
  have HG := hid hg
  clear hg
  go_enter Try.func67, Try.ntmps67
  go_wp2_with (refine wpList_load_row rfl 79 _ rfl w.heap.size rfl 79 (arr f) (0, 0) _ HG.out Try.underlying79 rfl (infoP' _) ?_)
  clear HG
  go_loopw [3, 7] (fun sv iv wr => ∃ k : Nat, k ≤ 12 ∧ iv = .int .i64 k ∧ sv = .int .i64 (sumN k fun i => cnt 16 (f i)) ∧ Below w.heap.size w wr) (fun _ iv _ => 12 - (intOf iv).toNat)
  case atStart => exact ⟨0, by omega, rfl, rfl, (Below.refl _ _).alloc (Nat.le_refl _) _⟩
  case round =>
    obtain ⟨k, hk, rfl, rfl, hbel⟩ := hrel
    have HB := hid hbel
    clear hbel
    by_cases hlt : k < 12
    · have hix := idx f k hlt
      have hs := sum_le k 16 (fun i => cnt 16 (f i)) (fun i _ => cnt_le 16 (f i))
      have hc := cnt_le 16 (f k)
      have HS : Hid ((sumN (k + 1) fun i => cnt 16 (f i)) = (sumN k fun i => cnt 16 (f i)) + cnt 16 (f k)) := hid rfl
      generalize (sumN k fun i => cnt 16 (f i)) = s at *
      go_wp2_with fail
      refine (ones (f k) (HF.out k hlt) wr).mono ?_
      rintro e w1 ⟨rfl, b1⟩
      have HB1 := hid (HB.out.trans (b1.mono HB.out.size))
      clear b1
      go_wp2
      go_roundw
      case rel => exact ⟨k + 1, by omega, by go_num, by rw [HS.out]; go_num, HB1.out⟩
      case measure => simp [intOf]; omega
    · obtain rfl : k = 12 := by omega
      go_wp2
      go_ret
      exact ⟨rfl, HB.out⟩

def invP (p : List Int) : Int := if permB p = true then (invs p : Int) else -1

theorem implInversions (p : List Int) (v : Value) (B : Nat) (w : World) (ha : Ints w B v p) (hB : B ≤ w.heap.size) (hn : p.length ≤ 1099511627776) :
    Calls Try.prog 19 #[v] w fun e w' => e = .returned (.int .i64 (invP p)) ∧ Below w.heap.size w w' := by
  have HA := hid ha
  clear ha
  by_cases h : permB p = true
  · have HF : Hid (invP p = (invs p : Int)) := hid (by rw [invP, if_pos h])
    have hl := fn.perm_len h
    have HRS := hid (rows_sum p hl)
    have HLT : Hid (∀ i, i < 12 → row p i < 65536) := hid fun i _ => by
      have h1 := rowTo_lt p i p.length
      have h2 : 2 ^ p.length ≤ 2 ^ 12 := Nat.pow_le_pow_right (by omega) hl
      have h3 : (2 : Nat) ^ 12 = 4096 := by decide
      unfold row; omega
    go_enter Try.func19, Try.ntmps19
    go_wp2_with fail
    refine (implOk p v _ w HA.out hB hn).mono ?_
    rintro e w1 ⟨rfl, b1⟩
    have HA1 := hid (HA.out.chg (Chg.ofBelow (lo := 0) b1) (.inr (Nat.zero_le _)))
    have C1 := hid b1
    clear b1
    go_wp2_with fail
    refine (pairs p v _ w1 HA1.out (Nat.le_trans hB C1.out.size) hl).mono ?_
    rintro e w2 ⟨rfl, b2⟩
    have C2 := hid (C1.out.trans (b2.mono C1.out.size))
    clear b2
    go_wp2_with fail
    refine (size (row p) HLT.out w2).mono ?_
    rintro e w3 ⟨rfl, b3⟩
    have C3 := hid (C2.out.trans (b3.mono C2.out.size))
    clear b3
    go_wp2
    go_ret
    exact ⟨by rw [HF.out, ← HRS.out]; rfl, C3.out⟩
  · have h' : permB p = false := by simpa using h
    have HF : Hid (invP p = -1) := hid (by rw [invP, if_neg h])
    clear h
    go_enter Try.func19, Try.ntmps19
    go_wp2_with fail
    refine (implOk p v _ w HA.out hB hn).mono ?_
    rintro e w1 ⟨rfl, b1⟩
    have C1 := hid b1
    clear b1
    go_wp2
    go_ret
    exact ⟨by rw [HF.out]; rfl, C1.out⟩

theorem pr_yes (p : List Int) (i j : Nat) (h : i < j ∧ j < p.length ∧ p.getD j 0 < p.getD i 0) : pr p i j = 1 := by unfold pr; rw [if_pos h]
theorem pr_no (p : List Int) (i j : Nat) (h : ¬ p.getD j 0 < p.getD i 0) : pr p i j = 0 := by unfold pr; rw [if_neg (by rintro ⟨_, _, h'⟩; exact h h')]

end Go.Proofs.Ytaconeliiicloaa.bt
