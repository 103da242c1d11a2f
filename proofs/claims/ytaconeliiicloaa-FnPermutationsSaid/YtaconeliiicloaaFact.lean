/-
  Contracts of both factorials and of RankOf, of the program and of its model.
-/
import Derived.Test.YtaconeliiicloaaInvs
namespace Go.Proofs.Ytaconeliiicloaa.bt
open Go.RowKit Go.Proofs.Ytaconeliiicloaa.sl Go.Proofs.Ytaconeliiicloaa.pm

def fact : Nat → Nat
  | 0 => 1
  | n + 1 => fact n * (n + 1)
theorem fact_pos (n : Nat) : 0 < fact n := by
  induction n with
  | zero => simp [fact]
  | succ n ih => exact Nat.mul_pos ih (by omega)
theorem fact_mono (n m : Nat) (h : n ≤ m) : fact n ≤ fact m := by
  induction m with
  | zero => obtain rfl : n = 0 := by omega
            exact Nat.le_refl _
  | succ m ih =>
    rcases Nat.lt_or_ge n (m + 1) with h1 | h1
    · exact Nat.le_trans (ih (by omega)) (Nat.le_mul_of_pos_right _ (by omega))
    · obtain rfl : n = m + 1 := by omega
      exact Nat.le_refl _
theorem fact_le (n : Nat) (h : n ≤ 12) : fact n ≤ 479001600 := fact_mono n 12 h
theorem mulw (a b : Nat) (h : a * b ≤ 9223372036854775807) : wrap64 ((a : Int) * (b : Int)) = ((a * b : Nat) : Int) := by
  rw [← Int.natCast_mul]
  exact IntWalk.wrap64_in _ ⟨by omega, by omega⟩

theorem fact_step (k : Nat) (hk : k + 1 ≤ 12) : wrap64 ((fact k : Int) * ((k : Int) + 1)) = (fact (k + 1) : Int) := by
  have hf := fact_le (k + 1) hk
  have hw := mulw (fact k) (k + 1) (by show fact (k + 1) ≤ _; omega)
  have e : ((k + 1 : Nat) : Int) = (k : Int) + 1 := by omega
  rw [e] at hw
  exact hw

theorem implFact (n : Nat) (w : World) (hn : n ≤ 12) : Calls Try.prog 68 #[.int .i64 n] w fun e w' => e = .returned (.int .i64 (fact n)) ∧ w = w' := by
  go_enter Try.func68, Try.ntmps68
  go_wp2
  go_loop [3, 6] (fun fv iv => ∃ k : Nat, k ≤ n ∧ iv = .int .i64 k ∧ fv = .int .i64 (fact k)) (fun _ iv => n - (intOf iv).toNat)
  case atStart => exact ⟨0, by omega, rfl, rfl⟩
  case round =>
    obtain ⟨k, hk, rfl, rfl⟩ := hrel
    by_cases hlt : k < n
    · have HS := hid (fact_step k (by omega))
      generalize fact k = q at *
      go_wp2
      go_round
      case rel => exact ⟨k + 1, by omega, by go_num, by rw [HS.out]⟩
      case measure => simp [intOf]; omega
    · obtain rfl : k = n := by omega
      go_wp2
      go_ret
      exact ⟨rfl, rfl⟩

/-! ### the rank -/
/-- How many smaller things stand behind thing i. -/
def lessL (p : List Int) (i : Nat) : Nat := sumN p.length fun j => pr p i j
theorem lessL_cnt (p : List Int) (hn : p.length ≤ 12) (i : Nat) : cnt 16 (row p i) = lessL p i := by
  rw [row_cnt]
  exact sum_more _ _ _ (by omega) (fun j hj _ => by unfold pr; rw [if_neg (by omega)])
theorem lessL_le (p : List Int) (i : Nat) : lessL p i ≤ p.length := by
  have := sum_le p.length 1 (fun j => pr p i j) (fun j _ => pr_le p i j)
  unfold lessL; omega
/-- The program's way: the digits one after the other. -/
def horner (p : List Int) : Nat → Nat
  | 0 => 0
  | k + 1 => horner p k * (p.length - k) + lessL p k
def rankN (p : List Int) : Nat := horner p p.length
theorem horner_le (p : List Int) (hn : p.length ≤ 12) (k : Nat) : horner p k ≤ 13 ^ k - 1 := by
  induction k with
  | zero => simp [horner]
  | succ k ih =>
    have h1 := lessL_le p k
    have h2 : horner p k * (p.length - k) ≤ (13 ^ k - 1) * 12 := Nat.mul_le_mul ih (by omega)
    have h3 : 0 < 13 ^ k := Nat.pow_pos (by omega)
    rw [horner, Nat.pow_succ]
    omega
theorem horner_sum (p : List Int) (k : Nat) (hk : k ≤ p.length) : (sumN k fun i => lessL p i * fact (p.length - 1 - i)) = horner p k * fact (p.length - k) := by
  induction k with
  | zero => simp [sumN, horner]
  | succ k ih =>
    rw [sumN, ih (by omega), horner]
    have e : p.length - k = (p.length - (k + 1)) + 1 := by omega
    have e2 : p.length - 1 - k = p.length - (k + 1) := by omega
    rw [e2, e, fact, Nat.add_mul, ← e]
    congr 1
    rw [Nat.mul_assoc, Nat.mul_comm (fact (p.length - (k + 1)))]
theorem horner_all (p : List Int) : (sumN p.length fun i => lessL p i * fact (p.length - 1 - i)) = rankN p := by
  rw [horner_sum p p.length (Nat.le_refl _), Nat.sub_self]; simp [fact, rankN]
def rankP (p : List Int) : Int := if permB p = true then (rankN p : Int) else -1

theorem horner_step (p : List Int) (hn : p.length ≤ 12) (k : Nat) (hk : k < p.length) : wrap64 (wrap64 ((horner p k : Int) * ((p.length : Int) - (k : Int))) + (lessL p k : Int)) = (horner p (k + 1) : Int) := by
  have h1 := horner_le p hn k
  have h2 := horner_le p hn (k + 1)
  have h3 := lessL_le p k
  have h4 : 13 ^ (k + 1) ≤ 13 ^ 12 := Nat.pow_le_pow_right (by omega) (by omega)
  have h5 : (13 : Nat) ^ 12 = 23298085122481 := by decide
  have e : (p.length : Int) - (k : Int) = ((p.length - k : Nat) : Int) := by omega
  have h6 : horner p k * (p.length - k) + lessL p k = horner p (k + 1) := rfl
  rw [e, mulw _ _ (by omega), ← h6]
  rw [IntWalk.wrap64_in _ ⟨by omega, by omega⟩]
  omega

set_option maxHeartbeats 800000 in
theorem implRank (p : List Int) (v : Value) (B : Nat) (w : World) (ha : Ints w B v p) (hB : B ≤ w.heap.size) (hn : p.length ≤ 1099511627776) :
    Calls Try.prog 21 #[v] w fun e w' => e = .returned (.int .i64 (rankP p)) ∧ Below w.heap.size w w' := by
  have HA := hid ha
  obtain ⟨ao, cap, hv⟩ := fn.ints_slice ha
  clear ha
  by_cases h : permB p = true
  · have HF : Hid (rankP p = (rankN p : Int)) := hid (by rw [rankP, if_pos h])
    have hl := fn.perm_len h
    have HLC := hid (lessL_cnt p hl)
    have HSt := hid (horner_step p hl)
    have HLT : Hid (∀ i, row p i < 65536) := hid fun i => by
      have h1 := rowTo_lt p i p.length
      have h2 : 2 ^ p.length ≤ 2 ^ 12 := Nat.pow_le_pow_right (by omega) hl
      have h3 : (2 : Nat) ^ 12 = 4096 := by decide
      unfold row; omega
    obtain ⟨n, hnn⟩ : ∃ n, n = p.length := ⟨_, rfl⟩
    rw [← hnn] at hv hl HSt
    subst hv
    have HN := hid hnn
    clear hnn
    go_enter Try.func21, Try.ntmps21
    go_wp2_with fail
    refine (implOk p _ _ w HA.out hB hn).mono ?_
    rintro e w1 ⟨rfl, b1⟩
    have HA1 := hid (HA.out.chg (Chg.ofBelow (lo := 0) b1) (.inr (Nat.zero_le _)))
    have C1 := hid b1
    clear b1
    go_wp2_with fail
    refine (pairs p _ _ w1 HA1.out (Nat.le_trans hB C1.out.size) (by rw [← HN.out]; exact hl)).mono ?_
    rintro e w2 ⟨rfl, b2⟩
    have C2 := hid (C1.out.trans (b2.mono C1.out.size))
    clear b2
    have hg0 := heap_alloc_new w2 (.cells (arr fun _ => 0) 79)
    rw [arr_zero] at hg0
    have HG := hid hg0
    clear hg0
    go_wp2_with (refine wpList_store_row rfl 79 _ _ rfl w2.heap.size (arr (row p)) rfl rfl 79 _ HG.out (infoP' _) (by rw [arr_size]; rfl) (arr_one _) ?_)
    have HR := hid (setRow_heap _ w2.heap.size _ (arr (row p)) 79 (0, 0) HG.out)
    have HB := hid (((Below.refl w2.heap.size w2).alloc (Nat.le_refl _) (.cells #[.int .u16 0, .int .u16 0, .int .u16 0, .int .u16 0, .int .u16 0, .int .u16 0, .int .u16 0, .int .u16 0, .int .u16 0, .int .u16 0, .int .u16 0, .int .u16 0] 79)).trans (c := (w2.alloc (.cells #[.int .u16 0, .int .u16 0, .int .u16 0, .int .u16 0, .int .u16 0, .int .u16 0, .int .u16 0, .int .u16 0, .int .u16 0, .int .u16 0, .int .u16 0, .int .u16 0] 79)).setRow w2.heap.size (arr (row p))) ⟨rfl, rfl, rfl, by simp, fun k hk => setRow_other _ _ _ _ (by omega)⟩)
    generalize (w2.alloc (.cells #[.int .u16 0, .int .u16 0, .int .u16 0, .int .u16 0, .int .u16 0, .int .u16 0, .int .u16 0, .int .u16 0, .int .u16 0, .int .u16 0, .int .u16 0, .int .u16 0] 79)).setRow w2.heap.size (arr (row p)) = w3 at *
    clear HG
    go_loopw [4, 13] (fun rv iv wr => ∃ k : Nat, k ≤ n ∧ iv = .int .i64 k ∧ rv = .int .i64 (horner p k) ∧ Rows12 wr w2.heap.size 79 (row p) ∧ Below w2.heap.size w2 wr) (fun _ iv _ => n - (intOf iv).toNat)
    case atStart => exact ⟨0, by omega, rfl, rfl, HR.out, HB.out⟩
    case round =>
      obtain ⟨k, hk, rfl, rfl, hr, hbel⟩ := hrel
      have HRr := hid hr
      have HBr := hid hbel
      clear hr hbel
      by_cases hlt : k < n
      · have hcell := (HRr.out.at' k (by omega)).1
        have HS := hid (HSt.out k hlt)
        have hz := HBr.out.size
        generalize horner p k = q at *
        go_wp2_with fail
        refine (ones (row p k) (HLT.out k) wr).mono ?_
        rintro e w5 ⟨rfl, b5⟩
        have HR5 := hid (HRr.out.chg (Chg.ofBelow (lo := 0) b5) (by omega))
        have HB5 := hid (HBr.out.trans (b5.mono hz))
        have HL := hid (HLC.out k)
        clear b5
        go_wp2
        go_roundw
        case rel => exact ⟨k + 1, by omega, by go_num, by rw [HL.out, HS.out], HR5.out, HB5.out⟩
        case measure => simp [intOf]; omega
      · obtain rfl : k = n := by omega
        go_wp2
        go_ret
        exact ⟨by rw [HF.out, rankN, ← HN.out]; rfl, C2.out.trans (HBr.out.mono C2.out.size)⟩
  · have h' : permB p = false := by simpa using h
    have HF : Hid (rankP p = -1) := hid (by rw [rankP, if_neg h])
    clear h hv
    go_enter Try.func21, Try.ntmps21
    go_wp2_with fail
    refine (implOk p v _ w HA.out hB hn).mono ?_
    rintro e w1 ⟨rfl, b1⟩
    have C1 := hid b1
    clear b1
    go_wp2
    go_ret
    exact ⟨by rw [HF.out]; rfl, C1.out⟩
end Go.Proofs.Ytaconeliiicloaa.bt
