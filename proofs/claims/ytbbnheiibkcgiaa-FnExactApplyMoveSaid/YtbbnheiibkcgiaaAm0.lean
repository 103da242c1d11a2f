/-
  A move applied to needles: mathematics; slices.Index, slices.Compact, the test of a column that would be passed (both sides).
-/
import Derived.Test.YtbbnheiibkcgiaaMz0
import Derived.Test.YtbbnheiibkcgiaaBv
import Derived.Test.YtbbnheiibkcgiaaH1
import Derived.Test.YtbbnheiibkcgiaaRed
import Derived.Shelf.SlicesG.Cells
namespace Go.Proofs.Ytbbnheiibkcgiaa.mo
open Go.RowKit Go.Sort Go.Proofs.Ytbbnheiibkcgiaa.sl Go.Proofs.Ytbbnheiibkcgiaa.pm
set_option linter.unusedVariables false

/-- Would a column on x be passed by a move from f to t? -/
def psB (f t x : Int) : Bool := if f < t then decide (f + 1 ≤ x ∧ x ≤ t) else decide (t + 1 ≤ x ∧ x ≤ f - 1)
def sbI (f t x : Int) : Int := if x = f then t else x
theorem ps_self (f t : Int) : psB f t f = false := by
  unfold psB
  split <;> simp <;> omega
def eqB (f x : Int) : Bool := f == x
/-- The code of the answer. -/
def amC (xs : List Int) (f t : Int) : Int := if (plB xs && mvB f t) = true then (if xs.any (eqB f) = true then (if xs.any (psB f t) = true then 12 else 0) else 7) else 1
def subL (f t : Int) (xs : List Int) : List Int := xs.map (sbI f t)
def cpL (L : List Int) (k : Nat) : List Int := Lib.compactUpTo L.toArray k
def amW (xs : List Int) (f t : Int) : List Int := if amC xs f t = 0 then cpL (subL f t xs) xs.length else []

theorem arr_get (L : List Int) (m : Nat) : L.toArray[m]! = L.getD m 0 := by
  simp only [List.getElem!_toArray, List.getD_eq_getElem?_getD]
  cases h : L[m]? with
  | none => rw [List.getElem!_eq_getElem?_getD, h]; rfl
  | some x => rw [List.getElem!_eq_getElem?_getD, h]; rfl
theorem sub_len (f t : Int) (xs : List Int) : (subL f t xs).length = xs.length := by simp [subL]
theorem sub_at (f t : Int) (xs : List Int) (k : Nat) (h : k < xs.length) : (subL f t xs).getD k 0 = sbI f t (xs.getD k 0) := by
  simp [subL, List.getD, List.getElem?_eq_getElem h]
theorem cp_zero (L : List Int) : cpL L 0 = [] := rfl
theorem cp_keep (L : List Int) (k : Nat) (h : k = 0 ∨ L.getD k 0 ≠ L.getD (k - 1) 0) : cpL L (k + 1) = cpL L k ++ [L.getD k 0] := by
  unfold cpL
  rw [Lib.compactUpTo_succ, ← arr_get]
  have hk : Lib.keeps L.toArray k = true := by
    rcases h with rfl | h
    · exact Lib.keeps_lt_one _ 0 (by omega)
    · exact Lib.keeps_pos (by rw [arr_get, arr_get]; exact h)
  rw [if_pos hk]
theorem cp_drop (L : List Int) (k : Nat) (h0 : 0 < k) (h : L.getD k 0 = L.getD (k - 1) 0) : cpL L (k + 1) = cpL L k := by
  unfold cpL
  rw [Lib.compactUpTo_succ]
  have hk : Lib.keeps L.toArray k = false := Lib.keeps_neg h0 (by rw [arr_get, arr_get]; exact h)
  rw [hk]
  simp
theorem cp_last (L : List Int) : ∀ k, 0 < k → 0 < (cpL L k).length ∧ (cpL L k).getD ((cpL L k).length - 1) 0 = L.getD (k - 1) 0
  | 0, h => absurd h (by omega)
  | k + 1, _ => by
    by_cases hk : k = 0 ∨ L.getD k 0 ≠ L.getD (k - 1) 0
    · rw [cp_keep L k hk]
      simp [List.getD]
    · have hk' : ¬ k = 0 ∧ L.getD k 0 = L.getD (k - 1) 0 := by
        constructor
        · exact fun h => hk (.inl h)
        · exact Classical.byContradiction fun h => hk (.inr h)
      rw [cp_drop L k (by omega) hk'.2]
      have := cp_last L k (by omega)
      refine ⟨this.1, ?_⟩
      rw [this.2, Nat.add_sub_cancel, hk'.2]
theorem cp_len (L : List Int) (k : Nat) : (cpL L k).length ≤ k := by
  unfold cpL Lib.compactUpTo
  have := List.length_filter_le (Lib.keeps L.toArray) (List.range k)
  simpa using this
theorem cp_all (L : List Int) : Lib.compact L = cpL L L.length := rfl
theorem amW_len (xs : List Int) (f t : Int) : (amW xs f t).length ≤ 8 := by
  unfold amW
  split
  · rename_i h
    have hp : plB xs = true := by
      cases hp : plB xs
      · simp [amC, hp] at h
      · rfl
    have := cp_len (subL f t xs) xs.length
    have := pl_len hp
    omega
  · simp

/-- Needles rise: one that is there is there once. -/
theorem pl_lt {xs : List Int} (h : plB xs = true) : ∀ d i, i + d + 1 < xs.length → xs.getD i 0 < xs.getD (i + d + 1) 0
  | 0, i, hi => by
    have := ar_at (pl_ar h) (i + 1) (by omega)
    simp only [stpB, Bool.and_eq_true, Bool.or_eq_true, decide_eq_true_eq] at this
    have h2 := this.2
    simp only [Nat.add_sub_cancel] at h2
    rw [Nat.add_zero]
    omega
  | d + 1, i, hi => by
    have h1 := pl_lt h d i (by omega)
    have := ar_at (pl_ar h) (i + d + 2) (by omega)
    simp only [stpB, Bool.and_eq_true, Bool.or_eq_true, decide_eq_true_eq] at this
    have h2 := this.2
    rw [show i + d + 2 - 1 = i + d + 1 by omega] at h2
    rw [show i + (d + 1) + 1 = i + d + 2 by omega]
    omega
theorem pl_once {xs : List Int} (h : plB xs = true) (i j : Nat) (hi : i < xs.length) (hj : j < xs.length) (he : xs.getD i 0 = xs.getD j 0) : i = j := by
  rcases Nat.lt_trichotomy i j with hl | hl | hl
  · have := pl_lt h (j - i - 1) i (by omega)
    rw [show i + (j - i - 1) + 1 = j by omega] at this
    omega
  · exact hl
  · have := pl_lt h (i - j - 1) j (by omega)
    rw [show j + (i - j - 1) + 1 = i by omega] at this
    omega
theorem pl_bound {xs : List Int} (h : plB xs = true) (k : Nat) (hk : k < xs.length) : 0 ≤ xs.getD k 0 ∧ xs.getD k 0 ≤ 23 := stp_fr (ar_at (pl_ar h) k hk)
theorem set_sub {xs : List Int} (h : plB xs = true) (f t : Int) (k : Nat) (hk : k < xs.length) (he : xs.getD k 0 = f) : xs.set k t = subL f t xs := by
  refine list_eq_of (by rw [sub_len]; simp) fun j hj => ?_
  have hj' : j < xs.length := by simpa using hj
  rw [sub_at f t xs j hj']
  unfold sbI
  by_cases e : j = k
  · subst e
    rw [if_pos he]
    simp [List.getD, hj']
  · have hne : ¬ xs.getD j 0 = f := fun h2 => e (pl_once h j k hj' hk (h2.trans he.symm))
    rw [if_neg hne]
    have : ¬ k = j := fun h => e h.symm
    simp [List.getD, this]

/-- Where slices.Index finds it. -/
theorem ix_cases (xs : List Int) (f : Int) (hn : xs.length ≤ 1099511627776) : (xs.any (eqB f) = false ∧ br.idxOf (eqB f) xs = -1) ∨ (xs.any (eqB f) = true ∧ ∃ k : Nat, br.idxOf (eqB f) xs = (k : Int) ∧ k < xs.length ∧ xs.getD k 0 = f) := by
  cases ha : xs.any (eqB f)
  · exact .inl ⟨rfl, by rw [br.idxOf, ha]; rfl⟩
  · refine .inr ⟨rfl, xs.findIdx (eqB f), by rw [br.idxOf, ha]; rfl, ?_, ?_⟩
    · rw [List.findIdx_lt_length]
      simpa using ha
    · have hl : xs.findIdx (eqB f) < xs.length := by
        rw [List.findIdx_lt_length]
        simpa using ha
      have := List.findIdx_getElem (w := hl)
      simp only [eqB, beq_iff_eq] at this
      rw [List.getD, List.getElem?_eq_getElem hl]
      exact this.symm

set_option maxHeartbeats 800000 in
theorem indexQ (xs : List Int) (x : Int) (v : Value) (B : Nat) (w : World) (ha : Ints w B v xs) (hn : xs.length ≤ 1099511627776) :
    Calls Try.prog 44 #[v, .int .i64 x] w fun e w' => e = .returned (.int .i64 (br.idxOf (eqB x) xs)) ∧ w' = w := by
  rcases ha with ⟨rfl, ao, cap, rfl⟩ | ⟨hp, b, off, cap, rfl, hb, hc⟩
  · go_enter Try.func44, Try.ntmps44
    go_wp2
    refine wp_loop_rounds 1 ?_
    rw [rounds_succ]
    go_wp2
    go_ret
    exact ⟨rfl, rfl⟩
  · obtain ⟨n, hnn⟩ : ∃ n, n = xs.length := ⟨_, rfl⟩
    rw [← hnn] at hp hc hn ⊢
    have HN := hid hnn
    have HC := hid hc
    clear hnn hc
    go_enter Try.func44, Try.ntmps44
    go_wp2
    go_loop [8] (fun i => ∃ k : Nat, k ≤ n ∧ i = .int .i64 k ∧ (∀ j, j < k → eqB x (xs.getD j 0) = false)) (fun i => n - (intOf i).toNat)
    case atStart => exact ⟨0, Nat.zero_le _, rfl, fun j hj => by omega⟩
    case round =>
      obtain ⟨k, hk, rfl, hg⟩ := hrel
      have HG := hid hg
      clear hg
      by_cases hlt : k < n
      · have h1 := HC.out k hlt
        obtain ⟨y, hy⟩ : ∃ y, y = xs.getD k 0 := ⟨_, rfl⟩
        rw [← hy] at h1
        have HY := hid hy
        clear hy
        obtain ⟨q, hq⟩ : ∃ q, (x == y) = q := ⟨_, rfl⟩
        have HQ := hid hq
        cases q
        · go_wp2
          go_round
          case rel => exact ⟨k + 1, by omega, by go_num, fun j hj => by
            rcases Nat.lt_or_ge j k with h | h
            · exact HG.out j h
            · obtain rfl : j = k := by omega
              rw [← HY.out]; exact HQ.out⟩
          case measure => simp [intOf]; omega
        · have HF := hid (br.idx_yes (eqB x) xs k (by rw [← HN.out]; exact hlt) HG.out (by rw [← HY.out]; exact HQ.out)).2
          go_wp2
          go_ret
          exact ⟨by rw [HF.out]; rfl, rfl⟩
      · obtain rfl : k = n := by omega
        have HF := hid (br.idx_no (eqB x) xs (fun j hj => HG.out j (by rw [HN.out]; exact hj))).2
        go_wp2
        go_ret
        exact ⟨by rw [HF.out]; rfl, rfl⟩

theorem has_any (xs : List Int) (f : Int) : fn.hasB xs f = xs.any (eqB f) := by
  unfold fn.hasB
  rw [List.contains_eq_any_beq]
  rfl
end Go.Proofs.Ytbbnheiibkcgiaa.mo
