/-
  Join and meet of the program: contracts of permutation, join, meet, JoinPermutations and MeetPermutations.
-/
import Derived.Test.YtaconeliiicloaaMj4
import Derived.Test.YtaconeliiicloaaH2
import Derived.Test.YtaconeliiicloaaH5
namespace Go.Proofs.Ytaconeliiicloaa.mj
open Go.RowKit Go.Proofs.Ytaconeliiicloaa.sl Go.Proofs.Ytaconeliiicloaa.pm Go.Proofs.Ytaconeliiicloaa.bt Go.Proofs.Ytaconeliiicloaa.la Go.Proofs.Ytaconeliiicloaa.fn

theorem ids_nums (n : Nat) : ids n = nums (List.range n) := rfl

/-- impl.identity, with its value written out. -/
theorem implIdsV (n : Nat) (w : World) (hn : n ≤ 1099511627776) :
    Calls Try.prog 58 #[.int .i64 n] w fun e w' => e = .returned (.slice (some ⟨w.heap.size, 0, none⟩) n n) ∧ Own w' w.heap.size w'.heap.size (.slice (some ⟨w.heap.size, 0, none⟩) n n) (ids n) ∧ Below w.heap.size w w' := by
  obtain ⟨i0, hi, hz0, hz1, hz2⟩ := info_parts info64
  go_enter Try.func58, Try.ntmps58
  go_wp2_with (at_make; refine wpList_make_full _ rfl (.tmp 5) (.tmp 5) 24 rfl w.heap.size 2 i0 (.int .i64 0) 1 Try.underlying24 hi hz0 hz1 .i64 .i64 _ _ n rfl rfl (by rfl) (by rfl) (by rw [hz2]; omega) (by unfold maxLen; omega) (Nat.le_refl _) ?_; intro w1 hown1 hgrow1)
  have HO1 := hid (made_own hown1)
  have HB1 : Hid (Below w.heap.size w w1) := hid ((Below.refl _ _).grown hgrow1 (Nat.le_refl _) (fun k hk => by cases hk))
  have hsz1 := hgrow1.size
  clear hown1 hgrow1
  go_loopw [9] (fun i wr => ∃ k : Nat, k ≤ n ∧ i = .int .i64 k ∧ Own wr w.heap.size wr.heap.size (.slice (some ⟨w.heap.size, 0, none⟩) n n) (idp n k) ∧ Below w.heap.size w wr)
    (fun i _ => n - (intOf i).toNat)
  case atStart => exact ⟨0, Nat.zero_le _, rfl, by rw [idp_zero]; exact HO1.out, HB1.out⟩
  case round =>
    obtain ⟨k, hk, rfl, hown, hbel⟩ := hrel
    have HO := hid hown
    have HB := hid hbel
    clear hown hbel
    by_cases hlt : k < n
    · have hcell := (HO.out.at' k (by rw [idp_len n k hk]; exact hlt)).1
      have hfr := (HO.out.at' k (by rw [idp_len n k hk]; exact hlt)).2
      have HS := hid (HO.out.set k k).1
      go_wp2
      go_roundw
      case rel => exact ⟨k + 1, by omega, by go_num, by have := HS.out; rw [idp_set n k hlt] at this; simpa using this, HB.out.setCell (by simp) _⟩
      case measure => simp [intOf]; omega
    · obtain rfl : k = n := by omega
      go_wp2
      go_ret
      exact ⟨rfl, by have := HO.out; rw [idp_all] at this; exact this, HB.out⟩

/-! ### the order of a closed set -/
theorem lt_bef {f : Nat → Nat} {c : Nat → Nat → Bool} (hb : ∀ i k, (f i).testBit k = c i k) (x y : Nat) : ltB f x y = bef c x y := by
  unfold ltB cf bef cmpI
  rw [hb]
  by_cases h1 : x < y
  · rw [if_pos h1, show min x y = x by omega, show max x y = y by omega]
    have a1 : (x : Int) < (y : Int) := by omega
    have a2 : ¬ (y : Int) < (x : Int) := by omega
    cases c x y <;> simp [a1, a2]
  · rw [if_neg h1]
    by_cases h2 : y < x
    · rw [if_pos h2, show min x y = y by omega, show max x y = x by omega]
      have a1 : (y : Int) < (x : Int) := by omega
      have a2 : ¬ (x : Int) < (y : Int) := by omega
      cases c y x <;> simp [a1, a2]
    · rw [if_neg h2]
      obtain rfl : x = y := by omega
      simp
theorem bef_asym {c : Nat → Nat → Bool} (x y : Nat) (h : bef c x y = true) : bef c y x = false := by
  have hne : x ≠ y := by rintro rfl; rw [bef_irr] at h; cases h
  have := bef_total c x y hne
  rw [h] at this
  cases hb : bef c y x
  · rfl
  · rw [hb] at this; cases this
theorem bef_ntr {c : Nat → Nat → Bool} (ht : ∀ i j k, c i j = true → c j k = true → c i k = true) (hco : Co c) (x y z : Nat) (h1 : bef c x y = false) (h2 : bef c y z = false) : bef c x z = false := by
  by_cases e1 : x = y
  · subst e1; exact h2
  · by_cases e2 : y = z
    · subst e2; exact h1
    · have a1 := bef_total c y x (fun e => e1 e.symm)
      have a2 := bef_total c z y (fun e => e2 e.symm)
      rw [h1] at a1
      rw [h2] at a2
      exact bef_asym z x (bef_trans ht hco z y x a2 a1)

theorem nums_perm {L : List Nat} {n : Nat} (hp : L.Perm (List.range n)) (hn : n ≤ 12) : permB (nums L) = true := by
  have hl : L.length = n := by simpa using hp.length_eq
  simp only [permB, Bool.and_eq_true, decide_eq_true_eq, List.all_eq_true]
  refine ⟨⟨by rw [nums_len]; omega, ?_⟩, ?_⟩
  · intro x hx
    simp only [nums, List.mem_map] at hx
    obtain ⟨m, hm, rfl⟩ := hx
    have := hp.mem_iff.1 hm
    simp only [List.mem_range] at this
    simp only [inR, decide_eq_true_eq, nums_len]
    omega
  · have hnd : L.Nodup := hp.nodup_iff.2 List.nodup_range
    simp only [nums]
    rw [List.Nodup, List.pairwise_map]
    exact List.Pairwise.imp (fun h e => h (by omega)) hnd
theorem inv_sorted {c : Nat → Nat → Bool} {L : List Nat} {n : Nat} (hp : L.Perm (List.range n)) (hn : n ≤ 12) (hs : SortedTo (bef c) L n) : invL (nums L) = posL c n := by
  have hl : L.length = n := by simpa using hp.length_eq
  have hpm := nums_perm hp hn
  have hpw : L.Pairwise fun a b => bef c b a = false := by
    rw [List.pairwise_iff_getElem]
    intro i j hi hj hij
    have := hs i j hij (by omega)
    simpa [List.getD, List.getElem?_eq_getElem hi, List.getElem?_eq_getElem hj] using this
  refine list_eq_of (by rw [invL_len, nums_len, posL_len, hl]) fun t ht => ?_
  rw [invL_len, nums_len, hl] at ht
  obtain ⟨i, hi, he⟩ := perm_surj hpm t (by rw [nums_len, hl]; exact ht)
  rw [nums_len] at hi
  rw [inv_at hpm i t (by rw [nums_len]; exact hi) he, posL_at c n t ht]
  have h1 := pos_sorted L n hp hpw i hi
  rw [nums_at L i hi] at he
  have h2 : L.getD i 0 = t := by omega
  rw [show L[i] = t by rw [← h2]; simp [List.getD, List.getElem?_eq_getElem hi]] at h1
  rw [h1]

/-! ### join and meet -/
def jf (p q : List Int) : Nat → Nat := uSt (row p) (row q) 12
theorem row_lt (p : List Int) (i : Nat) (hp : p.length ≤ 12) : row p i < 2 ^ 12 :=
  Nat.lt_of_lt_of_le (rowTo_lt p i p.length) (Nat.pow_le_pow_right (by omega) hp)
theorem row_bits (p : List Int) (i k : Nat) : (row p i).testBit k = iv p i k := by
  rw [row, rowTo_bit]
  unfold iv
  congr 1
  apply propext
  constructor
  · rintro ⟨a, b, c⟩; exact ⟨b, a, c⟩
  · rintro ⟨a, b, c⟩; exact ⟨b, a, c⟩
theorem jf_lt (p q : List Int) (hp : p.length ≤ 12) (hq : q.length ≤ 12) (i : Nat) : jf p q i < 2 ^ 12 := by
  unfold jf uSt
  split
  · exact Nat.or_lt_two_pow (row_lt p i hp) (row_lt q i hq)
  · exact row_lt p i hp
theorem jf_bits (p q : List Int) (hq : q.length ≤ 12) (i k : Nat) : (jf p q i).testBit k = un p q i k := by
  unfold jf uSt un
  split
  · rw [Nat.testBit_or, row_bits, row_bits]
  · rename_i h
    have : iv q i k = false := by unfold iv; simp only [decide_eq_false_iff_not]; omega
    rw [row_bits, this]; simp
theorem jcl (p q : List Int) (hl : p.length = q.length) (hp : p.length ≤ 12) (i k : Nat) : (cls (jf p q) 12 i).testBit k = cl p.length (un p q) i k := by
  rw [cls_bits (jf p q) (un_up p q hl) (jf_bits p q (by omega)) 12 i k]
  have := reach_more (un_up p q hl) (12 - p.length) i k
  rw [show p.length + (12 - p.length) = 12 by omega] at this
  exact this

theorem join_places (p q : List Int) : Places p.length (joinL p q) := by
  intro j hj
  rw [joinL_len] at hj
  exact ⟨pos (cl p.length (un p q)) p.length j, posL_at _ _ _ hj, pos_bound _ _ hj⟩
theorem rev_places {p : List Int} (h : Places p.length p) : Places p.length (revL p) := by
  intro j hj
  rw [revL_len] at hj
  obtain ⟨m, h1, h2⟩ := h j hj
  exact ⟨p.length - 1 - m, by rw [revL_at p j hj, h1]; omega, by omega⟩

def jnP (p q : List Int) : List Int := if bothB p q = true then joinL p q else []
def mtP (p q : List Int) : List Int := if bothB p q = true then meetL p q else []
theorem jnP_len (p q : List Int) : (jnP p q).length ≤ 12 := by
  unfold jnP
  split
  · rename_i h; rw [joinL_len]; exact perm_len (both_parts h).1
  · simp
theorem mtP_len (p q : List Int) : (mtP p q).length ≤ 12 := by
  unfold mtP
  split
  · rename_i h; rw [meetL_len]; exact perm_len (both_parts h).1
  · simp

end Go.Proofs.Ytaconeliiicloaa.mj
