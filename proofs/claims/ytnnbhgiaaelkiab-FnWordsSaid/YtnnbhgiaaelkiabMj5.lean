/-
  Join and meet of the program: contracts of permutation, join, meet, JoinPermutations and MeetPermutations.
-/
import Derived.Test.YtnnbhgiaaelkiabMj4
import Derived.Test.YtnnbhgiaaelkiabH2
import Derived.Test.YtnnbhgiaaelkiabH5
namespace Go.Proofs.Ytnnbhgiaaelkiab.mj
open Go.RowKit Go.Proofs.Ytnnbhgiaaelkiab.sl Go.Proofs.Ytnnbhgiaaelkiab.pm Go.Proofs.Ytnnbhgiaaelkiab.bt Go.Proofs.Ytnnbhgiaaelkiab.la Go.Proofs.Ytnnbhgiaaelkiab.fn

theorem ids_nums (n : Nat) : ids n = nums (List.range n) := rfl

/-- impl.identity, with its value written out. -/
theorem implIdsV (n : Nat) (w : World) (hn : n ≤ 1099511627776) :
    Calls Try.prog 54 #[.int .i64 n] w fun e w' => e = .returned (.slice (some ⟨w.heap.size, 0, none⟩) n n) ∧ Own w' w.heap.size w'.heap.size (.slice (some ⟨w.heap.size, 0, none⟩) n n) (ids n) ∧ Below w.heap.size w w' := by
  obtain ⟨i0, hi, hz0, hz1, hz2⟩ := info_parts info64
  go_enter Try.func54, Try.ntmps54
  go_wp2_with (at_make; refine wpList_make_full _ rfl (.tmp 5) (.tmp 5) 22 rfl w.heap.size 2 i0 (.int .i64 0) 1 Try.underlying22 hi hz0 hz1 .i64 .i64 _ _ n rfl rfl (by rfl) (by rfl) (by rw [hz2]; omega) (by unfold maxLen; omega) (Nat.le_refl _) ?_; intro w1 hown1 hgrow1)
  have HO1 := hid (made_own hown1)
  have HB1 : Hid (Below w.heap.size w w1) := hid ((Below.refl _ _).grown hgrow1 (Nat.le_refl _) (fun k hk => by cases hk))
  have hsz1 := hgrow1.size
  clear hown1 hgrow1
  go_loopw [9] (fun i wr => ∃ k : Nat, k ≤ n ∧ i = .int .i64 k ∧ Own wr w.heap.size wr.heap.size (.slice (some ⟨w.heap.size, 0, none⟩) n n) (idp n k) ∧ Below w.heap.size w wr)
    (fun i _ => n - (intOf i).toNat)
  case atStart => exact ⟨0, Nat.zero_le _, rfl, by rw [idp_zero]; exact HO1.out, HB1.out⟩
  case round =>
    obtain ⟨k, hk, rfl, hown, hbel⟩ := hrel
    have HO := hid hown
    have HB := hid hbel
    clear hown hbel
    by_cases hlt : k < n
    · have hcell := (HO.out.at' k (by rw [idp_len n k hk]; exact hlt)).1
      have hfr := (HO.out.at' k (by rw [idp_len n k hk]; exact hlt)).2
      have HS := hid (HO.out.set k k).1
      go_wp2
      go_roundw
      case rel => exact ⟨k + 1, by omega, by go_num, by have := HS.out; rw [idp_set n k hlt] at this; simpa using this, HB.out.setCell (by simp) _⟩
      case measure => simp [intOf]; omega
    · obtain rfl : k = n := by omega
      go_wp2
      go_ret
      exact ⟨rfl, by have := HO.out; rw [idp_all] at this; exact this, HB.out⟩

/-! ### the order of a closed set -/
theorem lt_bef {f : Nat → Nat} {c : Nat → Nat → Bool} (hb : ∀ i k, (f i).testBit k = c i k) (x y : Nat) : ltB f x y = bef c x y := by
  unfold ltB cf bef cmpI
  rw [hb]
  by_cases h1 : x < y
  · rw [if_pos h1, show min x y = x by omega, show max x y = y by omega]
    have a1 : (x : Int) < (y : Int) := by omega
    have a2 : ¬ (y : Int) < (x : Int) := by omega
    cases c x y <;> simp [a1, a2]
  · rw [if_neg h1]
    by_cases h2 : y < x
    · rw [if_pos h2, show min x y = y by omega, show max x y = x by omega]
      have a1 : (y : Int) < (x : Int) := by omega
      have a2 : ¬ (x : Int) < (y : Int) := by omega
      cases c y x <;> simp [a1, a2]
    · rw [if_neg h2]
      obtain rfl : x = y := by omega
      simp
theorem bef_asym {c : Nat → Nat → Bool} (x y : Nat) (h : bef c x y = true) : bef c y x = false := by
  have hne : x ≠ y := by rintro rfl; rw [bef_irr] at h; cases h
  have := bef_total c x y hne
  rw [h] at this
  cases hb : bef c y x
  · rfl
  · rw [hb] at this; cases this
theorem bef_ntr {c : Nat → Nat → Bool} (ht : ∀ i j k, c i j = true → c j k = true → c i k = true) (hco : Co c) (x y z : Nat) (h1 : bef c x y = false) (h2 : bef c y z = false) : bef c x z = false := by
  by_cases e1 : x = y
  · subst e1; exact h2
  · by_cases e2 : y = z
    · subst e2; exact h1
    · have a1 := bef_total c y x (fun e => e1 e.symm)
      have a2 := bef_total c z y (fun e => e2 e.symm)
      rw [h1] at a1
      rw [h2] at a2
      exact bef_asym z x (bef_trans ht hco z y x a2 a1)

theorem nums_perm {L : List Nat} {n : Nat} (hp : L.Perm (List.range n)) (hn : n ≤ 12) : permB (nums L) = true := by
  have hl : L.length = n := by simpa using hp.length_eq
  simp only [permB, Bool.and_eq_true, decide_eq_true_eq, List.all_eq_true]
  refine ⟨⟨by rw [nums_len]; omega, ?_⟩, ?_⟩
  · intro x hx
    simp only [nums, List.mem_map] at hx
    obtain ⟨m, hm, rfl⟩ := hx
    have := hp.mem_iff.1 hm
    simp only [List.mem_range] at this
    simp only [inR, decide_eq_true_eq, nums_len]
    omega
  · have hnd : L.Nodup := hp.nodup_iff.2 List.nodup_range
    simp only [nums]
    rw [List.Nodup, List.pairwise_map]
    exact List.Pairwise.imp (fun h e => h (by omega)) hnd
theorem inv_sorted {c : Nat → Nat → Bool} {L : List Nat} {n : Nat} (hp : L.Perm (List.range n)) (hn : n ≤ 12) (hs : SortedTo (bef c) L n) : invL (nums L) = posL c n := by
  have hl : L.length = n := by simpa using hp.length_eq
  have hpm := nums_perm hp hn
  have hpw : L.Pairwise fun a b => bef c b a = false := by
    rw [List.pairwise_iff_getElem]
    intro i j hi hj hij
    have := hs i j hij (by omega)
    simpa [List.getD, List.getElem?_eq_getElem hi, List.getElem?_eq_getElem hj] using this
  refine list_eq_of (by rw [invL_len, nums_len, posL_len, hl]) fun t ht => ?_
  rw [invL_len, nums_len, hl] at ht
  obtain ⟨i, hi, he⟩ := perm_surj hpm t (by rw [nums_len, hl]; exact ht)
  rw [nums_len] at hi
  rw [inv_at hpm i t (by rw [nums_len]; exact hi) he, posL_at c n t ht]
  have h1 := pos_sorted L n hp hpw i hi
  rw [nums_at L i hi] at he
  have h2 : L.getD i 0 = t := by omega
  rw [show L[i] = t by rw [← h2]; simp [List.getD, List.getElem?_eq_getElem hi]] at h1
  rw [h1]

set_option maxRecDepth 100000 in
theorem perm (f : Nat → Nat) (c : Nat → Nat → Bool) (n : Nat) (hn : n ≤ 12) (hf : ∀ i, f i < 2 ^ 12) (hb : ∀ i k, (f i).testBit k = c i k) (ht : ∀ i j k, c i j = true → c j k = true → c i k = true) (hco : Co c) (w : World) :
    Calls Try.prog 85 #[.agg (arr f), .int .i64 n] w fun e w' => ∃ v', e = .returned v' ∧ Own w' w.heap.size w'.heap.size v' (posL c n) ∧ Below w.heap.size w w' := by
  have h4096 : (2 : Nat) ^ 12 = 4096 := by decide
  have hfun : ltB f = bef c := by funext x y; exact lt_bef hb x y
  have HR := hid (rows_new w f)
  have HT : ∀ (W : World) (g : Nat), Own W (w.heap.size + 1) W.heap.size (.slice (some ⟨g, 0, none⟩) n n) (nums (List.range n)) → Rows12 W w.heap.size 86 f → Told f w.heap.size g n n (w.heap.size + 1) W.heap.size (List.range n) W := fun W g ho hr =>
    ⟨by simp, hn, fun x hx => by simp at hx; omega, fun i _ => by have := hf i; omega, fun x y h => by rw [hfun] at h ⊢; exact bef_asym x y h, fun x y z h1 h2 => by rw [hfun] at h1 h2 ⊢; exact bef_ntr ht hco x y z h1 h2, ho, hr, by omega⟩
  have HTo := hid HT
  have HI : Hid (∀ L : List Nat, L.Perm (List.range n) → SortedTo (ltB f) L n → permB (nums L) = true ∧ invL (nums L) = posL c n) := hid (fun L h1 h2 => ⟨nums_perm h1 hn, inv_sorted h1 hn (by rw [← hfun]; exact h2)⟩)
  clear HT hfun hf hb ht hco h4096
  go_enter Try.func85, Try.ntmps85
  go_wp2_with fail
  refine (implIdsV n _ (by omega)).mono ?_
  rintro e w1 ⟨rfl, o1, b1⟩
  have hz1 : w.heap.size + 1 ≤ w1.heap.size := by simpa using b1.size
  have HO1 : Hid (Own w1 (w.heap.size + 1) w1.heap.size (.slice (some ⟨w.heap.size + 1, 0, none⟩) n n) (nums (List.range n))) := hid (by rw [← ids_nums]; simpa using o1)
  have HR1 : Hid (Rows12 w1 w.heap.size 86 f) := hid (HR.out.chg (lo := 0) (hi := 0) ⟨b1.os, b1.tape, b1.output, b1.size, fun k hk _ => b1.block k hk⟩ (by omega))
  have HB1 : Hid (Below w.heap.size w w1) := hid (((Below.refl w.heap.size w).alloc (Nat.le_refl _) _).trans (b1.mono (by simp)))
  clear o1 b1 HR
  have HSo := hid (sort f w.heap.size (w.heap.size + 1) n n (w.heap.size + 1) w1.heap.size (List.range n) w1 (HTo.out w1 _ HO1.out HR1.out))
  simp only [World.size_alloc]
  go_wp2_with fail
  refine HSo.out.mono ?_
  rintro e w2 ⟨rfl, L, hp, hs, o2, c2⟩
  have hz2 := c2.size
  have HL := hid (HI.out L hp hs)
  have HLl : Hid ((nums L).length ≤ 1099511627776) := hid (by rw [nums_len]; have : L.length = n := (by simpa using hp.length_eq); omega)
  have HO2 := hid o2
  have HB2 := hid (HB1.out.trans (c2.below (B := w.heap.size) (by omega) (by omega)))
  clear hp hs o2 c2 HSo HO1 HR1 HB1 HTo HI
  go_wp2_with fail
  refine (implInv (nums L) _ _ w2 HO2.out.ints (by omega) HLl.out (perm_places HL.out.1)).mono ?_
  rintro e w3 ⟨v3, rfl, o3, b3⟩
  have HO3 := hid (o3.lo (lo' := w.heap.size) (by omega))
  have HB3 := hid (HB2.out.trans (b3.mono (by omega)))
  clear o3 b3
  go_wp2
  go_ret
  exact ⟨_, rfl, by rw [← HL.out.2]; exact HO3.out, HB3.out⟩

/-! ### join and meet -/
def jf (p q : List Int) : Nat → Nat := uSt (row p) (row q) 12
theorem row_lt (p : List Int) (i : Nat) (hp : p.length ≤ 12) : row p i < 2 ^ 12 :=
  Nat.lt_of_lt_of_le (rowTo_lt p i p.length) (Nat.pow_le_pow_right (by omega) hp)
theorem row_bits (p : List Int) (i k : Nat) : (row p i).testBit k = iv p i k := by
  rw [row, rowTo_bit]
  unfold iv
  congr 1
  apply propext
  constructor
  · rintro ⟨a, b, c⟩; exact ⟨b, a, c⟩
  · rintro ⟨a, b, c⟩; exact ⟨b, a, c⟩
theorem jf_lt (p q : List Int) (hp : p.length ≤ 12) (hq : q.length ≤ 12) (i : Nat) : jf p q i < 2 ^ 12 := by
  unfold jf uSt
  split
  · exact Nat.or_lt_two_pow (row_lt p i hp) (row_lt q i hq)
  · exact row_lt p i hp
theorem jf_bits (p q : List Int) (hq : q.length ≤ 12) (i k : Nat) : (jf p q i).testBit k = un p q i k := by
  unfold jf uSt un
  split
  · rw [Nat.testBit_or, row_bits, row_bits]
  · rename_i h
    have : iv q i k = false := by unfold iv; simp only [decide_eq_false_iff_not]; omega
    rw [row_bits, this]; simp
theorem jcl (p q : List Int) (hl : p.length = q.length) (hp : p.length ≤ 12) (i k : Nat) : (cls (jf p q) 12 i).testBit k = cl p.length (un p q) i k := by
  rw [cls_bits (jf p q) (un_up p q hl) (jf_bits p q (by omega)) 12 i k]
  have := reach_more (un_up p q hl) (12 - p.length) i k
  rw [show p.length + (12 - p.length) = 12 by omega] at this
  exact this

theorem implJoinR (p q : List Int) (v u : Value) (B C : Nat) (w : World) (ha : Ints w B v p) (hb : Ints w C u q) (hB : B ≤ w.heap.size) (hC : C ≤ w.heap.size) (hp : p.length ≤ 12) (hl : p.length = q.length) :
    Calls Try.prog 63 #[v, u] w fun e w' => ∃ v', e = .returned v' ∧ Own w' w.heap.size w'.heap.size v' (joinL p q) ∧ Below w.heap.size w w' := by
  have HA := hid ha
  have HQ := hid hb
  have HU := hid (union (row p) (row q) (fun i _ => by have := row_lt p i hp; have h4 : (2 : Nat) ^ 12 = 4096 := (by decide); omega) (fun i _ => by have := row_lt q i (by omega); have h4 : (2 : Nat) ^ 12 = 4096 := (by decide); omega))
  have HC := hid (closed (jf p q) (jf_lt p q hp (by omega)))
  have HP := hid (perm (cls (jf p q) 12) (cl p.length (un p q)) p.length hp (fun i => cls_lt _ (jf_lt p q hp (by omega)) 12 i) (jcl p q hl hp) (cl_trans (un_up p q hl)) (cl_co (un_up p q hl) (un_co p q)))
  obtain ⟨ao, cap, hv⟩ := ints_slice ha
  obtain ⟨n, hn⟩ : ∃ n, n = p.length := ⟨_, rfl⟩
  rw [← hn] at hv
  subst hv
  have HN := hid hn
  rw [← hn] at HP
  clear ha hb hn
  go_enter Try.func63, Try.ntmps63
  go_wp2_with fail
  refine (pairs p _ B w HA.out hB hp).mono ?_
  rintro e w1 ⟨rfl, b1⟩
  have HQ1 := hid (HQ.out.chg (Chg.ofBelow (lo := 0) b1) (.inr (Nat.zero_le _)))
  have C1 := hid b1
  have z1 := b1.size
  clear b1
  go_wp2_with fail
  refine (pairs q _ C w1 HQ1.out (by omega) (by omega)).mono ?_
  rintro e w2 ⟨rfl, b2⟩
  have C2 := hid (C1.out.trans (b2.mono z1))
  have z2 := b2.size
  clear b2
  go_wp2_with fail
  refine (HU.out w2).mono ?_
  rintro e w3 ⟨rfl, b3⟩
  have C3 := hid (C2.out.trans (b3.mono (by omega)))
  have z3 := b3.size
  clear b3
  go_wp2_with fail
  refine (HC.out w3).mono ?_
  rintro e w4 ⟨rfl, b4⟩
  have C4 := hid (C3.out.trans (b4.mono (by omega)))
  have z4 := b4.size
  clear b4
  go_wp2_with fail
  refine (HP.out w4).mono ?_
  rintro e w5 ⟨v5, rfl, o5, b5⟩
  have O5 := hid (o5.lo (lo' := w.heap.size) (by omega))
  have C5 := hid (C4.out.trans (b5.mono (by omega)))
  clear o5 b5
  go_wp2
  go_ret
  exact ⟨_, rfl, by rw [joinL, ← HN.out]; exact O5.out, C5.out⟩

theorem join_places (p q : List Int) : Places p.length (joinL p q) := by
  intro j hj
  rw [joinL_len] at hj
  exact ⟨pos (cl p.length (un p q)) p.length j, posL_at _ _ _ hj, pos_bound _ _ hj⟩
theorem rev_places {p : List Int} (h : Places p.length p) : Places p.length (revL p) := by
  intro j hj
  rw [revL_len] at hj
  obtain ⟨m, h1, h2⟩ := h j hj
  exact ⟨p.length - 1 - m, by rw [revL_at p j hj, h1]; omega, by omega⟩

theorem implMeetR (p q : List Int) (v u : Value) (B C : Nat) (w : World) (ha : Ints w B v p) (hb : Ints w C u q) (hB : B ≤ w.heap.size) (hC : C ≤ w.heap.size) (hp : p.length ≤ 12) (hl : p.length = q.length) (hpp : Places p.length p) (hpq : Places q.length q) :
    Calls Try.prog 62 #[v, u] w fun e w' => ∃ v', e = .returned v' ∧ Own w' w.heap.size w'.heap.size v' (meetL p q) ∧ Below w.heap.size w w' := by
  have HA := hid ha
  have HQ := hid hb
  have HP := hid hpp
  have HPq := hid hpq
  have HJp : Hid (Places (joinL (revL p) (revL q)).length (joinL (revL p) (revL q))) := hid (by have := join_places (revL p) (revL q); rw [joinL_len]; exact this)
  have HR1 : Hid ((revL p).length ≤ 12 ∧ (revL p).length = (revL q).length ∧ (joinL (revL p) (revL q)).length ≤ 1099511627776) := hid ⟨by rw [revL_len]; exact hp, by rw [revL_len, revL_len]; exact hl, by rw [joinL_len, revL_len]; omega⟩
  clear ha hb hpp hpq
  go_enter Try.func62, Try.ntmps62
  go_wp2_with fail
  refine (implRev p _ B w HA.out hB (by omega) HP.out).mono ?_
  rintro e w1 ⟨v1, rfl, o1, b1⟩
  have HQ1 := hid (HQ.out.chg (Chg.ofBelow (lo := 0) b1) (.inr (Nat.zero_le _)))
  have O1 := hid o1
  have C1 := hid b1
  have z1 := b1.size
  clear o1 b1
  go_wp2_with fail
  refine (implRev q _ C w1 HQ1.out (by omega) (by omega) HPq.out).mono ?_
  rintro e w2 ⟨v2, rfl, o2, b2⟩
  have O1b := hid (O1.out.chg (Chg.ofBelow (lo := 0) b2) (.inr (.inr (Nat.zero_le _))))
  have O2 := hid o2
  have C2 := hid (C1.out.trans (b2.mono z1))
  have z2 := b2.size
  clear o2 b2 O1
  go_wp2_with fail
  refine (implJoinR (revL p) (revL q) v1 v2 _ _ w2 O1b.out.ints O2.out.ints (by omega) (by omega) HR1.out.1 HR1.out.2.1).mono ?_
  rintro e w3 ⟨v3, rfl, o3, b3⟩
  have O3 := hid o3
  have C3 := hid (C2.out.trans (b3.mono (by omega)))
  have z3 := b3.size
  clear o3 b3
  go_wp2_with fail
  refine (implRev (joinL (revL p) (revL q)) v3 _ w3 O3.out.ints (Nat.le_refl _) HR1.out.2.2 HJp.out).mono ?_
  rintro e w4 ⟨v4, rfl, o4, b4⟩
  have O4 := hid (o4.lo (lo' := w.heap.size) (by omega))
  have C4 := hid (C3.out.trans (b4.mono (by omega)))
  clear o4 b4
  go_wp2
  go_ret
  exact ⟨_, rfl, O4.out, C4.out⟩

def jnP (p q : List Int) : List Int := if bothB p q = true then joinL p q else []
def mtP (p q : List Int) : List Int := if bothB p q = true then meetL p q else []
theorem jnP_len (p q : List Int) : (jnP p q).length ≤ 12 := by
  unfold jnP
  split
  · rename_i h; rw [joinL_len]; exact perm_len (both_parts h).1
  · simp
theorem mtP_len (p q : List Int) : (mtP p q).length ≤ 12 := by
  unfold mtP
  split
  · rename_i h; rw [meetL_len]; exact perm_len (both_parts h).1
  · simp

theorem implJoinP (p q : List Int) (v u : Value) (B C : Nat) (w : World) (ha : Ints w B v p) (hb : Ints w C u q) (hB : B ≤ w.heap.size) (hC : C ≤ w.heap.size) (hn : p.length ≤ 1099511627776) (hm : q.length ≤ 1099511627776) :
    Calls Try.prog 31 #[v, u] w fun e w' => ∃ v', e = .returned (.tuple #[v', .bool (bothB p q)]) ∧ Own w' w.heap.size w'.heap.size v' (jnP p q) ∧ Below w.heap.size w w' := by
  have HA := hid ha
  have HB := hid hb
  by_cases h : bothB p q = true
  · have HP : Hid (p.length ≤ 12 ∧ p.length = q.length) := hid ⟨perm_len (both_parts h).1, (both_parts h).2.2⟩
    have HF : Hid (jnP p q = joinL p q) := hid (by rw [jnP, if_pos h])
    clear ha hb
    go_enter Try.func31, Try.ntmps31
    go_wp2_with fail
    refine (implBoth p q v u _ _ w HA.out HB.out hB hC hn hm).mono ?_
    rintro e w1 ⟨rfl, b1⟩
    have HA1 := hid (HA.out.chg (Chg.ofBelow (lo := 0) b1) (.inr (Nat.zero_le _)))
    have HB1 := hid (HB.out.chg (Chg.ofBelow (lo := 0) b1) (.inr (Nat.zero_le _)))
    have C1 := hid b1
    clear b1 HA HB
    go_wp2_with fail
    refine (implJoinR p q v u _ _ w1 HA1.out HB1.out (Nat.le_trans hB C1.out.size) (Nat.le_trans hC C1.out.size) HP.out.1 HP.out.2).mono ?_
    rintro e w2 ⟨v2, rfl, o2, b2⟩
    have O2 := hid (o2.lo C1.out.size)
    have C2 := hid (C1.out.trans (b2.mono C1.out.size))
    clear o2 b2
    go_wp2
    go_ret2
    exact ⟨_, by rw [h]; rfl, by rw [HF.out]; exact O2.out, C2.out⟩
  · have h' : bothB p q = false := by simpa using h
    have HF : Hid (jnP p q = []) := hid (by rw [jnP, if_neg h])
    clear h ha hb
    go_enter Try.func31, Try.ntmps31
    go_wp2_with fail
    refine (implBoth p q v u _ _ w HA.out HB.out hB hC hn hm).mono ?_
    rintro e w1 ⟨rfl, b1⟩
    have C1 := hid b1
    clear b1
    go_wp2
    go_ret2
    exact ⟨_, by rw [h']; rfl, by rw [HF.out]; exact (Own.nil _ _), C1.out⟩

theorem implMeetP (p q : List Int) (v u : Value) (B C : Nat) (w : World) (ha : Ints w B v p) (hb : Ints w C u q) (hB : B ≤ w.heap.size) (hC : C ≤ w.heap.size) (hn : p.length ≤ 1099511627776) (hm : q.length ≤ 1099511627776) :
    Calls Try.prog 30 #[v, u] w fun e w' => ∃ v', e = .returned (.tuple #[v', .bool (bothB p q)]) ∧ Own w' w.heap.size w'.heap.size v' (mtP p q) ∧ Below w.heap.size w w' := by
  have HA := hid ha
  have HB := hid hb
  by_cases h : bothB p q = true
  · have HP : Hid (p.length ≤ 12 ∧ p.length = q.length ∧ Places p.length p ∧ Places q.length q) := hid ⟨perm_len (both_parts h).1, (both_parts h).2.2, perm_places (both_parts h).1, perm_places (both_parts h).2.1⟩
    have HF : Hid (mtP p q = meetL p q) := hid (by rw [mtP, if_pos h])
    clear ha hb
    go_enter Try.func30, Try.ntmps30
    go_wp2_with fail
    refine (implBoth p q v u _ _ w HA.out HB.out hB hC hn hm).mono ?_
    rintro e w1 ⟨rfl, b1⟩
    have HA1 := hid (HA.out.chg (Chg.ofBelow (lo := 0) b1) (.inr (Nat.zero_le _)))
    have HB1 := hid (HB.out.chg (Chg.ofBelow (lo := 0) b1) (.inr (Nat.zero_le _)))
    have C1 := hid b1
    clear b1 HA HB
    go_wp2_with fail
    refine (implMeetR p q v u _ _ w1 HA1.out HB1.out (Nat.le_trans hB C1.out.size) (Nat.le_trans hC C1.out.size) HP.out.1 HP.out.2.1 HP.out.2.2.1 HP.out.2.2.2).mono ?_
    rintro e w2 ⟨v2, rfl, o2, b2⟩
    have O2 := hid (o2.lo C1.out.size)
    have C2 := hid (C1.out.trans (b2.mono C1.out.size))
    clear o2 b2
    go_wp2
    go_ret2
    exact ⟨_, by rw [h]; rfl, by rw [HF.out]; exact O2.out, C2.out⟩
  · have h' : bothB p q = false := by simpa using h
    have HF : Hid (mtP p q = []) := hid (by rw [mtP, if_neg h])
    clear h ha hb
    go_enter Try.func30, Try.ntmps30
    go_wp2_with fail
    refine (implBoth p q v u _ _ w HA.out HB.out hB hC hn hm).mono ?_
    rintro e w1 ⟨rfl, b1⟩
    have C1 := hid b1
    clear b1
    go_wp2
    go_ret2
    exact ⟨_, by rw [h']; rfl, by rw [HF.out]; exact (Own.nil _ _), C1.out⟩

end Go.Proofs.Ytnnbhgiaaelkiab.mj
