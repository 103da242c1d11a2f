/-
  Permutations in plain words: a reduced word makes its permutation up, the permutation with a rank has this rank, the inverse has as many inversions.
-/
import Derived.Test.YtaconeliiicloaaLt1
import Derived.Test.YtaconeliiicloaaWp1
import Derived.Test.YtaconeliiicloaaRank
import Derived.Test.YtaconeliiicloaaPAt
namespace Go.Proofs.Ytaconeliiicloaa.pf
open Go.RowKit Go.Proofs.Ytaconeliiicloaa.sl Go.Proofs.Ytaconeliiicloaa.pm Go.Proofs.Ytaconeliiicloaa.fn Go.Proofs.Ytaconeliiicloaa.sr Go.Proofs.Ytaconeliiicloaa.lt Go.Proofs.Ytaconeliiicloaa.bt Go.Proofs.Ytaconeliiicloaa.pa

/-! ### sums -/
theorem sum_shift (n : Nat) (f : Nat → Nat) : sumN (n + 1) f = f 0 + sumN n fun i => f (i + 1) := by
  induction n with
  | zero => simp [sumN]
  | succ n ih => rw [sumN, ih, sumN]; omega
theorem sum_list (n : Nat) (f : Nat → Nat) : sumN n f = ((List.range n).map f).sum := by
  induction n with
  | zero => rfl
  | succ n ih => rw [sumN, ih, List.range_succ, List.map_append, List.sum_append]; simp
/-- The sum over the places of a permutation. -/
theorem sum_perm {p : List Int} (h : permB p = true) (f : Nat → Nat) : sumN p.length (fun i => f (p.getD i 0).toNat) = sumN p.length f := by
  rw [sum_list, sum_list]
  have e1 : (List.range p.length).map (fun i => f (p.getD i 0).toNat) = p.map fun z => f z.toNat := by
    have h1 := congrArg (List.map fun z : Int => f z.toNat) (range_list p)
    rw [List.map_map] at h1
    exact h1
  rw [e1, ((perm_ids h).map fun z => f z.toNat).sum_nat]
  simp [ids, Function.comp_def]

/-! ### inversions -/
theorem pr_cons (a : Int) (t : List Int) (i j : Nat) : pr (a :: t) (i + 1) (j + 1) = pr t i j := by
  unfold pr
  simp
theorem pr_zero (a : Int) (t : List Int) (i : Nat) : pr (a :: t) i 0 = 0 := by
  unfold pr; rw [if_neg (by omega)]
theorem less_cons (a : Int) (t : List Int) (i : Nat) : lessL (a :: t) (i + 1) = lessL t i := by
  unfold lessL
  rw [List.length_cons, sum_shift, pr_zero, Nat.zero_add]
  exact sum_congr _ _ _ fun j _ => pr_cons a t i j
theorem count_sum (t : List Int) (q : Int → Bool) : t.countP q = sumN t.length fun j => if q (t.getD j 0) = true then 1 else 0 := by
  induction t with
  | nil => rfl
  | cons x r ih =>
    rw [List.countP_cons, List.length_cons, sum_shift, ih]
    simp only [List.getD_cons_zero, List.getD_cons_succ]
    omega
theorem less_zero (a : Int) (t : List Int) : lessL (a :: t) 0 = t.countP fun y => decide (y < a) := by
  unfold lessL
  rw [List.length_cons, sum_shift, pr_zero, Nat.zero_add, count_sum]
  refine sum_congr _ _ _ fun j hj => ?_
  unfold pr
  simp [hj]
theorem less_sum (p : List Int) : (sumN p.length fun i => lessL p i) = inv p := by
  induction p with
  | nil => rfl
  | cons a t ih =>
    rw [List.length_cons, sum_shift, less_zero, inv, ← ih]
    congr 1
    exact sum_congr _ _ _ fun i _ => less_cons a t i
theorem invs_less (p : List Int) : invs p = sumN p.length fun i => lessL p i := by
  unfold invs lessL
  rw [sum_swap]
  refine sum_congr _ _ _ fun j hj => ?_
  exact (sum_more _ _ _ (by omega) fun i hi _ => by unfold pr; rw [if_neg (by omega)]).symm
theorem invs_inv (p : List Int) : invs p = inv p := (invs_less p).trans (less_sum p)

/-- The inverse has as many inversions. -/
theorem invs_inverse {p : List Int} (h : permB p = true) : invs (invL p) = invs p := by
  have e : ∀ q : List Int, invs q = sumN q.length fun i => sumN q.length fun j => pr q i j := fun q => invs_less q
  rw [e, invL_len, ← sum_perm h fun i => sumN p.length fun j => pr (invL p) i j]
  have e2 : ∀ i, i < p.length → (sumN p.length fun j => pr (invL p) (p.getD i 0).toNat j) = sumN p.length fun j => pr p j i := by
    intro i hi
    rw [← sum_perm h fun j => pr (invL p) (p.getD i 0).toNat j]
    refine sum_congr _ _ _ fun j hj => ?_
    obtain ⟨a, ha, hal⟩ := perm_places h i hi
    obtain ⟨b, hb, hbl⟩ := perm_places h j hj
    have ia := inv_at h i a hi ha
    have ib := inv_at h j b hj hb
    rw [ha, hb]
    simp only [Int.toNat_natCast]
    unfold pr
    rw [ia, ib, invL_len, ha, hb]
    by_cases h1 : a < b ∧ b < p.length ∧ (j : Int) < (i : Int)
    · rw [if_pos h1, if_pos ⟨by omega, hi, by omega⟩]
    · rw [if_neg h1, if_neg (by rintro ⟨x, _, y⟩; exact h1 ⟨by omega, hbl, by omega⟩)]
  rw [sum_congr _ _ _ e2, sum_swap, ← e]

/-! ### the reduced word -/
theorem swap_perm (p : List Int) (k : Nat) (hk : k + 1 < p.length) (h : permB p = true) : permB (swapAt p k) = true := exch_perm p k (k + 1) (by omega) hk h
/-- Exchanges of neighbours in any list. -/
def appl : List Int → List Int → List Int
  | X, [] => X
  | X, k :: ws => appl (swapAt X k.toNat) ws
theorem appl_len (ws : List Int) : ∀ X, (appl X ws).length = X.length := by
  induction ws with
  | nil => intro X; rfl
  | cons k r ih => intro X; rw [appl, ih, swap_len]
theorem appl_snoc (ws : List Int) (k : Int) : ∀ X, appl X (ws ++ [k]) = swapAt (appl X ws) k.toNat := by
  induction ws with
  | nil => intro X; rfl
  | cons x r ih => intro X; rw [List.cons_append, appl, ih, appl]
theorem take_succ_getD (ws : List Int) (k : Nat) (hk : k < ws.length) : ws.take (k + 1) = ws.take k ++ [ws.getD k 0] := take_one ws k hk
theorem things_appl (n : Nat) (ws : List Int) (k : Nat) (hk : k ≤ ws.length) : things n ws k = appl (ids n) (ws.take k) := by
  induction k with
  | zero => rfl
  | succ k ih => rw [things, ih (by omega), take_succ_getD ws k (by omega), appl_snoc]
theorem comp_appl (ws : List Int) (X : List Int) : ∀ T : List Int, (∀ j, j < ws.length → stepOk T.length (ws.getD j 0) = true) → appl (compL T X) ws = compL (appl T ws) X := by
  induction ws with
  | nil => intro T _; rfl
  | cons k r ih =>
    intro T h
    have h0 := h 0 (by simp)
    simp only [List.getD_cons_zero, stepOk, decide_eq_true_eq] at h0
    rw [appl, appl, ← comp_swap T X k.toNat (by omega)]
    refine ih _ fun j hj => ?_
    have := h (j + 1) (by simp; omega)
    rw [swap_len]
    simpa using this
/-- A list that nothing is out of order in has no inversions. -/
theorem sorted_inv : ∀ p : List Int, NoDesc p (p.length - 1) → p.Pairwise (· ≤ ·)
  | [], _ => List.Pairwise.nil
  | [a], _ => by simp
  | a :: b :: r, h => by
    have h1 : NoDesc (b :: r) ((b :: r).length - 1) := by
      intro j hj
      have := h (j + 1) (by simp at hj ⊢; omega)
      simpa using this
    have h2 := sorted_inv (b :: r) h1
    have h3 := h 0 (by simp)
    have h3' : ¬ b < a := by simpa using h3
    refine List.Pairwise.cons ?_ h2
    intro x hx
    rcases List.mem_cons.1 hx with rfl | hx
    · omega
    · have := List.rel_of_pairwise_cons h2 hx
      omega
theorem inv_sorted (p : List Int) (h : p.Pairwise (· ≤ ·)) : inv p = 0 := by
  induction p with
  | nil => rfl
  | cons a t ih =>
    rw [inv, ih (List.Pairwise.of_cons h), Nat.add_zero, List.countP_eq_zero]
    intro x hx
    have := List.rel_of_pairwise_cons h hx
    simp; omega
theorem ids_sorted (n : Nat) : (ids n).Pairwise (· ≤ ·) := by
  rw [ids, List.pairwise_map]
  exact List.Pairwise.imp (fun h => by omega) List.pairwise_lt_range
theorem sorted_ids {p : List Int} (h : permB p = true) (hs : p.Pairwise (· ≤ ·)) : p = ids p.length :=
  (perm_ids h).eq_of_pairwise (fun a b _ _ h1 h2 => by omega) hs (ids_sorted _)
/-- Either nothing is out of order, or there is a first descent. -/
theorem first_cases (p : List Int) : NoDesc p (p.length - 1) ∨ ∃ k, k + 1 < p.length ∧ NoDesc p k ∧ p.getD (k + 1) 0 < p.getD k 0 := by
  have : ∀ m, NoDesc p m ∨ ∃ k, k < m ∧ NoDesc p k ∧ p.getD (k + 1) 0 < p.getD k 0 := by
    intro m
    induction m with
    | zero => exact .inl fun j hj => by omega
    | succ m ih =>
      rcases ih with h | ⟨k, hk, h1, h2⟩
      · by_cases hd : p.getD (m + 1) 0 < p.getD m 0
        · exact .inr ⟨m, by omega, h, hd⟩
        · exact .inl (nodesc_next p m h hd)
      · exact .inr ⟨k, by omega, h1, h2⟩
  rcases this (p.length - 1) with h | ⟨k, hk, h1, h2⟩
  · exact .inl h
  · exact .inr ⟨k, by omega, h1, h2⟩
/-- The reduced word sorts the list, with as many exchanges as there are inversions, all of them of neighbours. -/
theorem red_sorts : ∀ (f : Nat) (p : List Int), permB p = true → inv p ≤ f → appl p (redF f p) = ids p.length ∧ (redF f p).length = inv p ∧ ∀ x ∈ redF f p, stepOk p.length x = true := by
  intro f
  induction f with
  | zero =>
    intro p h hf
    rcases first_cases p with h1 | ⟨k, hk, h1, h2⟩
    · have hs := sorted_inv p h1
      exact ⟨by rw [redF, appl]; exact sorted_ids h hs, by rw [redF, inv_sorted p hs]; rfl, fun x hx => by simp [redF] at hx⟩
    · have := swap_inv p k hk h2
      omega
  | succ f ih =>
    intro p h hf
    rcases first_cases p with h1 | ⟨k, hk, h1, h2⟩
    · have hs := sorted_inv p h1
      rw [red_none _ p h1]
      exact ⟨by rw [appl]; exact sorted_ids h hs, by rw [inv_sorted p hs]; rfl, fun x hx => by simp at hx⟩
    · have hi := swap_inv p k hk h2
      rw [red_some f p k hk h1 h2]
      obtain ⟨g1, g2, g3⟩ := ih (swapAt p k) (swap_perm p k hk h) (by omega)
      rw [swap_len] at g1 g3
      refine ⟨by rw [appl]; exact g1, by rw [List.length_cons, g2, hi], fun x hx => ?_⟩
      rcases List.mem_cons.1 hx with rfl | hx
      · simp only [stepOk, decide_eq_true_eq]; omega
      · exact g3 x hx
theorem red_word {p : List Int} (h : permB p = true) : wordOk p.length (redW p) = true ∧ powL p.length (redW p) = p ∧ (redW p).length = inv p := by
  have hl := perm_len h
  obtain ⟨g1, g2, g3⟩ := red_sorts (inv p) p h (Nat.le_refl _)
  have hle : inv p ≤ 144 := by
    have := inv_le p
    have h2 : p.length * p.length ≤ 12 * 12 := Nat.mul_le_mul hl hl
    omega
  have g2' : (redW p).length = inv p := g2
  have hst : ∀ j, j < (redW p).length → stepOk p.length ((redW p).getD j 0) = true := fun j hj => by
    refine g3 _ ?_
    rw [show (redW p).getD j 0 = (redW p)[j] from by simp [List.getD, List.getElem?_eq_getElem hj]]
    exact List.getElem_mem hj
  have hid : idOk (p.length : Int) = true := by simp [idOk]; omega
  have hok : wordOk p.length (redW p) = true := word_good _ _ hid (by omega) hst
  refine ⟨hok, ?_, g2'⟩
  rw [powL, if_pos hok, Int.toNat_natCast, things_appl _ _ _ (Nat.le_refl _), List.take_length]
  have hT : permB (appl (ids p.length) (redW p)) = true := by
    rw [← List.take_length (l := redW p), ← things_appl _ _ _ (Nat.le_refl _)]
    exact things_perm _ _ _ hl (Nat.le_refl _) hst
  have hTl : (appl (ids p.length) (redW p)).length = p.length := by rw [appl_len, ids_len]
  have hc : compL (appl (ids p.length) (redW p)) p = ids p.length := by
    rw [← comp_appl (redW p) p (ids p.length) (by rw [ids_len]; exact hst), comp_ids _ _ rfl]
    exact g1
  generalize appl (ids p.length) (redW p) = T at *
  refine list_eq_of (by rw [invL_len, hTl]) fun j hj => ?_
  rw [invL_len] at hj
  obtain ⟨a, ha, hal⟩ := perm_places h j (by omega)
  -- p sends j to a; T sends some i to j, and p of it is i
  obtain ⟨i, hi, he⟩ := perm_surj hT j hj
  have h1 := comp_at T p i hi
  rw [hc, he, Int.toNat_natCast] at h1
  have h2 : (ids p.length).getD i 0 = (i : Int) := by simp [ids, List.getD, show i < p.length by omega]
  rw [← h1, h2]
  exact inv_at hT i j hi he

/-! ### the rank -/
/-- The rank of a list of different numbers. -/
def rk : List Int → Nat
  | [] => 0
  | a :: t => (t.countP fun y => decide (y < a)) * fact t.length + rk t
theorem rk_rank (p : List Int) : rankN p = rk p := by
  rw [← horner_all]
  induction p with
  | nil => rfl
  | cons a t ih =>
    rw [List.length_cons, sum_shift, less_zero, rk, ← ih]
    congr 1
    refine sum_congr _ _ _ fun i hi => ?_
    rw [less_cons, show t.length + 1 - 1 - (i + 1) = t.length - 1 - i by omega]
theorem rk_lt (p : List Int) : rk p < fact p.length := by
  induction p with
  | nil => simp [rk, fact]
  | cons a t ih =>
    have h1 : (t.countP fun y => decide (y < a)) ≤ t.length := List.countP_le_length
    have h2 := Nat.mul_le_mul_right (fact t.length) h1
    rw [rk, List.length_cons, fact, Nat.mul_comm (fact t.length), Nat.add_mul]
    omega
/-- In an increasing list, an element stands behind as many as are less. -/
theorem place_of (l : List Int) (a : Int) (hs : l.Pairwise (· < ·)) (ha : a ∈ l) : l.getD (l.countP fun y => decide (y < a)) 0 = a ∧ l.eraseIdx (l.countP fun y => decide (y < a)) = l.erase a := by
  induction l with
  | nil => cases ha
  | cons x r ih =>
    by_cases hx : x = a
    · subst hx
      have h0 : (x :: r).countP (fun y => decide (y < x)) = 0 := by
        rw [List.countP_eq_zero]
        intro y hy
        rcases List.mem_cons.1 hy with rfl | hy
        · simp
        · have := List.rel_of_pairwise_cons hs hy
          simp; omega
      rw [h0]
      simp
    · have har : a ∈ r := by
        rcases List.mem_cons.1 ha with h | h
        · exact absurd h.symm hx
        · exact h
      have hlt := List.rel_of_pairwise_cons hs har
      obtain ⟨g1, g2⟩ := ih (List.Pairwise.of_cons hs) har
      rw [List.countP_cons, if_pos (by simpa using hlt), List.getD_cons_succ, List.eraseIdx_cons_succ, g1, g2, List.erase_cons_tail (by simpa using hx)]
      exact ⟨rfl, rfl⟩
theorem pick_rank : ∀ (p l : List Int), p.Perm l → l.Pairwise (· < ·) → pa.pick p.length (rk p) l = p := by
  intro p
  induction p with
  | nil => intro l _ _; rfl
  | cons a t ih =>
    intro l hp hs
    have hal : a ∈ l := hp.subset (List.mem_cons_self ..)
    have hc : (l.countP fun y => decide (y < a)) = t.countP fun y => decide (y < a) := by
      rw [← hp.countP_eq, List.countP_cons]
      simp
    obtain ⟨g1, g2⟩ := place_of l a hs hal
    rw [hc] at g1 g2
    have hlt := rk_lt t
    have hd : rk (a :: t) / fact t.length = t.countP fun y => decide (y < a) := by
      rw [rk, Nat.mul_comm, Nat.mul_add_div (fact_pos _), Nat.div_eq_of_lt hlt, Nat.add_zero]
    have hm : rk (a :: t) % fact t.length = rk t := by
      rw [rk, Nat.mul_comm, Nat.mul_add_mod, Nat.mod_eq_of_lt hlt]
    rw [List.length_cons, pa.pick, hd, hm, g1, g2, ih (l.erase a) ?_ (hs.sublist (List.erase_sublist ..))]
    have := hp.erase a
    simpa using this
theorem ids_rise (n : Nat) : (ids n).Pairwise (· < ·) := by
  rw [ids, List.pairwise_map]
  exact List.Pairwise.imp (fun h => by omega) List.pairwise_lt_range
theorem rank_pick {p : List Int} (h : permB p = true) : patOk p.length (rankP p) = true ∧ patL p.length (rankP p) = p := by
  have hl := perm_len h
  have hr : rankP p = (rk p : Int) := by rw [rankP, if_pos h, rk_rank]
  have hlt := rk_lt p
  have hok : patOk p.length (rankP p) = true := by
    rw [hr]
    simp only [patOk, Int.toNat_natCast, Bool.and_eq_true, decide_eq_true_eq]
    exact ⟨by omega, by omega⟩
  refine ⟨hok, ?_⟩
  rw [patL, if_pos hok, hr, Int.toNat_natCast, Int.toNat_natCast]
  exact pick_rank p _ (perm_ids h) (ids_rise _)
theorem rank_inj {p q : List Int} (hp : permB p = true) (hq : permB q = true) (hl : p.length = q.length) : (rankP p = rankP q) ↔ p = q := by
  refine ⟨fun h => ?_, fun h => by rw [h]⟩
  rw [← (rank_pick hp).2, ← (rank_pick hq).2, h, hl]

/-! ### all that the law asks -/
structure Facts (p : List Int) : Prop where
  hp : permB p = true
  l12 : p.length ≤ 12
  ok : idOk p.length = true
  idl : idL p.length = ids p.length
  iv : fn.invP p = invL p
  ivl : (invL p).length = p.length
  ivp : permB (invL p) = true
  both : bothB p (invL p) = true
  comp : compL p (invL p) = ids p.length
  red : redP p = redW p
  wok : wordOk p.length (redW p) = true
  pow : powL p.length (redW p) = p
  num : bt.invP p = ((redW p).length : Int)
  num2 : bt.invP (invL p) = bt.invP p
  wl : (redW p).length ≤ 144
  pok : patOk p.length (rankP p) = true
  pat : patL p.length (rankP p) = p
  desc : descP p = descL p
  dl : (descL p).length ≤ 12
  d0 : descL p = [] ↔ redW p = []
  d1 : ∀ x r, descL p = x :: r → (redW p).head? = some x
theorem facts {p : List Int} (h : permB p = true) : Facts p := by
  have hl := perm_len h
  obtain ⟨w1, w2, w3⟩ := red_word h
  obtain ⟨r1, r2⟩ := rank_pick h
  have hip := inv_perm h
  have hid : idOk (p.length : Int) = true := by simp [idOk]; omega
  have hle : inv p ≤ 144 := by
    have := inv_le p
    have h2 : p.length * p.length ≤ 12 * 12 := Nat.mul_le_mul hl hl
    omega
  have hn : bt.invP p = ((redW p).length : Int) := by rw [bt.invP, if_pos h, invs_inv, w3]
  have hdp : descP p = descL p := by rw [descP, if_pos h]
  have hcases := first_cases p
  refine ⟨h, hl, hid, by rw [idL, if_pos hid, Int.toNat_natCast], by rw [fn.invP, if_pos h], invL_len p, hip, by simp [bothB, h, hip, invL_len], ?_, by rw [redP, if_pos h], w1, w2, hn, ?_, by omega, r1, r2, hdp, by rw [← hdp]; exact descP_len p, ?_, ?_⟩
  · refine list_eq_of (by rw [compL_len, ids_len]) fun j hj => ?_
    rw [compL_len] at hj
    obtain ⟨a, ha, hal⟩ := perm_places h j hj
    rw [comp_at _ _ j hj, ha, Int.toNat_natCast, inv_at h j a hj ha]
    simp [ids, List.getD, hj]
  · rw [bt.invP, if_pos hip, invs_inverse h, bt.invP, if_pos h]
  · rw [descL_nil]
    constructor
    · intro hnd
      rw [redW, red_none _ p hnd]
    · intro he
      rcases hcases with h1 | ⟨k, hk, h1, h2⟩
      · exact h1
      · have := swap_inv p k hk h2
        rw [he] at w3
        simp at w3
        omega
  · intro x r he
    obtain ⟨k, rfl, hk, h1, h2⟩ := descL_cons p x r he
    have hi := swap_inv p k hk h2
    rw [redW, ← hi, red_some _ p k hk h1 h2]
    rfl
end Go.Proofs.Ytaconeliiicloaa.pf
