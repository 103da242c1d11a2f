/-
  The lattice of permutations in plain words.
-/
import Derived.Test.YtaconeliiicloaaMj5
import Derived.Test.YtaconeliiicloaaSrc2
namespace Go.Proofs.Ytaconeliiicloaa.lt
open Go.RowKit Go.Proofs.Ytaconeliiicloaa.sl Go.Proofs.Ytaconeliiicloaa.pm Go.Proofs.Ytaconeliiicloaa.fn Go.Proofs.Ytaconeliiicloaa.la Go.Proofs.Ytaconeliiicloaa.mj Go.Proofs.Ytaconeliiicloaa.sr

theorem iv_in {p : List Int} {i k : Nat} (h : iv p i k = true) : i < k ∧ k < p.length := by
  simp only [iv, decide_eq_true_eq] at h
  omega
theorem perm_ne {p : List Int} (h : permB p = true) (i k : Nat) (hi : i < p.length) (hk : k < p.length) (hne : i ≠ k) : p.getD i 0 ≠ p.getD k 0 :=
  fun e => hne (nodup_at (perm_nodup h) i k hi hk e)
theorem rev_perm {p : List Int} (h : permB p = true) : permB (revL p) = true := by
  refine permB_mk _ (by rw [revL_len]; exact perm_len h) (by rw [revL_len]; exact rev_places (perm_places h)) fun i j hi hj he => ?_
  rw [revL_len] at hi hj
  rw [revL_at p i hi, revL_at p j hj] at he
  exact nodup_at (perm_nodup h) i j hi hj (by omega)
theorem iv_rev {p : List Int} (h : permB p = true) (i k : Nat) (hik : i < k) (hk : k < p.length) : iv (revL p) i k = !iv p i k := by
  have hne := perm_ne h i k (by omega) hk (by omega)
  unfold iv
  rw [revL_len, revL_at p i (by omega), revL_at p k hk]
  generalize p.getD k 0 = y at *
  generalize p.getD i 0 = x at *
  by_cases hlt : y < x
  · have h1 : ¬ ((p.length : Int) - 1 - y < (p.length : Int) - 1 - x) := by omega
    simp [hlt, h1, hik, hk]
  · have h1 : (p.length : Int) - 1 - y < (p.length : Int) - 1 - x := by omega
    simp [hlt, h1, hik, hk]
theorem iv_join (p q : List Int) (hl : p.length = q.length) (i k : Nat) : iv (joinL p q) i k = cl p.length (un p q) i k :=
  iv_pos (fun i k h => cl_up (un_up p q hl) i k h) (cl_trans (un_up p q hl)) (cl_co (un_up p q hl) (un_co p q)) i k
theorem join_perm (p q : List Int) (hl : p.length = q.length) (h12 : p.length ≤ 12) : permB (joinL p q) = true := by
  refine permB_mk _ (by rw [joinL_len]; exact h12) (by rw [joinL_len]; exact join_places p q) fun i j hi hj he => ?_
  rw [joinL_len] at hi hj
  rw [joinL, posL_at _ _ _ hi, posL_at _ _ _ hj] at he
  by_cases e : i = j
  · exact e
  · exfalso
    have ht := cl_trans (un_up p q hl)
    have hc := cl_co (un_up p q hl) (un_co p q)
    have hb := bef_total (cl p.length (un p q)) i j e
    cases h1 : bef (cl p.length (un p q)) i j
    · rw [h1] at hb
      have h2 : bef (cl p.length (un p q)) j i = true := by
        cases h3 : bef (cl p.length (un p q)) j i
        · rw [h3] at hb; cases hb
        · rfl
      have := pos_lt ht hc p.length j i hj hi h2
      omega
    · have := pos_lt ht hc p.length i j hi hj h1
      omega
theorem meet_perm {p q : List Int} (hp : permB p = true) (hl : p.length = q.length) : permB (meetL p q) = true :=
  rev_perm (join_perm (revL p) (revL q) (by rw [revL_len, revL_len, hl]) (by rw [revL_len]; exact perm_len hp))
theorem iv_meet {p q : List Int} (hp : permB p = true) (hl : p.length = q.length) (i k : Nat) (hik : i < k) (hk : k < p.length) : iv (meetL p q) i k = !cl p.length (un (revL p) (revL q)) i k := by
  have hlr : (revL p).length = (revL q).length := by rw [revL_len, revL_len, hl]
  rw [meetL, iv_rev (join_perm (revL p) (revL q) hlr (by rw [revL_len]; exact perm_len hp)) i k hik (by rw [joinL_len, revL_len]; exact hk), iv_join _ _ hlr, revL_len]

/-! ### inversions tell the permutation -/
theorem count_below (n v : Nat) : (List.range n).countP (fun j => decide (j < v)) = min n v := by
  induction n with
  | zero => simp
  | succ n ih =>
    rw [List.range_succ, List.countP_append, List.countP_singleton, ih]
    by_cases h : n < v
    · simp [h]; omega
    · simp [h]; omega
theorem perm_ids {p : List Int} (h : permB p = true) : p.Perm (ids p.length) := by
  have hnd : (ids p.length).Nodup := by
    rw [ids, List.Nodup, List.pairwise_map]
    exact List.Pairwise.imp (fun h e => h (by omega)) List.nodup_range
  rw [List.perm_ext_iff_of_nodup (perm_nodup h) hnd]
  intro a
  constructor
  · intro ha
    obtain ⟨j, hj, he⟩ := mem_at ha
    obtain ⟨m, hm, hml⟩ := perm_places h j hj
    simp only [ids, List.mem_map, List.mem_range]
    exact ⟨m, hml, by omega⟩
  · intro ha
    simp only [ids, List.mem_map, List.mem_range] at ha
    obtain ⟨m, hm, rfl⟩ := ha
    obtain ⟨j, hj, he⟩ := perm_surj h m hm
    rw [← he, show p.getD j 0 = p[j] from by simp [List.getD, List.getElem?_eq_getElem hj]]
    exact List.getElem_mem hj
theorem range_list (p : List Int) : (List.range p.length).map (fun x => p.getD x 0) = p := by
  refine list_eq_of (by simp) fun j hj => ?_
  simp only [List.length_map, List.length_range] at hj
  simp [List.getD, hj]
theorem count_perm {p : List Int} (h : permB p = true) (v : Nat) (hv : v ≤ p.length) : (List.range p.length).countP (fun x => decide (p.getD x 0 < (v : Int))) = v := by
  have e1 : (List.range p.length).countP (fun x => decide (p.getD x 0 < (v : Int))) = ((List.range p.length).map (fun x => p.getD x 0)).countP (fun z => decide (z < (v : Int))) := by
    rw [List.countP_map]; rfl
  rw [e1, range_list, (perm_ids h).countP_eq, ids, List.countP_map]
  have e2 : ((List.range p.length).countP ((fun z => decide (z < (v : Int))) ∘ fun (j : Nat) => (j : Int))) = (List.range p.length).countP (fun j => decide (j < v)) := by
    apply List.countP_congr
    intro x _
    simp
  rw [e2, count_below]
  omega
theorem less_iv {p : List Int} (h : permB p = true) (x t : Nat) (hx : x < p.length) (ht : t < p.length) : decide (p.getD x 0 < p.getD t 0) = if x < t then !iv p x t else if t < x then iv p t x else false := by
  by_cases h1 : x < t
  · have hne := perm_ne h x t hx ht (by omega)
    rw [if_pos h1]
    unfold iv
    generalize p.getD t 0 = y at *
    generalize p.getD x 0 = z at *
    by_cases hlt : y < z
    · have : ¬ z < y := by omega
      simp [hlt, this, h1, ht]
    · have : z < y := by omega
      simp [hlt, this]
  · rw [if_neg h1]
    by_cases h2 : t < x
    · rw [if_pos h2]
      unfold iv
      simp [h2, hx]
    · rw [if_neg h2]
      obtain rfl : x = t := by omega
      simp
theorem eq_of_iv {p q : List Int} (hp : permB p = true) (hq : permB q = true) (hl : p.length = q.length) (h : ∀ i k, i < k → k < p.length → iv p i k = iv q i k) : p = q := by
  refine list_eq_of hl fun t ht => ?_
  obtain ⟨a, ha, hal⟩ := perm_places hp t ht
  obtain ⟨b, hb, hbl⟩ := perm_places hq t (by omega)
  have c1 := count_perm hp a (by omega)
  have c2 := count_perm hq b (by omega)
  rw [← ha] at c1
  rw [← hb, ← hl] at c2
  have e : (List.range p.length).countP (fun x => decide (p.getD x 0 < p.getD t 0)) = (List.range p.length).countP (fun x => decide (q.getD x 0 < q.getD t 0)) := by
    apply count_same
    intro x hx
    rw [less_iv hp x t hx ht, less_iv hq x t (by omega) (by omega)]
    by_cases h1 : x < t
    · rw [if_pos h1, if_pos h1, h x t h1 ht]
    · rw [if_neg h1, if_neg h1]
      by_cases h2 : t < x
      · rw [if_pos h2, if_pos h2, h t x h2 hx]
      · rw [if_neg h2, if_neg h2]
  rw [ha, hb]
  omega

/-! ### the lattice -/
def Under (p q : List Int) : Prop := ∀ i k, iv p i k = true → iv q i k = true
theorem cl_under {n : Nat} {u t : Nat → Nat → Bool} (hut : ∀ i k, u i k = true → t i k = true) (ht : ∀ i j k, t i j = true → t j k = true → t i k = true) (i k : Nat) (h : cl n u i k = true) : t i k = true := reach_least hut ht n i k h
theorem join_left (p q : List Int) (hl : p.length = q.length) : Under p (joinL p q) := by
  intro i k h
  rw [iv_join p q hl]
  exact cl_of i k (by simp [un, h])
theorem join_right (p q : List Int) (hl : p.length = q.length) : Under q (joinL p q) := by
  intro i k h
  rw [iv_join p q hl]
  exact cl_of i k (by simp [un, h])
theorem join_least (p q r : List Int) (hl : p.length = q.length) (h1 : Under p r) (h2 : Under q r) : Under (joinL p q) r := by
  intro i k h
  rw [iv_join p q hl] at h
  refine cl_under (t := iv r) (fun i k hu => ?_) (iv_trans r) i k h
  simp only [un, Bool.or_eq_true] at hu
  rcases hu with hu | hu
  · exact h1 i k hu
  · exact h2 i k hu
theorem under_rev {p q : List Int} (hp : permB p = true) (hq : permB q = true) (hl : p.length = q.length) (h : Under p q) : Under (revL q) (revL p) := by
  intro i k hi
  have h1 := iv_in hi
  rw [revL_len] at h1
  rw [iv_rev hq i k h1.1 h1.2] at hi
  rw [iv_rev hp i k h1.1 (by omega)]
  cases hc : iv p i k
  · rfl
  · rw [h i k hc] at hi; cases hi
theorem rev_rev {p : List Int} : revL (revL p) = p := by
  refine list_eq_of (by rw [revL_len, revL_len]) fun j hj => ?_
  rw [revL_len, revL_len] at hj
  rw [revL_at _ j (by rw [revL_len]; exact hj), revL_len, revL_at p j hj]
  omega
theorem meet_left {p q : List Int} (hp : permB p = true) (hl : p.length = q.length) : Under (meetL p q) p := by
  have hlr : (revL p).length = (revL q).length := by rw [revL_len, revL_len, hl]
  have h := under_rev (rev_perm hp) (join_perm (revL p) (revL q) hlr (by rw [revL_len]; exact perm_len hp)) (by rw [joinL_len]) (join_left (revL p) (revL q) hlr)
  rw [rev_rev] at h
  exact h
theorem meet_right {p q : List Int} (hp : permB p = true) (hq : permB q = true) (hl : p.length = q.length) : Under (meetL p q) q := by
  have hlr : (revL p).length = (revL q).length := by rw [revL_len, revL_len, hl]
  have h := under_rev (rev_perm hq) (join_perm (revL p) (revL q) hlr (by rw [revL_len]; exact perm_len hp)) (by rw [joinL_len, revL_len, revL_len, hl]) (join_right (revL p) (revL q) hlr)
  rw [rev_rev] at h
  exact h
theorem meet_most {p q r : List Int} (hp : permB p = true) (hq : permB q = true) (hr : permB r = true) (hl : p.length = q.length) (hlr : r.length = p.length) (h1 : Under r p) (h2 : Under r q) : Under r (meetL p q) := by
  have hl2 : (revL p).length = (revL q).length := by rw [revL_len, revL_len, hl]
  have h := join_least (revL p) (revL q) (revL r) hl2 (under_rev hr hp hlr h1) (under_rev hr hq (by omega) h2)
  have h3 := under_rev (join_perm (revL p) (revL q) hl2 (by rw [revL_len]; exact perm_len hp)) (rev_perm hr) (by rw [joinL_len, revL_len, revL_len, hlr]) h
  rw [rev_rev] at h3
  exact h3
theorem under_anti {p q : List Int} (hp : permB p = true) (hq : permB q = true) (hl : p.length = q.length) (h1 : Under p q) (h2 : Under q p) : p = q := by
  refine eq_of_iv hp hq hl fun i k _ _ => ?_
  rw [Bool.eq_iff_iff]
  exact ⟨h1 i k, h2 i k⟩
theorem under_refl (p : List Int) : Under p p := fun _ _ h => h
theorem meet_absorb {p q : List Int} (hp : permB p = true) (_hq : permB q = true) (hl : p.length = q.length) : meetL p (joinL p q) = p := by
  have hj := join_perm p q hl (perm_len hp)
  have hjl : p.length = (joinL p q).length := (joinL_len p q).symm
  exact under_anti (meet_perm hp hjl) hp (meetL_len _ _) (meet_left hp hjl) (meet_most hp hj hp hjl rfl (under_refl p) (join_left p q hl))
theorem join_absorb {p q : List Int} (hp : permB p = true) (hl : p.length = q.length) : joinL p (meetL p q) = p := by
  have hml : p.length = (meetL p q).length := (meetL_len p q).symm
  exact under_anti (join_perm p _ hml (perm_len hp)) hp (joinL_len _ _) (join_least p _ p hml (under_refl p) (meet_left hp hl)) (join_left p _ hml)
theorem join_comm {p q : List Int} (hl : p.length = q.length) : joinL q p = joinL p q := by
  have : un q p = un p q := by funext i k; unfold un; exact Bool.or_comm _ _
  rw [joinL, joinL, this, hl]
theorem meet_comm {p q : List Int} (hl : p.length = q.length) : meetL q p = meetL p q := by
  rw [meetL, meetL, join_comm (by rw [revL_len, revL_len, hl])]
theorem under_meet {p q : List Int} (hp : permB p = true) (hq : permB q = true) (hl : p.length = q.length) (h : Under p q) : meetL p q = p :=
  under_anti (meet_perm hp hl) hp (meetL_len _ _) (meet_left hp hl) (meet_most hp hq hp hl rfl (under_refl p) h)
theorem under_join {p q : List Int} (hp : permB p = true) (hq : permB q = true) (hl : p.length = q.length) (h : Under p q) : joinL p q = q :=
  under_anti (join_perm p q hl (perm_len hp)) hq (by rw [joinL_len, hl]) (join_least p q q hl h (under_refl q)) (join_right p q hl)

end Go.Proofs.Ytaconeliiicloaa.lt
