/-
  Words of exchanges one after the other, in plain words.
-/
import Derived.Test.YtaconeliiicloaaPow
import Derived.Test.YtaconeliiicloaaSrc2
namespace Go.Proofs.Ytaconeliiicloaa.lt
open Go.RowKit Go.Proofs.Ytaconeliiicloaa.sl Go.Proofs.Ytaconeliiicloaa.pm Go.Proofs.Ytaconeliiicloaa.fn Go.Proofs.Ytaconeliiicloaa.sr

theorem comp_at (p q : List Int) (j : Nat) (hj : j < p.length) : (compL p q).getD j 0 = q.getD (p.getD j 0).toNat 0 := by
  simp [compL, List.getD, List.getElem?_eq_getElem hj]
theorem comp_swap (p q : List Int) (k : Nat) (hk : k + 1 < p.length) : compL (swapAt p k) q = swapAt (compL p q) k := by
  unfold swapAt
  rw [comp_at p q k (by omega), comp_at p q (k + 1) hk]
  simp only [compL, List.map_set]
theorem comp_ids (n : Nat) (q : List Int) (hq : q.length = n) : compL (ids n) q = q := by
  refine list_eq_of (by rw [compL_len, ids_len, hq]) fun j hj => ?_
  rw [compL_len, ids_len] at hj
  rw [comp_at _ _ j (by rw [ids_len]; exact hj)]
  have : (ids n).getD j 0 = (j : Int) := by simp [ids, List.getD, hj]
  rw [this]; rfl
theorem app_left (a b : List Int) (j : Nat) (hj : j < a.length) : (a ++ b).getD j 0 = a.getD j 0 := by
  simp [List.getD, List.getElem?_append_left hj]
theorem app_right (a b : List Int) (j : Nat) : (a ++ b).getD (a.length + j) 0 = b.getD j 0 := by
  simp only [List.getD]
  rw [List.getElem?_append_right (Nat.le_add_right _ _), Nat.add_sub_cancel_left]
theorem things_left (n : Nat) (a b : List Int) (k : Nat) (hk : k ≤ a.length) : things n (a ++ b) k = things n a k := by
  induction k with
  | zero => rfl
  | succ k ih => rw [things, things, ih (by omega), app_left a b k (by omega)]
theorem things_app (n : Nat) (a b : List Int) (k : Nat) (hk : k ≤ b.length) (hb : ∀ j, j < b.length → stepOk n (b.getD j 0) = true) : things n (a ++ b) (a.length + k) = compL (things n b k) (things n a a.length) := by
  induction k with
  | zero => rw [Nat.add_zero, things_left n a b _ (Nat.le_refl _), things, comp_ids n _ (things_len n a _)]
  | succ k ih =>
    have h1 := hb k (by omega)
    simp only [stepOk, decide_eq_true_eq] at h1
    show swapAt (things n (a ++ b) (a.length + k)) ((a ++ b).getD (a.length + k) 0).toNat = compL (swapAt (things n b k) (b.getD k 0).toNat) (things n a a.length)
    rw [ih (by omega), app_right, comp_swap _ _ _ (by rw [things_len]; omega)]
theorem things_perm (n : Nat) (ws : List Int) (k : Nat) (hn : n ≤ 12) (hk : k ≤ ws.length) (h : ∀ j, j < ws.length → stepOk n (ws.getD j 0) = true) : permB (things n ws k) = true := by
  induction k with
  | zero => exact ids_perm n hn
  | succ k ih =>
    have h1 := h k (by omega)
    simp only [stepOk, decide_eq_true_eq] at h1
    exact exch_perm _ _ _ (by rw [things_len]; omega) (by rw [things_len]; omega) (ih (by omega))
theorem inv_perm {p : List Int} (h : permB p = true) : permB (invL p) = true := by
  refine permB_mk _ (by rw [invL_len]; exact perm_len h) ?_ ?_
  · rw [invL_len]
    intro j hj
    rw [invL_len] at hj
    obtain ⟨i, hi, he⟩ := perm_surj h j hj
    exact ⟨i, inv_at h i j hi he, hi⟩
  · intro i j hi hj he
    rw [invL_len] at hi hj
    by_cases e : i = j
    · exact e
    · exact absurd he (inv_ne h i j hi hj e)
theorem word_parts {n : Int} {ws : List Int} (h : wordOk n ws = true) : idOk n = true ∧ ws.length ≤ 200 ∧ ∀ j, j < ws.length → stepOk n (ws.getD j 0) = true := by
  simp only [wordOk, Bool.and_eq_true, decide_eq_true_eq, List.all_eq_true] at h
  refine ⟨h.1.1, h.1.2, fun j hj => h.2 _ ?_⟩
  rw [show ws.getD j 0 = ws[j] from by simp [List.getD, List.getElem?_eq_getElem hj]]
  exact List.getElem_mem hj
theorem word_app {n : Int} {a b : List Int} (ha : wordOk n a = true) (hb : wordOk n b = true) (hl : a.length + b.length ≤ 200) : wordOk n (a ++ b) = true := by
  obtain ⟨h1, _, h3⟩ := word_parts ha
  obtain ⟨_, _, h6⟩ := word_parts hb
  refine word_good n _ h1 (by rw [List.length_append]; exact hl) fun j hj => ?_
  rw [List.length_append] at hj
  by_cases h : j < a.length
  · rw [app_left a b j h]; exact h3 j h
  · have e : j = a.length + (j - a.length) := by omega
    rw [e, app_right]; exact h6 _ (by omega)
theorem pow_app {n : Int} {a b : List Int} (ha : wordOk n a = true) (hb : wordOk n b = true) (hl : a.length + b.length ≤ 200) : bothB (powL n a) (powL n b) = true ∧ compL (powL n a) (powL n b) = powL n (a ++ b) := by
  have hab := word_app ha hb hl
  obtain ⟨h1, _, h3⟩ := word_parts ha
  obtain ⟨_, _, h6⟩ := word_parts hb
  obtain ⟨_, _, h9⟩ := word_parts hab
  simp only [idOk, decide_eq_true_eq] at h1
  obtain ⟨m, rfl⟩ := Int.eq_ofNat_of_zero_le h1.1
  have hm : m ≤ 12 := by omega
  have pa := things_perm m a a.length hm (Nat.le_refl _) h3
  have pb := things_perm m b b.length hm (Nat.le_refl _) h6
  have pab := things_perm m (a ++ b) (a ++ b).length hm (Nat.le_refl _) h9
  have ea : powL (m : Int) a = invL (things m a a.length) := by rw [powL, if_pos ha]; rfl
  have eb : powL (m : Int) b = invL (things m b b.length) := by rw [powL, if_pos hb]; rfl
  have eab : powL (m : Int) (a ++ b) = invL (things m (a ++ b) (a ++ b).length) := by rw [powL, if_pos hab]; rfl
  have hT : things m (a ++ b) (a ++ b).length = compL (things m b b.length) (things m a a.length) := by
    rw [List.length_append]; exact things_app m a b b.length (Nat.le_refl _) h6
  have la := things_len m a a.length
  have lb := things_len m b b.length
  have lab := things_len m (a ++ b) (a ++ b).length
  rw [ea, eb, eab]
  refine ⟨by simp [bothB, inv_perm pa, inv_perm pb, invL_len, la, lb], ?_⟩
  refine list_eq_of (by rw [compL_len, invL_len, invL_len, la, lab]) fun t ht => ?_
  rw [compL_len, invL_len, la] at ht
  obtain ⟨s, hs, hst⟩ := perm_surj pa t (by omega)
  obtain ⟨i, hi, his⟩ := perm_surj pb s (by omega)
  rw [comp_at _ _ t (by rw [invL_len]; omega), inv_at pa s t hs hst]
  have h10 : (things m (a ++ b) (a ++ b).length).getD i 0 = (t : Int) := by
    rw [hT, comp_at _ _ i hi, his]
    exact hst
  rw [inv_at pab i t (by omega) h10]
  exact inv_at pb i s hi his

end Go.Proofs.Ytaconeliiicloaa.lt
