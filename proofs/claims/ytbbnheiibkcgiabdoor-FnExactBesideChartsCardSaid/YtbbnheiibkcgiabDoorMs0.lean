/-
  The mirror image of stitches: the stacks that they leave, and the code, are mirrored.
-/
import Derived.Test.YtbbnheiibkcgiabDoorSt0
namespace Go.Proofs.YtbbnheiibkcgiabDoor.st
open Go.Proofs.YtbbnheiibkcgiabDoor.bw
set_option linter.unusedVariables false

def mir (ks : List Int) : List Int := ks.reverse.map mi
theorem mir_len (ks : List Int) : (mir ks).length = ks.length := by simp [mir]
theorem mir_at (ks : List Int) (i : Nat) (h : i < ks.length) : (mir ks).getD i 0 = mi (ks.getD (ks.length - 1 - i) 0) := by
  have h2 : ks.length - 1 - i < ks.length := by omega
  simp [mir, List.getD, h, List.getElem?_eq_getElem h2]
theorem mi_knd (k : Int) : knd (mi k) = knd k := by
  cases h : knd k
  · have e : mi k = 0 := by rw [mi, if_neg (by rw [h]; simp)]
    rw [e]; rfl
  · obtain ⟨j, rfl, hj⟩ := knd_nat h
    rw [mi_at hj]
    exact all12 (fun j => 1 ≤ j → knd (miT.getD j 0) = true) (by decide) hj.2 hj.1
theorem mi_tk {k : Int} (h : knd k = true) : tk (mi k) = tk k := by
  obtain ⟨j, rfl, hj⟩ := knd_nat h
  rw [mi_at hj, tk_at hj]
  exact all12 (fun j => 1 ≤ j → tk (miT.getD j 0) = tkT.getD j 0) (by decide) hj.2 hj.1
theorem mi_md {k : Int} (h : knd k = true) : md (mi k) = md k := by
  obtain ⟨j, rfl, hj⟩ := knd_nat h
  rw [mi_at hj, md_at hj]
  exact all12 (fun j => 1 ≤ j → md (miT.getD j 0) = mdT.getD j 0) (by decide) hj.2 hj.1
theorem mi_6 {k : Int} (h : knd k = true) : mi k = 6 ↔ k = 6 := by
  obtain ⟨j, rfl, hj⟩ := knd_nat h
  rw [mi_at hj]
  exact all12 (fun j => 1 ≤ j → (miT.getD j 0 = 6 ↔ (j : Int) = 6)) (by decide) hj.2 hj.1
theorem mi_7 {k : Int} (h : knd k = true) : mi k = 7 ↔ k = 7 := by
  obtain ⟨j, rfl, hj⟩ := knd_nat h
  rw [mi_at hj]
  exact all12 (fun j => 1 ≤ j → (miT.getD j 0 = 7 ↔ (j : Int) = 7)) (by decide) hj.2 hj.1
theorem mi_45 {k : Int} (h : knd k = true) : (mi k = 4 ∨ mi k = 5) ↔ (k = 4 ∨ k = 5) := by
  obtain ⟨j, rfl, hj⟩ := knd_nat h
  rw [mi_at hj]
  exact all12 (fun j => 1 ≤ j → ((miT.getD j 0 = 4 ∨ miT.getD j 0 = 5) ↔ ((j : Int) = 4 ∨ (j : Int) = 5))) (by decide) hj.2 hj.1
theorem foldl_add9 (xs : List Int) : ∀ a : Int, xs.foldl (· + ·) a = a + xs.foldl (· + ·) 0 := by
  induction xs with
  | nil => intro a; simp
  | cons x xs ih => intro a; simp only [List.foldl_cons]; rw [ih (a + x), ih (0 + x)]; omega
theorem sumL_app9 (xs ys : List Int) : sumL (xs ++ ys) = sumL xs + sumL ys := by
  unfold sumL
  rw [List.foldl_append, foldl_add9 ys]
theorem sumL_cons9 (x : Int) (xs : List Int) : sumL (x :: xs) = x + sumL xs := by
  rw [show x :: xs = [x] ++ xs from rfl, sumL_app9]; simp [sumL]
theorem sumL_rev (xs : List Int) : sumL xs.reverse = sumL xs := by
  induction xs with
  | nil => rfl
  | cons x xs ih => rw [List.reverse_cons, sumL_app9, ih, sumL_cons9, sumL_cons9]; simp [sumL]; omega
theorem mkC_mir {k : Int} (h : knd k = true) (ts : List Int) : mkC (mi k) ts.reverse = (mkC k ts).reverse := by
  unfold mkC
  rw [sumL_rev, mi_md h]
  by_cases h6 : k = 6
  · rw [if_pos h6, if_pos ((mi_6 h).2 h6)]; rfl
  · rw [if_neg h6, if_neg (fun e => h6 ((mi_6 h).1 e))]
    by_cases h7 : k = 7
    · rw [if_pos h7, if_pos ((mi_7 h).2 h7)]; rfl
    · rw [if_neg h7, if_neg (fun e => h7 ((mi_7 h).1 e)), List.reverse_replicate]
theorem badC_mir {k : Int} (h : knd k = true) (ts : List Int) : badC (mi k) ts.reverse = badC k ts := by
  unfold badC
  rw [sumL_rev]
  by_cases h6 : k = 6
  · rw [if_pos h6, if_pos ((mi_6 h).2 h6)]
  · rw [if_neg h6, if_neg (fun e => h6 ((mi_6 h).1 e))]
    by_cases h45 : k = 4 ∨ k = 5
    · rw [if_pos h45, if_pos ((mi_45 h).2 h45)]
    · rw [if_neg h45, if_neg (fun e => h45 ((mi_45 h).1 e))]
theorem map_mir (f : Int → Int) {ks : List Int} (hf : ∀ k, knd k = true → f (mi k) = f k) (hk : ∀ j, j < ks.length → knd (ks.getD j 0) = true) : (mir ks).map f = (ks.map f).reverse := by
  rw [mir, List.map_map, ← List.map_reverse]
  refine List.map_congr_left fun k hm => ?_
  rw [List.mem_reverse] at hm
  obtain ⟨j, hj⟩ := List.getElem?_of_mem hm
  have hl : j < ks.length := (List.getElem?_eq_some_iff.1 hj).1
  have := hk j hl
  rw [show ks.getD j 0 = k from by simp [List.getD, hj]] at this
  exact hf k this
theorem lst_mir (ks : List Int) : lst (mir ks) = lst ks := by
  rw [lst, lst, mir_len, mir, List.all_map, List.all_reverse]
  congr 1
  refine congrArg (fun f => ks.all f) (funext fun k => ?_)
  exact mi_knd k
theorem mir_kn {ks : List Int} (hk : ∀ j, j < ks.length → knd (ks.getD j 0) = true) : ∀ j, j < (mir ks).length → knd ((mir ks).getD j 0) = true := fun j hj => by
  rw [mir_len] at hj
  rw [mir_at ks j hj, mi_knd]
  exact hk _ (by omega)
theorem tkS_mir (ks : List Int) : tkS (mir ks) = tkS ks := by
  rw [tkS, tkS, lst_mir]
  cases h : lst ks
  · rfl
  · rw [if_pos rfl, if_pos rfl, map_mir tk (fun k => mi_tk) (lst_parts h).2, sumL_rev]
theorem mdS_mir (ks : List Int) : mdS (mir ks) = mdS ks := by
  rw [mdS, mdS, lst_mir]
  cases h : lst ks
  · rfl
  · rw [if_pos rfl, if_pos rfl, map_mir md (fun k => mi_md) (lst_parts h).2, sumL_rev]
theorem sumTo_rev (L : List Int) (i : Nat) (h : i ≤ L.length) : sumTo L.reverse i = sumL L - sumTo L (L.length - i) := by
  have e : L = L.take (L.length - i) ++ L.drop (L.length - i) := (List.take_append_drop _ _).symm
  have e2 : L.reverse.take i = (L.drop (L.length - i)).reverse := by
    rw [List.take_reverse]
  have h1 : sumL L = sumL (L.take (L.length - i)) + sumL (L.drop (L.length - i)) := by rw [← sumL_app9, ← e]
  rw [sumTo, e2]
  show sumL (L.drop (L.length - i)).reverse = sumL L - sumL (L.take (L.length - i))
  rw [sumL_rev, h1]; omega
theorem off_mir {ss ks : List Int} (hk : ∀ j, j < ks.length → knd (ks.getD j 0) = true) (ht : sumL (ks.map tk) = (ss.length : Int)) (i : Nat) (h : i ≤ ks.length) : off (mir ks) i = ss.length - off ks (ks.length - i) := by
  have h1 := off_nat (mir_kn hk) i (by rw [mir_len]; exact h)
  have h2 := off_nat hk (ks.length - i) (by omega)
  rw [sF, map_mir tk (fun k => mi_tk) hk, sumTo_rev _ _ (by simpa using h), ht, List.length_map] at h1
  rw [sF] at h2
  rw [h2] at h1
  omega
theorem cut_rev (ss : List Int) (o b : Nat) (h : o + b ≤ ss.length) : (ss.reverse.drop (ss.length - (o + b))).take b = ((ss.drop o).take b).reverse := by
  rw [List.drop_reverse, show ss.length - (ss.length - (o + b)) = o + b from by omega, List.take_reverse, List.length_take, Nat.min_eq_left h, show o + b - b = o from by omega, List.drop_take, show o + b - o = b from by omega]
theorem tkn_mir {ss ks : List Int} (hk : ∀ j, j < ks.length → knd (ks.getD j 0) = true) (ht : sumL (ks.map tk) = (ss.length : Int)) (i : Nat) (h : i < ks.length) : tkn ss.reverse (mir ks) i = (tkn ss ks (ks.length - 1 - i)).reverse := by
  have hl := tkn_len hk ht (ks.length - 1 - i) (by omega)
  have ho := off_mir hk ht i (by omega)
  have hs := off_succ hk (ks.length - 1 - i) (by omega)
  rw [show ks.length - 1 - i + 1 = ks.length - i from by omega] at hs
  rw [tkn, mir_at ks i h, mi_tk (hk _ (by omega)), ho, hs, cut_rev ss _ _ hl.2, tkn]
theorem mdn_mir {ss ks : List Int} (hk : ∀ j, j < ks.length → knd (ks.getD j 0) = true) (ht : sumL (ks.map tk) = (ss.length : Int)) (i : Nat) (h : i < ks.length) : mdn ss.reverse (mir ks) i = (mdn ss ks (ks.length - 1 - i)).reverse := by
  rw [mdn, tkn_mir hk ht i h, mir_at ks i h, mkC_mir (hk _ (by omega)), mdn]
theorem range_rev (n : Nat) : (List.range n).reverse = (List.range n).map fun i => n - 1 - i := by
  refine List.ext_getElem (by simp) fun j hj hj' => ?_
  simp at hj
  simp
theorem fm_congr (l : List Nat) (f g : Nat → List Int) (h : ∀ i ∈ l, f i = g i) : l.flatMap f = l.flatMap g := by
  induction l with
  | nil => rfl
  | cons x l ih => rw [List.flatMap_cons, List.flatMap_cons, h x (by simp), ih (fun i hi => h i (by simp [hi]))]
theorem aft_mir {ss ks : List Int} (hk : ∀ j, j < ks.length → knd (ks.getD j 0) = true) (ht : sumL (ks.map tk) = (ss.length : Int)) : aftTo ss.reverse (mir ks) (mir ks).length = (aftTo ss ks ks.length).reverse := by
  rw [aftTo, aftTo, mir_len, List.reverse_flatMap, range_rev, List.flatMap_map]
  refine fm_congr _ _ _ fun i hi => ?_
  exact mdn_mir hk ht i (by simpa using hi)
theorem bad_mir {ss ks : List Int} (hk : ∀ j, j < ks.length → knd (ks.getD j 0) = true) (ht : sumL (ks.map tk) = (ss.length : Int)) : badTo ss.reverse (mir ks) (mir ks).length = badTo ss ks ks.length := by
  have key : ∀ i, i < ks.length → badC ((mir ks).getD i 0) (tkn ss.reverse (mir ks) i) = badC (ks.getD (ks.length - 1 - i) 0) (tkn ss ks (ks.length - 1 - i)) := fun i hi => by
    rw [mir_at ks i hi, tkn_mir hk ht i hi, badC_mir (hk _ (by omega))]
  rw [badTo, badTo, mir_len, Bool.eq_iff_iff, List.any_eq_true, List.any_eq_true]
  constructor
  · rintro ⟨i, hi, h⟩
    rw [List.mem_range] at hi
    exact ⟨ks.length - 1 - i, by rw [List.mem_range]; omega, by rw [key i hi] at h; exact h⟩
  · rintro ⟨i, hi, h⟩
    rw [List.mem_range] at hi
    refine ⟨ks.length - 1 - i, by rw [List.mem_range]; omega, ?_⟩
    rw [key _ (by omega), show ks.length - 1 - (ks.length - 1 - i) = i from by omega]
    exact h
theorem stks_rev (ss : List Int) : stks ss.reverse = stks ss := by rw [stks, stks, List.length_reverse, List.all_reverse]
/-- The mirror image of the stitches, on the mirror image of the stacks. -/
theorem saC_mir (ss ks : List Int) : saC ss.reverse (mir ks) = saC ss ks := by
  rw [saC, saC, stks_rev, lst_mir, tkS_mir, mdS_mir, List.length_reverse]
  cases h1 : stks ss
  · rfl
  cases h2 : lst ks
  · rfl
  by_cases h3 : tkS ks = (ss.length : Int)
  · have ht : sumL (ks.map tk) = (ss.length : Int) := by rw [← h3, tkS, h2]; rfl
    rw [bad_mir (lst_parts h2).2 ht]
  · simp only [h3, if_false]
theorem saW_mir (ss ks : List Int) : saW ss.reverse (mir ks) = (saW ss ks).reverse := by
  rw [saW, saW, saC_mir]
  by_cases h : saC ss ks = 0
  · rw [if_pos h, if_pos h]
    have h0 : stks ss = true ∧ lst ks = true ∧ tkS ks = (ss.length : Int) := by
      unfold saC at h
      cases h1 : stks ss <;> cases h2 : lst ks <;> simp [h1, h2] at h ⊢
      by_cases h3 : tkS ks = (ss.length : Int)
      · exact h3
      · simp [h3] at h
    have ht : sumL (ks.map tk) = (ss.length : Int) := by rw [← h0.2.2, tkS, h0.2.1]; rfl
    exact aft_mir (lst_parts h0.2.1).2 ht
  · rw [if_neg h, if_neg h]; rfl
end Go.Proofs.YtbbnheiibkcgiabDoor.st
