/-
  Words of a free group form a group: plain mathematics for FnFree.
-/
import Derived.Test.YtjnanldaihidlaaFc
import Derived.Test.YtjnanldaihidlaaFr6
import Derived.Test.YtjnanldaihidlaaRf
import Derived.Test.YtjnanldaihidlaaFt
namespace Go.Proofs.Ytjnanldaihidlaa.fm
open Go.RowKit Go.Proofs.Ytjnanldaihidlaa.sl Go.Proofs.Ytjnanldaihidlaa.pm Go.Proofs.Ytjnanldaihidlaa.bw Go.Proofs.Ytjnanldaihidlaa.fv Go.Proofs.Ytjnanldaihidlaa.fr
set_option linter.unusedVariables false

theorem getD_lt (l : List Int) (j : Nat) (h : j < l.length) : l.getD j 0 = l[j] := by simp [List.getD, List.getElem?_eq_getElem h]
theorem red_app (a b : List Int) : redL (a ++ b) = b.foldl bw.push (redL a) := by simp [redL, List.foldl_append]
theorem cancel (st : List Int) : (neg st).foldl bw.push st = [] := by
  refine snoc_ind (P := fun st => (neg st).foldl bw.push st = []) rfl (fun xs x ih => ?_) st
  have e : neg (xs ++ [x]) = -x :: neg xs := by simp [neg]
  rw [e, List.foldl_cons]
  have e2 : bw.push (xs ++ [x]) (-x) = xs := by simp [bw.push]
  rw [e2, ih]
theorem red_inv (a : List Int) : redL (a ++ invR a) = [] := by rw [red_app, invR, cancel]
theorem red_of {r : List Int} (h : Reduced r) : redL r = r := by
  have key : ∀ r, Reduced r → redL r = r := fun r => by
    refine snoc_ind (P := fun r => Reduced r → redL r = r) (fun _ => rfl) (fun xs x ih => fun h => ?_) r
    have h1 : Reduced xs := fun j hj => by
      have := h j (by simp; omega)
      rw [getD_lt _ j (by simp; omega), getD_lt _ (j + 1) (by simp; omega)] at this
      rw [getD_lt _ j (by omega), getD_lt _ (j + 1) (by omega)]
      rwa [List.getElem_append_left (by omega), List.getElem_append_left (by omega)] at this
    rw [redL_snoc, ih h1]
    by_cases h0 : xs = []
    · subst h0; rfl
    · obtain ⟨m, hm⟩ : ∃ m, xs.length = m + 1 := ⟨xs.length - 1, by have := List.length_pos_iff.2 h0; omega⟩
      refine push_app xs x m hm ?_
      have := h m (by simp; omega)
      rw [getD_lt _ m (by simp; omega), getD_lt _ (m + 1) (by simp; omega), List.getElem_append_left (by omega)] at this
      rw [getD_lt _ m (by omega)]
      have e : (xs ++ [x])[m + 1]'(by simp; omega) = x := by
        rw [List.getElem_append_right (by omega)]; simp [hm]
      rw [e] at this
      exact this
  exact key r h
theorem reduced_take {r : List Int} (h : Reduced r) (k : Nat) : Reduced (r.take k) := fun j hj => by
  rw [List.length_take] at hj
  have := h j (by omega)
  rw [getD_lt _ j (by omega), getD_lt _ (j + 1) (by omega)] at this
  rw [getD_lt _ j (by rw [List.length_take]; omega), getD_lt _ (j + 1) (by rw [List.length_take]; omega), List.getElem_take, List.getElem_take]
  exact this
/-- A reduced word is its core between what conjugates it and the inverse of that. -/
theorem core_whole {r : List Int} (hr : Reduced r) (hz : NoZero r) : coA r ++ coB r ++ neg (coA r) = r ∧ coA r ++ coB r = r.take (r.length - coreN r) ∧ r.length = 2 * (coA r).length + (coB r).length := by
  have hh := core_half hr hz
  have hc := core_canc r
  have e1 : coA r ++ coB r = r.take (r.length - coreN r) := by
    have : r.take (r.length - coreN r) = r.take (coreN r + (r.length - coreN r - coreN r)) := by congr 1; omega
    rw [this, List.take_add]; rfl
  have e2 : neg (coA r) = r.drop (r.length - coreN r) := by
    apply List.ext_getElem
    · rw [neg_len, coA_len, List.length_drop]; omega
    · intro i h1 h2
      rw [neg_len, coA_len] at h1
      rw [← getD_lt _ i (by rw [neg_len, coA_len]; exact h1), neg_at _ i (by rw [coA_len]; exact h1), coA_len, coA_at r _ (by omega), List.getElem_drop]
      have h3 := hc.all (coreN r - 1 - i) (by omega)
      rw [getD_lt _ _ (by omega), getD_lt _ _ (by omega)] at h3
      rw [getD_lt _ _ (by omega)]
      have e3 : r.length - 1 - (coreN r - 1 - i) = r.length - coreN r + i := by omega
      simp only [e3] at h3
      omega
  refine ⟨by rw [e1, e2, List.take_append_drop], e1, ?_⟩
  rw [coA_len, coB_len]; omega
theorem fr_of {n : Int} {xs ys : List Int} (h : frB n xs = true) (hl : ys.length ≤ 20000) (hs : ∀ y ∈ ys, y ∈ xs ∨ -y ∈ xs) : frB n ys = true := by
  have hp := fr_parts h
  rw [fr_all ⟨hp.1, hp.2.1⟩ hl]
  refine gall_good fun j hj => ?_
  have hm : ys.getD j 0 ∈ ys := by rw [getD_lt _ j hj]; exact List.getElem_mem hj
  rcases hs _ hm with hx | hx
  · obtain ⟨i, hi, he⟩ := List.getElem_of_mem hx
    have h1 := hp.2.2.2 i hi
    rwa [getD_lt _ i hi, he] at h1
  · obtain ⟨i, hi, he⟩ := List.getElem_of_mem hx
    have h1 := g_parts (hp.2.2.2 i hi)
    rw [getD_lt _ i hi, he] at h1
    exact g_of (by omega) (by omega) (by omega)
theorem mem_neg {xs : List Int} {y : Int} (h : y ∈ neg xs) : -y ∈ xs := by
  simp only [neg, List.mem_map, List.mem_reverse] at h
  obtain ⟨x, hx, rfl⟩ := h
  simpa using hx
theorem word_back {n : Int} {a : List Int} (h : frB n a = true) (hl : a.length ≤ 20000) : fr.rfOk n (ft.ftT n a) = true ∧ fr.rfW n (ft.ftT n a) = a ∧ (ft.ftT n a).size ≤ 20000 := by
  have hp := fr_parts h
  by_cases h0 : a = []
  · subst h0
    have e : ft.ftT n [] = fr.one := ft.ft_nil h rfl
    have h1 := fr.rf_good (n := n) (s := fr.one) (by decide) (by rw [fr.wF_one]; exact h)
    rw [e]
    exact ⟨h1.1, h1.2.trans fr.wF_one, by decide⟩
  · have e : ft.ftT n a = strOfNums (ft.bytS a) := ft.ft_ok h h0
    have hsz : (strOfNums (ft.bytS a)).size = a.length := by rw [strOfNums_size, ft.bytS_len]
    have hlen : 0 < a.length := List.length_pos_iff.2 h0
    have hw : fr.wordS (strOfNums (ft.bytS a)) = a := by
      apply List.ext_getElem
      · rw [fr.wordS_len, hsz]
      · intro i h1 h2
        have hg := g_parts (hp.2.2.2 i h2)
        rw [getD_lt _ i h2] at hg
        simp only [fr.wordS, strOfNums_data, ft.bytS, List.map_map, List.getElem_map, Function.comp]
        generalize a[i] = x at *
        by_cases hx : x < 0
        · rw [ft.byt_neg hx]
          have e1 : (UInt8.ofNat (64 - x).toNat).toNat = (64 - x).toNat := by
            rw [UInt8.toNat_ofNat']; omega
          rw [e1, fr.lt_big (by omega)]; omega
        · rw [ft.byt_pos hx]
          have e1 : (UInt8.ofNat (96 + x).toNat).toNat = (96 + x).toNat := by
            rw [UInt8.toNat_ofNat']; omega
          rw [e1, fr.lt_small (by omega)]; omega
    have hne : strOfNums (ft.bytS a) ≠ fr.one := fun he => by
      have h1 : fr.wordS fr.one = a := by rw [← he]; exact hw
      have h2 := hp.2.2.2 0 hlen
      rw [← h1] at h2
      have : (fr.wordS fr.one).getD 0 0 = 0 := by decide
      rw [this] at h2
      exact (g_parts h2).1 rfl
    have hF : fr.wF (strOfNums (ft.bytS a)) = a := by rw [fr.wF_no hne, hw]
    have h1 := fr.rf_good (n := n) (s := strOfNums (ft.bytS a)) (by rw [hsz]; omega) (by rw [hF]; exact h)
    rw [e]
    exact ⟨h1.1, h1.2.trans hF, by rw [hsz]; exact hl⟩

/-- All that the law says of two words, the first valid. -/
structure Facts (n : Int) (a b R y c m ic l p : List Int) (t : ByteArray) (code : Int) : Prop where
  va : frB n a = true
  vR : frB n R = true
  r1 : frW n a (redL a) = R
  r2 : frW n a (invR a) = y
  j1 : fjC n a y = 0 ∧ fjW n a y = []
  ca : fcA n a = c
  cb : fcB n a = m
  vc : frB n c = true
  r3 : frW n c (invR c) = ic
  j2 : fjC n c m = 0 ∧ fjW n c m = l
  j3 : fjC n l ic = 0 ∧ fjW n l ic = R
  len : R.length = 2 * c.length + m.length
  tx : ft.ftT n a = t
  ts : t.size ≤ 1048576
  rd : fr.rfOk n t = true ∧ fr.rfW n t = a
  j4 : fjC n a b = code ∧ fjW n a b = p
  j5 : fjC n R b = code ∧ fjW n R b = p
  lR : R.length ≤ 1000
  ly : y.length ≤ 1000
  lc : c.length ≤ 1000
  lm : m.length ≤ 1000
  li : ic.length ≤ 1000
  ll : l.length ≤ 1000
  lp : p.length ≤ 20000
theorem facts {n : Int} {a b : List Int} (h : frB n a = true) (hl : a.length ≤ 1000) : ∃ R y c m ic l p t code, Facts n a b R y c m ic l p t code := by
  have hR := red_reduced a
  have hZ := red_nz h
  have hRl := redL_len a
  have hsR : ∀ y ∈ redL a, y ∈ a ∨ -y ∈ a := fun y hy => .inl (red_sub a y hy)
  have vR : frB n (redL a) = true := fr_of h (by omega) hsR
  obtain ⟨w1, w2, w3⟩ := core_whole hR hZ
  have hcl : (coA (redL a)).length ≤ 1000 := by omega
  have hml : (coB (redL a)).length ≤ 1000 := by omega
  have sA : ∀ y ∈ coA (redL a), y ∈ a := fun y hy => red_sub a y (List.mem_of_mem_take hy)
  have sB : ∀ y ∈ coB (redL a), y ∈ a := fun y hy => red_sub a y (List.mem_of_mem_drop (List.mem_of_mem_take hy))
  have vc : frB n (coA (redL a)) = true := fr_of h (by omega) fun y hy => .inl (sA y hy)
  have vm : frB n (coB (redL a)) = true := fr_of h (by omega) fun y hy => .inl (sB y hy)
  have vl : frB n (coA (redL a) ++ coB (redL a)) = true := fr_of h (by simp; omega) fun y hy => by
    rcases List.mem_append.1 hy with hy | hy
    · exact .inl (sA y hy)
    · exact .inl (sB y hy)
  have rc : redL (coA (redL a)) = coA (redL a) := red_of (reduced_take hR _)
  have ec : invR (coA (redL a)) = neg (coA (redL a)) := by rw [invR, rc]
  have vi : frB n (neg (coA (redL a))) = true := fr_of h (by rw [neg_len]; omega) fun y hy => .inr (sA _ (mem_neg hy))
  have vy : frB n (neg (redL a)) = true := fr_of h (by rw [neg_len]; omega) fun y hy => .inr (red_sub a _ (mem_neg hy))
  have el : redL (coA (redL a) ++ coB (redL a)) = coA (redL a) ++ coB (redL a) := by rw [w2]; exact red_of (reduced_take hR _)
  have ew : redL ((coA (redL a) ++ coB (redL a)) ++ neg (coA (redL a))) = redL a := by rw [w1]; exact red_of hR
  obtain ⟨b1, b2, b3⟩ := word_back h (by omega)
  have e4 : redL (a ++ b) = redL (redL a ++ b) := by rw [red_app, red_app (redL a), red_of hR]
  have ej : fjC n a b = fjC n (redL a) b := by unfold fjC; rw [h, vR, e4]
  refine ⟨redL a, neg (redL a), coA (redL a), coB (redL a), neg (coA (redL a)), coA (redL a) ++ coB (redL a), fjW n a b, ft.ftT n a, fjC n a b, h, vR, frW_yes h, frW_yes h, ?_, (fc_yes h).1, (fc_yes h).2, vc, ?_, ?_, ?_, w3, rfl, by omega, ⟨b1, b2⟩, ⟨rfl, rfl⟩, ⟨ej.symm, ?_⟩, by omega, by rw [neg_len]; omega, hcl, hml, by rw [neg_len]; omega, by simp; omega, fj_len n a b⟩
  · have e := red_inv a
    rw [invR] at e
    have h1 := fj_ok h vy (by rw [e]; simp)
    rw [e] at h1; exact h1
  · rw [frW_yes vc, ec]
  · have h1 := fj_ok vc vm (by rw [el]; simp; omega)
    rw [el] at h1; exact h1
  · have h1 := fj_ok vl vi (by rw [ew]; omega)
    rw [ew] at h1; exact h1
  · unfold fjW; rw [← ej, e4]
end Go.Proofs.Ytjnanldaihidlaa.fm
