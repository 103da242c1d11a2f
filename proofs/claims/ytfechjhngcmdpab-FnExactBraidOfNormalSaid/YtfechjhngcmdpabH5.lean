/-
  Left-weighted pairs: contracts of LeftWeighted, of the program and of its model.
-/
import Derived.Test.YtfechjhngcmdpabH3
import Derived.Test.YtfechjhngcmdpabWd
import Derived.BigQuiet
namespace Go.Proofs.Ytfechjhngcmdpab.fn
open Go.RowKit Go.Proofs.Ytfechjhngcmdpab.sl Go.Proofs.Ytfechjhngcmdpab.pm

/-! ### inverses of permutations, in plain words -/
theorem perm_nodup {p : List Int} (h : permB p = true) : p.Nodup := by
  simp only [permB, Bool.and_eq_true, decide_eq_true_eq] at h
  exact h.2
theorem mem_at {p : List Int} {x : Int} (h : x ∈ p) : ∃ j, j < p.length ∧ p.getD j 0 = x := by
  obtain ⟨j, hj, he⟩ := List.mem_iff_getElem.1 h
  exact ⟨j, hj, by simpa [List.getD, List.getElem?_eq_getElem hj] using he⟩
theorem perm_surj {p : List Int} (h : permB p = true) (a : Nat) (ha : a < p.length) : ∃ j, j < p.length ∧ p.getD j 0 = (a : Int) := by
  by_cases hm : (a : Int) ∈ p
  · exact mem_at hm
  · exfalso
    have hsub : p ⊆ (ids p.length).erase (a : Int) := by
      intro x hx
      obtain ⟨j, hj, he⟩ := mem_at hx
      obtain ⟨m, hm1, hm2⟩ := perm_places h j hj
      have hxm : x = (m : Int) := by rw [← he, hm1]
      have hne : x ≠ (a : Int) := by rintro rfl; exact hm hx
      rw [List.mem_erase_of_ne hne, hxm]
      simp only [ids, List.mem_map, List.mem_range]
      exact ⟨m, hm2, rfl⟩
    have h1 := (perm_nodup h).length_le_of_subset hsub
    have h2 : (a : Int) ∈ ids p.length := by simp only [ids, List.mem_map, List.mem_range]; exact ⟨a, ha, rfl⟩
    rw [List.length_erase_of_mem h2, ids_len] at h1
    omega
theorem nodup_at {p : List Int} (h : p.Nodup) (i j : Nat) (hi : i < p.length) (hj : j < p.length) (he : p.getD i 0 = p.getD j 0) : i = j := by
  simp only [List.getD, List.getElem?_eq_getElem hi, List.getElem?_eq_getElem hj, Option.getD_some] at he
  rw [List.Nodup, List.pairwise_iff_getElem] at h
  rcases Nat.lt_trichotomy i j with h1 | h1 | h1
  · exact absurd he (h i j hi hj h1)
  · exact h1
  · exact absurd he.symm (h j i hj hi h1)
theorem getD_put (xs : List Int) (i j : Nat) (x : Int) (h : j < xs.length) : (xs.set i x).getD j 0 = if j = i then x else xs.getD j 0 := by
  by_cases e : j = i
  · subst e; simp [List.getD, h]
  · rw [if_neg e]; simp [List.getD, show ¬ i = j from fun h => e h.symm]
theorem inv_at {p : List Int} (h : permB p = true) (i m : Nat) (hi : i < p.length) (hm : p.getD i 0 = (m : Int)) : (invL p).getD m 0 = (i : Int) := by
  have hml : m < p.length := by
    obtain ⟨m', h1, h2⟩ := perm_places h i hi
    rw [hm] at h1
    omega
  have key : ∀ k, k ≤ p.length → i < k → (invTo p k).getD m 0 = (i : Int) := by
    intro k
    induction k with
    | zero => intro _ h; omega
    | succ k ih =>
      intro hk hik
      obtain ⟨m', h1, h2⟩ := perm_places h k (by omega)
      rw [invTo_succ p k m' h1, getD_put _ _ _ _ (by rw [invTo_len]; exact hml)]
      by_cases e : m = m'
      · have : i = k := nodup_at (perm_nodup h) i k hi (by omega) (by rw [hm, h1, e])
        subst this
        rw [if_pos e]
      · rw [if_neg e]
        have : i ≠ k := by rintro rfl; rw [hm] at h1; omega
        exact ih (by omega) (by omega)
  exact key p.length (Nat.le_refl _) hi
theorem inv_ne {p : List Int} (h : permB p = true) (a b : Nat) (ha : a < p.length) (hb : b < p.length) (hab : a ≠ b) : (invL p).getD a 0 ≠ (invL p).getD b 0 := by
  obtain ⟨i, hi, hia⟩ := perm_surj h a ha
  obtain ⟨j, hj, hjb⟩ := perm_surj h b hb
  rw [inv_at h i a hi hia, inv_at h j b hj hjb]
  intro e
  have : i = j := by omega
  subst this
  rw [hia] at hjb
  omega

/-! ### both tests in plain words -/
def badK (p q : List Int) (k : Nat) : Bool := decide (q.getD (k + 1) 0 < q.getD k 0) && decide ((invL p).getD k 0 < (invL p).getD (k + 1) 0)
def lwTo (p q : List Int) (k : Nat) : Prop := ∀ j, j < k → badK p q j = false
def lwB (p q : List Int) : Bool := (List.range (q.length - 1)).all fun k => !badK p q k
theorem lwB_yes {p q : List Int} (h : lwTo p q (q.length - 1)) : lwB p q = true := by
  simp only [lwB, List.all_eq_true, List.mem_range, Bool.not_eq_true']
  exact h
theorem lwB_no {p q : List Int} (k : Nat) (hk : k + 1 < q.length) (h : badK p q k = true) : lwB p q = false := by
  rw [lwB, List.all_eq_false]
  exact ⟨k, by simp; omega, by simp [h]⟩
def exL (p q : List Int) : Int := ((startL q).find? fun x => !(startL (invL p)).contains x).getD 0
theorem ex_lw {p q : List Int} (h : bothB p q = true) : decide (exL p q = 0) = lwB p q := by
  obtain ⟨hp, hq, hl⟩ := both_parts h
  cases hf : (startL q).find? fun x => !(startL (invL p)).contains x with
  | none =>
    have e : exL p q = 0 := by rw [exL, hf]; rfl
    rw [List.find?_eq_none] at hf
    have : lwB p q = true := by
      refine lwB_yes fun j hj => ?_
      cases hb : badK p q j
      · rfl
      · exfalso
        simp only [badK, Bool.and_eq_true, decide_eq_true_eq] at hb
        have h1 := hf ((j : Int) + 1) ((startL_mem q _).2 ⟨j, by omega, hb.1, rfl⟩)
        simp only [Bool.not_eq_true', Bool.not_eq_false, List.contains_eq_mem, decide_eq_true_eq] at h1
        obtain ⟨i, hi, hd, he⟩ := (startL_mem _ _).1 h1
        have : i = j := by omega
        subst this
        omega
    rw [this, e]; rfl
  | some x =>
    have e : exL p q = x := by rw [exL, hf]; rfl
    have hm := List.mem_of_find?_eq_some hf
    have hx := List.find?_some hf
    obtain ⟨j, hj, hd, rfl⟩ := (startL_mem q _).1 hm
    have hlw : lwB p q = false := by
      refine lwB_no j hj ?_
      simp only [badK, Bool.and_eq_true, decide_eq_true_eq]
      refine ⟨hd, ?_⟩
      have hne := inv_ne hp j (j + 1) (by omega) (by omega) (by omega)
      by_cases hlt : (invL p).getD (j + 1) 0 < (invL p).getD j 0
      · exfalso
        have : ((j : Int) + 1) ∈ startL (invL p) := (startL_mem _ _).2 ⟨j, by rw [invL_len]; omega, hlt, rfl⟩
        simp [List.contains_eq_mem, this] at hx
      · omega
    rw [hlw, e]
    simp; omega

def leftB (p q : List Int) : Bool := bothB p q && lwB p q

/-! ### the program -/
set_option maxRecDepth 20000 in
set_option maxHeartbeats 400000 in
theorem implIsLeft (p q : List Int) (v u : Value) (B C : Nat) (w : World) (ha : Ints w B v p) (hb : Ints w C u q) (hB : B ≤ w.heap.size) (hC : C ≤ w.heap.size) (hn : p.length ≤ 1099511627776) (hm : q.length ≤ 1099511627776) (hp : Places p.length p) (hl : p.length = q.length) :
    Calls Try.prog 80 #[v, u] w fun e w' => e = .returned (.bool (lwB p q)) ∧ Below w.heap.size w w' := by
  have HA := hid ha
  have HP := hid hp
  clear ha hp
  rcases hb with ⟨rfl, ao, cap, rfl⟩ | ⟨hq, b, off, cap, rfl, hb', hc⟩
  · go_enter Try.func80, Try.ntmps80
    go_wp2_with fail
    refine (implInv p v _ w HA.out hB hn HP.out).mono ?_
    rintro e w1 ⟨v1, rfl, o1, b1⟩
    have B1 := hid b1
    clear o1 b1
    go_wp2
    refine wp_loop_rounds 1 ?_
    rw [rounds_succ]
    go_wp2
    go_ret
    exact ⟨rfl, B1.out⟩
  · have HC : Hid (∀ j, j < q.length → w.cell? ⟨b, off + j, none⟩ = some (.int .i64 (q.getD j 0))) := hid hc
    obtain ⟨n, hnn⟩ : ∃ n, n = q.length := ⟨_, rfl⟩
    have hil : (invL p).length = n := by rw [invL_len, hl, hnn]
    have HIL := hid hil
    rw [← hnn] at hq hm ⊢
    have HN := hid hnn
    clear hc hnn hil hl
    go_enter Try.func80, Try.ntmps80
    go_wp2_with fail
    refine (implInv p v _ w HA.out hB hn HP.out).mono ?_
    rintro e w1 ⟨v1, rfl, o1, b1⟩
    obtain ⟨g1, c1, rfl, hg1, hg1'⟩ := own_slice o1 (by rw [HIL.out]; exact hq)
    rw [HIL.out] at o1 ⊢
    have O1 := hid o1
    have B1 := hid b1
    have hz1 := b1.size
    clear o1 b1
    go_wp2
    go_loopw [6] (fun i wr => ∃ k : Nat, k ≤ n - 1 ∧ i = .int .i64 ((k : Int) + 1) ∧ lwTo p q k ∧ Own wr w.heap.size w1.heap.size (.slice (some ⟨g1, 0, none⟩) n c1) (invL p) ∧ Below w.heap.size w wr)
      (fun i _ => n - (intOf i).toNat)
    case atStart => exact ⟨0, Nat.zero_le _, rfl, fun j hj => by omega, O1.out, B1.out⟩
    case round =>
      obtain ⟨k, hk, rfl, hto, hown, hbel⟩ := hrel
      have HT := hid hto
      have HO := hid hown
      have HB := hid hbel
      clear hto hown hbel O1 B1
      by_cases hlt : k + 1 < n
      · have hlt' : (k : Int) + 1 < (n : Int) := by omega
        obtain ⟨x, hx⟩ : ∃ x, x = q.getD k 0 := ⟨_, rfl⟩
        obtain ⟨y, hy⟩ : ∃ y, y = q.getD (k + 1) 0 := ⟨_, rfl⟩
        obtain ⟨x', hx'⟩ : ∃ x, x = (invL p).getD k 0 := ⟨_, rfl⟩
        obtain ⟨y', hy'⟩ : ∃ y, y = (invL p).getD (k + 1) 0 := ⟨_, rfl⟩
        have h1 : wr.cell? ⟨b, off + k, none⟩ = some (.int .i64 x) := by rw [hx]; exact (HB.out.cell (p := ⟨b, off + k, none⟩) (by show b < _; omega)).trans (HC.out k (by rw [← HN.out]; omega))
        have h2 : wr.cell? ⟨b, off + (k + 1), none⟩ = some (.int .i64 y) := by rw [hy]; exact (HB.out.cell (p := ⟨b, off + (k + 1), none⟩) (by show b < _; omega)).trans (HC.out (k + 1) (by rw [← HN.out]; omega))
        have h3 : wr.cell? ⟨g1, k, none⟩ = some (.int .i64 x') := by rw [hx']; exact (HO.out.at' k (by rw [HIL.out]; omega)).1
        have h4 : wr.cell? ⟨g1, k + 1, none⟩ = some (.int .i64 y') := by rw [hy']; exact (HO.out.at' (k + 1) (by rw [HIL.out]; omega)).1
        have HK : Hid (badK p q k = (decide (y < x) && decide (x' < y'))) := hid (by rw [badK, ← hx, ← hy, ← hx', ← hy'])
        clear hx hy hx' hy'
        have next : ∀ (h : badK p q k = false), lwTo p q (k + 1) := fun h j hj => by
          rcases Nat.lt_or_ge j k with h1 | h1
          · exact HT.out j h1
          · obtain rfl : j = k := by omega
            exact h
        have HNx := hid next
        clear next
        by_cases hd : y < x
        · have hd1 : decide (y < x) = true := by simpa using hd
          by_cases he : x' < y'
          · have he1 : decide (x' < y') = true := by simpa using he
            have HF : Hid (lwB p q = false) := hid (lwB_no k (by rw [← HN.out]; exact hlt) (by rw [HK.out, hd1, he1]; rfl))
            clear HK HNx
            go_wp2
            go_quiet (fail)
            go_wp2
            go_ret
            exact ⟨by rw [HF.out]; rfl, bdrewN HB.out _⟩
          · have he1 : decide (x' < y') = false := by simpa using he
            have HF := hid (HNx.out (by rw [HK.out, hd1, he1]; rfl))
            clear HK HNx
            go_wp2
            go_quiet (fail)
            go_wp2
            go_roundw
            case rel => exact ⟨k + 1, by omega, by go_num, HF.out, HO.out.drewN _, bdrewN HB.out _⟩
            case measure => simp [intOf]; omega
        · have hd1 : decide (y < x) = false := by simpa using hd
          have HF := hid (HNx.out (by rw [HK.out, hd1]; rfl))
          clear HK HNx
          go_wp2
          go_quiet (fail)
          go_wp2
          go_roundw
          case rel => exact ⟨k + 1, by omega, by go_num, HF.out, HO.out.drewN _, bdrewN HB.out _⟩
          case measure => simp [intOf]; omega
      · have hk' : k = n - 1 := by omega
        have hge : ¬ (k : Int) + 1 < (n : Int) := by omega
        have HE : Hid (lwB p q = true) := hid (lwB_yes (by rw [← HN.out, ← hk']; exact HT.out))
        go_wp2
        go_ret
        exact ⟨by rw [HE.out]; rfl, HB.out⟩

/-! ### the model -/
theorem find_step (l : List Int) (f : Int → Bool) (k : Nat) (hk : k < l.length) (h : ∀ j, j < k → f (l.getD j 0) = false) (hf : f (l.getD k 0) = true) : l.find? f = some (l.getD k 0) := by
  have e : l = l.take k ++ l.getD k 0 :: l.drop (k + 1) := by
    have h1 : l.getD k 0 = l[k] := by simp [List.getD, List.getElem?_eq_getElem hk]
    rw [h1, ← List.drop_eq_getElem_cons hk, List.take_append_drop]
  have hno : (l.take k).find? f = none := by
    rw [List.find?_eq_none]
    intro x hx
    obtain ⟨j, hj, he⟩ := List.mem_iff_getElem.1 hx
    have hj' : j < k ∧ j < l.length := by simp at hj; omega
    have := h j hj'.1
    rw [List.getElem_take] at he
    rw [show l.getD j 0 = x by simp [List.getD, List.getElem?_eq_getElem hj'.2, he]] at this
    simp [this]
  generalize l.getD k 0 = y at *
  rw [e, List.find?_append, hno]
  simp [hf]
theorem find_all (l : List Int) (f : Int → Bool) (h : ∀ j, j < l.length → f (l.getD j 0) = false) : l.find? f = none := by
  rw [List.find?_eq_none]
  intro x hx
  obtain ⟨j, hj, he⟩ := mem_at hx
  rw [← he, h j hj]; simp

set_option maxHeartbeats 400000 in
theorem specExtra (p q : List Int) (v u : Value) (B C : Nat) (w : World) (ha : Ints w B v p) (hb : Ints w C u q) (hB : B ≤ w.heap.size) (hC : C ≤ w.heap.size) (hn : p.length ≤ 1099511627776) (hm : q.length ≤ 1099511627776) (hp : Places p.length p) :
    Calls Try.prog 72 #[v, u] w fun e w' => e = .returned (.int .i64 (exL p q)) ∧ Below w.heap.size w w' := by
  have HA := hid ha
  have HQ := hid hb
  have HP := hid hp
  clear ha hb hp
  obtain ⟨es, hes⟩ : ∃ es, es = startL (invL p) := ⟨_, rfl⟩
  obtain ⟨qs, hqs⟩ : ∃ qs, qs = startL q := ⟨_, rfl⟩
  have hel : es.length ≤ 1099511627776 := by rw [hes]; have := startL_len (invL p); rw [invL_len] at this; omega
  have hql : qs.length ≤ 1099511627776 := by rw [hqs]; have := startL_len q; omega
  have HES := hid hes
  have HQS := hid hqs
  have HX : Hid (exL p q = (qs.find? fun x => !hasB es x).getD 0) := hid (by rw [hes, hqs]; rfl)
  clear hes hqs
  go_enter Try.func72, Try.ntmps72
  go_wp2_with fail
  refine (specFinish p v _ w HA.out hB hn HP.out).mono ?_
  rintro e w1 ⟨v1, rfl, o1, b1⟩
  rw [← HES.out] at o1
  have O1 := hid o1
  have B1 := hid b1
  have HQ1 := hid (HQ.out.chg (Chg.ofBelow (lo := 0) b1) (.inr (Nat.zero_le _)))
  have z1 := b1.size
  clear o1 b1
  go_wp2_with fail
  refine (specStart q u _ w1 HQ1.out (by omega) hm).mono ?_
  rintro e w2 ⟨v2, rfl, o2, b2⟩
  rw [← HQS.out] at o2
  have O2 := hid o2
  have O1b := hid (O1.out.chg (Chg.ofBelow (lo := 0) b2) (.inr (.inr (Nat.zero_le _))))
  have B2 := hid (B1.out.trans (b2.mono z1))
  clear o2 b2 O1 B1 HQ1
  obtain ⟨ao2, c2, hv2⟩ := own_val O2.out
  obtain ⟨n, hnn⟩ : ∃ n, n = qs.length := ⟨_, rfl⟩
  rw [← hnn] at hv2 hql
  have HN := hid hnn
  clear hnn
  subst hv2
  go_wp2
  go_loop [7] (fun i => ∃ k : Nat, k ≤ n ∧ i = .int .i64 k ∧ ∀ j, j < k → (!hasB es (qs.getD j 0)) = false) (fun i => n - (intOf i).toNat)
  case atStart => exact ⟨0, Nat.zero_le _, rfl, fun j hj => by omega⟩
  case round =>
    obtain ⟨k, hk, rfl, hg⟩ := hrel
    have HG := hid hg
    clear hg
    by_cases hlt : k < n
    · obtain ⟨g, c, hsl, hg1, hg2⟩ := own_slice O2.out (by rw [← HN.out]; omega)
      simp only [Value.slice.injEq] at hsl
      obtain ⟨rfl, -, rfl⟩ := hsl
      have h1 := (O2.out.at' k (by rw [← HN.out]; exact hlt)).1
      obtain ⟨x, hx⟩ : ∃ x, x = qs.getD k 0 := ⟨_, rfl⟩
      rw [← hx] at h1
      have HXx := hid hx
      clear hx
      have HH := hid (fun b hb => hasQ es x b hb v1 _ w2 O1b.out.ints hel)
      cases hc : hasB es x with
      | true =>
        have HC := hid (HH.out true hc)
        have HL : Hid ((!hasB es (qs.getD k 0)) = false) := hid (by rw [← HXx.out, hc]; rfl)
        clear HH hc
        go_wp2_with fail
        refine HC.out.mono ?_
        rintro e w3 ⟨rfl, rfl⟩
        go_wp2
        go_round
        case rel => exact ⟨k + 1, by omega, by go_num, fun j hj => by
          rcases Nat.lt_or_ge j k with h | h
          · exact HG.out j h
          · obtain rfl : j = k := by omega
            exact HL.out⟩
        case measure => simp [intOf]; omega
      | false =>
        have HC := hid (HH.out false hc)
        have HL : Hid (exL p q = x) := hid (by rw [HX.out, find_step qs _ k (by rw [← HN.out]; exact hlt) HG.out (by rw [← HXx.out, hc]; rfl), ← HXx.out]; rfl)
        clear HH hc
        go_wp2_with fail
        refine HC.out.mono ?_
        rintro e w3 ⟨rfl, rfl⟩
        go_wp2
        go_ret
        exact ⟨by rw [HL.out]; rfl, B2.out⟩
    · obtain rfl : k = n := by omega
      have HL : Hid (exL p q = 0) := hid (by rw [HX.out, find_all qs _ (fun j hj => HG.out j (by rw [HN.out]; exact hj))]; rfl)
      go_wp2
      go_ret
      exact ⟨by rw [HL.out]; rfl, B2.out⟩

end Go.Proofs.Ytfechjhngcmdpab.fn
