/-
  ActionPermutation: both sides.
-/
import Derived.Test.YtkpilmcaeemfmaaAi
import Derived.Test.YtkpilmcaeemfmaaSrc2
namespace Go.Proofs.Ytkpilmcaeemfmaa.ao
open Go.RowKit Go.Proofs.Ytkpilmcaeemfmaa.sl Go.Proofs.Ytkpilmcaeemfmaa.pm Go.Proofs.Ytkpilmcaeemfmaa.bw Go.Proofs.Ytkpilmcaeemfmaa.br Go.Proofs.Ytkpilmcaeemfmaa.fn Go.Proofs.Ytkpilmcaeemfmaa.fv Go.Proofs.Ytkpilmcaeemfmaa.fr Go.Proofs.Ytkpilmcaeemfmaa.ss Go.Proofs.Ytkpilmcaeemfmaa.ai
set_option linter.unusedVariables false

structure SmallR (rows : List (List Int)) : Prop where
  len : rows.length ≤ 1048576
  short : Short rows 1099511627776
theorem small_of {left : Int} {rows : List (List Int)} (h0 : 0 ≤ left) (h1 : left ≤ 1048576) (h : 0 ≤ szR left rows) : SmallR rows := by
  obtain ⟨_, h2, h3⟩ := szR_bound h0 h
  exact ⟨by omega, fun j hj => by have := h3 j hj; omega⟩

theorem getD_lt (l : List Int) (j : Nat) (h : j < l.length) : l.getD j 0 = l[j] := by simp [List.getD, List.getElem?_eq_getElem h]
/-- What is left of a word between what conjugates it. -/
def cor (r : List Int) : List Int := coB (redL r)
/-- The generators of which the rows are conjugates, as places. -/
def pl (rows : List (List Int)) : List Int := rows.map fun r => (cor r).getD 0 0 - 1
theorem pl_len (rows : List (List Int)) : (pl rows).length = rows.length := by simp [pl]
theorem pl_at (rows : List (List Int)) (k : Nat) (h : k < rows.length) : (pl rows).getD k 0 = (cor (rows.getD k [])).getD 0 0 - 1 := by
  simp [pl, List.getD, h]
theorem pl_take (rows : List (List Int)) (k : Nat) (h : k < rows.length) : (pl rows).take (k + 1) = (pl rows).take k ++ [(cor (rows.getD k [])).getD 0 0 - 1] := by
  rw [List.take_succ_eq_append_getElem (by rw [pl_len]; exact h), ← pl_at rows k h]
  simp [List.getD, pl_len, h]
def oneB (rows : List (List Int)) : Bool := rows.all fun r => decide ((cor r).length = 1)
def apB (rows : List (List Int)) : Bool := imB rows && (oneB rows && permB (pl rows))
def apL (rows : List (List Int)) : List Int := if apB rows = true then pl rows else []
theorem ap_no {rows : List (List Int)} (h : apB rows = false) : apL rows = [] := by rw [apL, h]; rfl
theorem ap_yes {rows : List (List Int)} (h : apB rows = true) : apL rows = pl rows := by rw [apL, if_pos h]
theorem ap_len (rows : List (List Int)) : (apL rows).length ≤ 12 := by
  unfold apL
  split
  · rename_i h
    simp only [apB, Bool.and_eq_true] at h
    exact perm_len h.2.2
  · simp
theorem ap_im {rows : List (List Int)} (h : imB rows = false) : apB rows = false := by rw [apB, h]; rfl
theorem ap_one {rows : List (List Int)} (k : Nat) (hk : k < rows.length) (h : ¬ (cor (rows.getD k [])).length = 1) : apB rows = false := by
  have h1 : oneB rows = false := by
    rw [oneB, List.all_eq_false]
    refine ⟨rows.getD k [], ?_, by simpa using h⟩
    rw [show rows.getD k [] = rows[k] from by simp [List.getD, List.getElem?_eq_getElem hk]]
    exact List.getElem_mem hk
  rw [apB, h1]; simp
theorem one_good {rows : List (List Int)} (h : ∀ k, k < rows.length → (cor (rows.getD k [])).length = 1) : oneB rows = true := by
  rw [oneB, List.all_eq_true]
  intro r hr
  obtain ⟨j, hj, rfl⟩ := List.getElem_of_mem hr
  have := h j hj
  rw [show rows.getD j [] = rows[j] from by simp [List.getD, List.getElem?_eq_getElem hj]] at this
  simpa using this
theorem ap_perm {rows : List (List Int)} (h1 : imB rows = true) (h2 : oneB rows = true) : apB rows = permB (pl rows) := by rw [apB, h1, h2]; rfl
theorem cor_sub (r : List Int) : ∀ x ∈ cor r, x ∈ r := fun x hx => red_sub r x (by
  unfold cor coB at hx
  exact List.mem_of_mem_drop (List.mem_of_mem_take hx))
theorem cor_range {rows : List (List Int)} (h : imB rows = true) (k : Nat) (hk : k < rows.length) (h1 : (cor (rows.getD k [])).length = 1) :
    (cor (rows.getD k [])).getD 0 0 ≠ 0 ∧ -(rows.length : Int) ≤ (cor (rows.getD k [])).getD 0 0 ∧ (cor (rows.getD k [])).getD 0 0 ≤ (rows.length : Int) := by
  have hm : (cor (rows.getD k [])).getD 0 0 ∈ rows.getD k [] := cor_sub _ _ (by
    rw [getD_lt _ 0 (by omega)]
    exact List.getElem_mem _)
  obtain ⟨j, hj, he⟩ := List.getElem_of_mem hm
  have hg := (fr_parts (im_at h k hk)).2.2.2 j hj
  rw [getD_lt _ j hj, he] at hg
  exact g_parts hg
theorem ap_low {rows : List (List Int)} (k : Nat) (hk : k < rows.length) (h : (cor (rows.getD k [])).getD 0 0 < 1) : apB rows = false := by
  have h1 : permB (pl rows) = false := by
    cases hp : permB (pl rows)
    · rfl
    · simp only [permB, Bool.and_eq_true, List.all_eq_true] at hp
      have hx := hp.1.2 ((pl rows).getD k 0) (by
        rw [show (pl rows).getD k 0 = (pl rows)[k]'(by rw [pl_len]; exact hk) from by simp [List.getD, pl_len, hk]]
        exact List.getElem_mem _)
      rw [pl_at rows k hk] at hx
      simp only [inR, decide_eq_true_eq] at hx
      omega
  rw [apB, h1]; simp
theorem ap_dup {rows : List (List Int)} (k : Nat) (hk : k < rows.length) (h : hasB ((pl rows).take k) ((cor (rows.getD k [])).getD 0 0 - 1) = true) : apB rows = false := by
  have h1 : permB (pl rows) = false := by
    cases hp : permB (pl rows)
    · rfl
    · simp only [permB, Bool.and_eq_true, decide_eq_true_eq] at hp
      have hn := hp.2.sublist (List.take_sublist (k + 1) (pl rows))
      rw [pl_take rows k hk, List.nodup_append] at hn
      simp only [hasB, List.contains_eq_mem, decide_eq_true_eq] at h
      exact absurd rfl (hn.2.2 _ h _ (by simp))
  rw [apB, h1]; simp
theorem ap_good {rows : List (List Int)} (h : imB rows = true) (h1 : ∀ k, k < rows.length → (cor (rows.getD k [])).length = 1 ∧ 1 ≤ (cor (rows.getD k [])).getD 0 0 ∧ hasB ((pl rows).take k) ((cor (rows.getD k [])).getD 0 0 - 1) = false) : apB rows = true := by
  rw [ap_perm h (one_good fun k hk => (h1 k hk).1)]
  refine sr.permB_mk (pl rows) (by rw [pl_len]; exact im_small h) (fun j hj => ?_) (fun i j hi hj he => ?_)
  · rw [pl_len] at hj ⊢
    have h2 := h1 j hj
    have h3 := cor_range h j hj h2.1
    rw [pl_at rows j hj]
    exact ⟨((cor (rows.getD j [])).getD 0 0 - 1).toNat, by omega, by omega⟩
  · rw [pl_len] at hi hj
    have key : ∀ i j, i < j → j < rows.length → (pl rows).getD i 0 = (pl rows).getD j 0 → False := fun i j hij hj he => by
      have h2 := (h1 j hj).2.2
      rw [← pl_at rows j hj, ← he] at h2
      have h3 := has_yes ((pl rows).take j) ((pl rows).getD i 0) i (by rw [List.length_take, pl_len]; omega) (by simp [List.getD, hij])
      rw [h2] at h3; cases h3
    rcases Nat.lt_trichotomy i j with h | h | h
    · exact (key i j h hj he).elim
    · exact h
    · exact (key j i h hi he.symm).elim

theorem ap_im_of {rows : List (List Int)} (h : imB rows = true) (k : Nat) (hk : k < rows.length) : fcB (rows.length : Int) (rows.getD k []) = cor (rows.getD k []) := (fc_yes (im_at h k hk)).2

set_option maxRecDepth 20000 in
set_option maxHeartbeats 1600000 in
theorem implAP (rows : List (List Int)) (v : Value) (B : Nat) (w : World) (ha : RowsC w B v rows) (hB : B ≤ w.heap.size) (hq : SmallR rows) :
    Calls Try.prog 83 #[v] w fun e w' => ∃ v', e = .returned (.tuple #[v', .bool (apB rows)]) ∧ sl.Own w' w.heap.size w'.heap.size v' (apL rows) ∧ Below w.heap.size w w' := by
  have HV := hid (implImages rows v B w ha.rows hB hq.len hq.short)
  obtain ⟨ao, cap, hv⟩ := rows_val ha.rows
  cases him : imB rows
  · rw [him] at HV
    have HA := hid (ap_im him)
    have HL := hid (ap_no HA.out)
    rw [HA.out, HL.out]
    subst hv
    clear ha hq him
    generalize rows.length = n at *
    go_enter Try.func83, Try.ntmps83
    go_wp2_with fail
    refine HV.out.mono ?_
    rintro e w1 ⟨rfl, b1⟩
    have HB := hid b1
    have hz := b1.size
    clear b1
    go_wp2
    go_ret2
    exact ⟨_, rfl, (sl.Own.nil w1 w.heap.size), HB.out⟩
  · rw [him] at HV
    have hn := hq.len
    have h12 := im_small him
    have HS := hid hq.short
    have HIm := hid (fun k hk => im_at him k hk)
    have HFc := hid (fun k hk => ap_im_of him k hk)
    have HOne := hid (fun k => @ap_one rows k)
    have HRg := hid (fun k hk h1 => cor_range him k hk h1)
    have HPt := hid (fun k hk => pl_take rows k hk)
    have HPl := hid (pl_len rows)
    have HFin : Hid ((∀ k, k < rows.length → (cor (rows.getD k [])).length = 1) → apB rows = permB (pl rows)) := hid (fun h => ap_perm him (one_good h))
    have HAn := hid (@ap_no rows)
    have HAy := hid (@ap_yes rows)
    have HRw := hid ha
    obtain ⟨n, hnn⟩ : ∃ n, n = rows.length := ⟨_, rfl⟩
    rw [← hnn] at hv hn h12 HIm HFc HOne HRg HPt HPl HFin
    have HN := hid hnn
    obtain ⟨i0, hi, hz0, hz1, hz2⟩ := info_parts info64
    subst hv
    clear ha hq him hnn
    go_enter Try.func83, Try.ntmps83
    go_wp2_with fail
    refine HV.out.mono ?_
    rintro e w1 ⟨rfl, b1⟩
    have HB1 := hid b1
    have hz := b1.size
    clear b1 HV
    go_wp2_with (at_make; refine wpList_make_own _ rfl _ _ 29 rfl w1.heap.size 2 i0 (.int .i64 0) 1 Try.underlying29 hi hz0 hz1 .i64 .i64 _ n rfl rfl (by omega) (by rw [hz2]; omega) (by unfold maxLen; omega) (Nat.le_refl _) ?_; intro w2 hown2 hgrow2)
    have HO2 : Hid (sl.Own w2 w.heap.size w2.heap.size (.slice (some ⟨w1.heap.size, 0, none⟩) 0 n) ((pl rows).take 0)) := hid ((sl.Own.mk' (xs := []) (by simpa using hown2)).lo hz)
    have HB2 := hid (HB1.out.grown hgrow2 (by omega) (fun k hk => by cases hk))
    have hz3 := hgrow2.size
    clear hown2 hgrow2
    go_loopw [4, 18] (fun u i wr => ∃ k : Nat, k ≤ n ∧ i = .int .i64 k ∧ sl.Own wr w.heap.size wr.heap.size u ((pl rows).take k) ∧ Below w.heap.size w wr ∧ ∀ j, j < k → (cor (rows.getD j [])).length = 1)
      (fun _ i _ => n - (intOf i).toNat)
    case atStart => exact ⟨0, Nat.zero_le _, rfl, HO2.out, HB2.out, fun j hj => by omega⟩
    case round =>
      obtain ⟨k, hk, rfl, hown, hbel, hone⟩ := hrel
      have HO := hid hown
      have HB := hid hbel
      have HOn := hid hone
      have hsz := hbel.size
      obtain ⟨ao2, cp2, hv2⟩ := br.own_val hown
      have hl2 : ((pl rows).take k).length = k := by rw [List.length_take, HPl.out]; omega
      rw [hl2] at hv2
      subst hv2
      clear hown hbel hone hl2
      by_cases hlt : k < n
      · have hx : ∃ b off x, ao = some ⟨b, off, none⟩ ∧ wr.cell? ⟨b, off + k, none⟩ = some x ∧ Ints wr B x (rows.getD k []) ∧ CapOk x := by
          rcases HRw.out with ⟨h, _⟩ | ⟨_, b, off, c, V, he, hb, hc⟩
          · have := HN.out; rw [h] at this; simp at this; omega
          · simp only [Value.slice.injEq] at he
            have h1 := hc k (by rw [← HN.out]; exact hlt)
            exact ⟨b, off, V k, he.1, (HB.out.cell (p := ⟨b, off + k, none⟩) (by show b < _; omega)).trans h1.1, h1.2.1.chg (Chg.ofBelow (lo := 0) HB.out) (.inr (Nat.zero_le _)), h1.2.2⟩
        obtain ⟨b, off, x, rfl, hx1, hx2, hx3⟩ := hx
        have HC := hid (implFreeCore (n : Int) (rows.getD k []) x B wr hx2 (by omega) (HS.out k (by rw [← HN.out]; exact hlt)) hx3)
        have HF := hid (HIm.out k hlt)
        rw [HF.out, HFc.out k hlt] at HC
        clear hx2 hx3 HF
        go_wp2_with fail
        refine HC.out.mono ?_
        rintro e w4 ⟨vA, vB, m, rfl, hm, oA, oB, b4⟩
        have HOB := hid oB
        have hz4 := b4.size
        have HO4 := hid ((HO.out.chg (Chg.ofBelow (lo := 0) b4) (.inr (.inr (Nat.zero_le _)))).hi (hi' := w4.heap.size) hz4 (Nat.le_refl _))
        have HB4 := hid (HB.out.trans (b4.mono hsz))
        obtain ⟨aoA, cpA, hvA⟩ := br.own_val oA
        obtain ⟨aoB, cpB, hvB⟩ := br.own_val oB
        clear oA b4 HC HO HB
        by_cases h1 : (cor (rows.getD k [])).length = 1
        · rw [h1] at hvB
          have hg : ∃ g, aoB = some ⟨g, 0, none⟩ := by
            rcases oB.1.2 with ⟨h, h2⟩ | ⟨g, c, cur, h, _⟩
            · omega
            · rw [hvB] at h; simp only [Value.slice.injEq] at h; exact ⟨g, h.1⟩
          obtain ⟨g, rfl⟩ := hg
          subst hvB
          have hc0 := (oB.at' 0 (by omega)).1
          have hr := HRg.out k hlt h1
          have HP := hid (HPt.out k hlt : (pl rows).take (k + 1) = _)
          have HL1 := hid h1
          clear oB h1
          generalize (coA (redL (rows.getD k []))) = cA at *
          generalize hcc : (cor (rows.getD k [])).getD 0 0 = c at *
          have HCc := hid hcc
          clear hcc
          subst hvA
          have hlk : ((pl rows).take k).length ≤ 1099511627776 := by rw [List.length_take, HPl.out]; omega
          go_wp2_with (at_builtin; refine wp_append rfl _ _ rfl w.heap.size w4.heap.size _ ((pl rows).take k) (c - 1) HO4.out rfl rfl (by omega) hlk ?_; intro v5 w5 hown5 hchg5 hsz5)
          have HO5 := hid hown5
          have HB5 := hid (HB4.out.trans (hchg5.below (Nat.le_refl _) (by omega)))
          clear hown5 hchg5
          go_wp2
          go_roundw
          case rel => exact ⟨k + 1, by omega, by go_num, by rw [HP.out]; exact HO5.out, HB5.out, fun j hj => by
            rcases Nat.lt_or_ge j k with h | h
            · exact HOn.out j h
            · obtain rfl : j = k := by omega
              exact HL1.out⟩
          case measure => simp [intOf]; omega
        · have HA := hid (HOne.out k hlt h1)
          have HL := hid (HAn.out HA.out)
          clear oB
          generalize (cor (rows.getD k [])).length = l at *
          have hd : ((l : Int) == 1) = false := by simp; omega
          have hd2 : ((l : Int) != 1) = true := by simp; omega
          clear h1
          generalize (coA (redL (rows.getD k []))).length = lA at *
          subst hvA hvB
          go_wp2
          go_ret2
          exact ⟨_, by rw [HA.out]; rfl, by rw [HL.out]; exact sl.Own.nil w4 w.heap.size, HB4.out⟩
      · obtain rfl : k = n := by omega
        have HFi := hid (HFin.out HOn.out)
        have HO' : Hid (sl.Own wr w.heap.size wr.heap.size (.slice ao2 k cp2) (pl rows)) := hid (by have := HO.out; rwa [List.take_of_length_le (by rw [HPl.out]; omega)] at this)
        have HPm := hid (implOk (pl rows) _ wr.heap.size wr HO'.out.ints (Nat.le_refl _) (by rw [HPl.out]; omega))
        clear HO
        cases hp : permB (pl rows)
        · rw [hp] at HPm HFi
          have HL := hid (HAn.out HFi.out)
          clear hp
          go_wp2_with fail
          refine HPm.out.mono ?_
          rintro e w5 ⟨rfl, b5⟩
          have HB5 := hid (HB.out.trans (b5.mono hsz))
          clear b5
          go_wp2
          go_ret2
          exact ⟨_, by rw [HFi.out]; rfl, by rw [HL.out]; exact sl.Own.nil w5 w.heap.size, HB5.out⟩
        · rw [hp] at HPm HFi
          have HL := hid (HAy.out HFi.out)
          clear hp
          go_wp2_with fail
          refine HPm.out.mono ?_
          rintro e w5 ⟨rfl, b5⟩
          have HB5 := hid (HB.out.trans (b5.mono hsz))
          have HO5 := hid ((HO'.out.chg (Chg.ofBelow (lo := 0) b5) (.inr (.inr (Nat.zero_le _)))).hi (hi' := w5.heap.size) b5.size (Nat.le_refl _))
          clear b5
          go_wp2
          go_ret2
          exact ⟨_, by rw [HFi.out]; rfl, by rw [HL.out]; exact HO5.out, HB5.out⟩

theorem row_small {n : Int} {xs : List Int} (h : frB n xs = true) : Small xs := fun j hj => by
  have h1 := fr_parts h
  have h2 := g_parts (h1.2.2.2 j hj)
  omega
theorem red_small' {n : Int} {xs : List Int} (h : frB n xs = true) : Small (redL xs) := fun j hj => by
  have hm := red_sub xs _ (show (redL xs)[j] ∈ redL xs from List.getElem_mem hj)
  obtain ⟨i, hi, he⟩ := List.getElem_of_mem hm
  have h1 := row_small h i hi
  rw [getD_lt xs i hi, he] at h1
  rw [getD_lt _ j hj]; exact h1


set_option maxRecDepth 20000 in
set_option maxHeartbeats 1600000 in
theorem specPlaces (rows : List (List Int)) (v : Value) (B : Nat) (w : World) (ha : ss.Rows w B v rows) (hB : B ≤ w.heap.size) (hq : SmallR rows) (him : imB rows = true) :
    Calls Try.prog 82 #[v] w fun e w' => ∃ v', e = .returned (.tuple #[v', .bool (apB rows)]) ∧ sl.Own w' w.heap.size w'.heap.size v' (apL rows) ∧ Below w.heap.size w w' := by
  obtain ⟨ao, cap, hv⟩ := rows_val ha
  have hn := hq.len
  have h12 := im_small him
  have HS := hid hq.short
  have HIm := hid (fun k hk => im_at him k hk)
  have HOne := hid (fun k => @ap_one rows k)
  have HLow := hid (fun k => @ap_low rows k)
  have HDup := hid (fun k => @ap_dup rows k)
  have HGood := hid (@ap_good rows him)
  have HRg := hid (fun k hk h1 => cor_range him k hk h1)
  have HPt := hid (fun k hk => pl_take rows k hk)
  have HPl := hid (pl_len rows)
  have HAn := hid (@ap_no rows)
  have HAy := hid (@ap_yes rows)
  have HRw := hid ha
  obtain ⟨n, hnn⟩ : ∃ n, n = rows.length := ⟨_, rfl⟩
  rw [← hnn] at hv hn h12 HIm HOne HLow HDup HGood HRg HPt HPl
  have HN := hid hnn
  subst hv
  clear ha hq him hnn
  go_enter Try.func82, Try.ntmps82
  go_wp2
  go_loopw [4, 5] (fun u i wr => ∃ k : Nat, k ≤ n ∧ i = .int .i64 k ∧ sl.Own wr w.heap.size wr.heap.size u ((pl rows).take k) ∧ Below w.heap.size w wr ∧ ∀ j, j < k → (cor (rows.getD j [])).length = 1 ∧ 1 ≤ (cor (rows.getD j [])).getD 0 0 ∧ hasB ((pl rows).take j) ((cor (rows.getD j [])).getD 0 0 - 1) = false)
    (fun _ i _ => n - (intOf i).toNat)
  case atStart => exact ⟨0, Nat.zero_le _, rfl, by rw [List.take_zero]; exact sl.Own.built w _ rfl, (Below.refl _ _).alloc (Nat.le_refl _) _, fun j hj => by omega⟩
  case round =>
    obtain ⟨k, hk, rfl, hown, hbel, hone⟩ := hrel
    have HO := hid hown
    have HB := hid hbel
    have HOn := hid hone
    have hsz := hbel.size
    obtain ⟨ao2, cp2, hv2⟩ := br.own_val hown
    have hl2 : ((pl rows).take k).length = k := by rw [List.length_take, HPl.out]; omega
    rw [hl2] at hv2
    subst hv2
    clear hown hbel hone
    by_cases hlt : k < n
    · have hx : ∃ b off x, ao = some ⟨b, off, none⟩ ∧ wr.cell? ⟨b, off + k, none⟩ = some x ∧ Ints wr B x (rows.getD k []) := by
        rcases HRw.out with ⟨h, _⟩ | ⟨_, b, off, c, V, he, hb, hc⟩
        · have := HN.out; rw [h] at this; simp at this; omega
        · simp only [Value.slice.injEq] at he
          have h1 := hc k (by rw [← HN.out]; exact hlt)
          exact ⟨b, off, V k, he.1, (HB.out.cell (p := ⟨b, off + k, none⟩) (by show b < _; omega)).trans h1.1, h1.2.chg (Chg.ofBelow (lo := 0) HB.out) (.inr (Nat.zero_le _))⟩
      obtain ⟨b, off, x, rfl, hx1, hx2⟩ := hx
      have hf := HIm.out k hlt
      have HR := hid (specRedL (rows.getD k []) x B wr hx2 (by omega) (by have := (fr_parts hf).2.2.1; omega) (row_small hf))
      have HCo : Hid (∀ (W : World) (u : Value) (lo : Nat), sl.Own W lo W.heap.size u (redL (rows.getD k [])) → _) := hid (fun W u lo ho => specCore (redL (rows.getD k [])) u lo W ho (red_reduced _) (red_nz hf) (by have := redL_len (rows.getD k []); have := (fr_parts hf).2.2.1; omega) (red_small' hf))
      clear hx2 hf
      go_wp2_with fail
      refine HR.out.mono ?_
      rintro e w3 ⟨v3, rfl, o3, b3⟩
      have HO3 := hid o3
      have HOw3 := hid (HO.out.chg (Chg.ofBelow (lo := 0) b3) (.inr (.inr (Nat.zero_le _))))
      have HB3 := hid (HB.out.trans (b3.mono hsz))
      have hz3 := b3.size
      clear o3 b3 HR HO HB
      go_wp2_with fail
      refine (HCo.out w3 v3 _ HO3.out).mono ?_
      rintro e w4 ⟨vA, vB, m, rfl, hm, oA, oB, b4⟩
      have hz4 := b4.size
      have HO4 := hid ((HOw3.out.chg (Chg.ofBelow (lo := 0) b4) (.inr (.inr (Nat.zero_le _)))).hi (hi' := w4.heap.size) (by omega) (Nat.le_refl _))
      have HB4 := hid (HB3.out.trans (b4.mono (by omega)))
      obtain ⟨aoA, cpA, hvA⟩ := br.own_val oA
      obtain ⟨aoB, cpB, hvB⟩ := br.own_val oB
      have HOB : Hid (sl.Own w4 m w4.heap.size vB (cor (rows.getD k []))) := hid oB
      replace hvB : vB = .slice aoB (cor (rows.getD k [])).length cpB := hvB
      clear oA oB b4 HOw3 HO3 HB3 HCo
      generalize (coA (redL (rows.getD k []))).length = lA at *
      subst hvA
      by_cases h1 : (cor (rows.getD k [])).length = 1
      · have hg : ∃ g, aoB = some ⟨g, 0, none⟩ := by
          rcases HOB.out.1.2 with ⟨h, h2⟩ | ⟨g, c, cur, h, _⟩
          · omega
          · rw [hvB] at h; simp only [Value.slice.injEq] at h; exact ⟨g, h.1⟩
        obtain ⟨g, rfl⟩ := hg
        rw [h1] at hvB
        subst hvB
        have hc0 := (HOB.out.at' 0 (by omega)).1
        have hr := HRg.out k hlt h1
        have HP := hid (HPt.out k hlt)
        have HL1 := hid h1
        have HLw := hid (HLow.out k hlt)
        have HDp := hid (HDup.out k hlt)
        have HHs := hid (fun q hq W (i : Ints W w4.heap.size (.slice ao2 k cp2) ((pl rows).take k)) => hasQ ((pl rows).take k) ((cor (rows.getD k [])).getD 0 0 - 1) q hq (.slice ao2 k cp2) w4.heap.size W i (by rw [hl2]; omega))
        clear h1
        generalize hcc : (cor (rows.getD k [])).getD 0 0 = c at *
        have HCc := hid hcc
        clear hcc
        by_cases hlow : c < 1
        · have HA := hid (HLw.out hlow)
          have HL := hid (HAn.out HA.out)
          clear hl2
          go_wp2
          go_ret2
          exact ⟨_, by rw [HA.out]; rfl, by rw [HL.out]; exact sl.Own.nil w4 w.heap.size, HB4.out⟩
        · have hlow2 : decide (c < 1) = false := decide_eq_false hlow
          obtain ⟨q, hq⟩ : ∃ q, q = hasB ((pl rows).take k) (c - 1) := ⟨_, rfl⟩
          have HQ := hid (HHs.out q hq.symm w4 HO4.out.ints)
          have HQe := hid hq
          clear hq HHs
          cases q
          · have hlk : ((pl rows).take k).length ≤ 1099511627776 := by rw [hl2]; omega
            clear hl2
            go_wp2_with (first
              | (go_at_call 155; refine HQ.out.mono ?_; rintro e w' ⟨rfl, rfl⟩)
              | (at_builtin; refine wp_append rfl _ _ rfl w.heap.size w'.heap.size _ ((pl rows).take k) (c - 1) HO4.out rfl rfl (by omega) hlk ?_; intro v5 w5 hown5 hchg5 hsz5; have HO5 := hid hown5; have HB5 := hid (HB4.out.trans (hchg5.below (Nat.le_refl _) (by omega))); clear hown5 hchg5))
            go_roundw
            case rel => exact ⟨k + 1, by omega, by go_num, by rw [HP.out]; exact HO5.out, HB5.out, fun j hj => by
              rcases Nat.lt_or_ge j k with h | h
              · exact HOn.out j h
              · obtain rfl : j = k := by omega
                rw [HCc.out]; exact ⟨HL1.out, by omega, HQe.out.symm⟩⟩
            case measure => simp [intOf]; omega
          · have HA := hid (HDp.out HQe.out.symm)
            have HL := hid (HAn.out HA.out)
            clear hl2
            go_wp2_with (go_at_call 155; refine HQ.out.mono ?_; rintro e w' ⟨rfl, rfl⟩)
            go_ret2
            exact ⟨_, by rw [HA.out]; rfl, by rw [HL.out]; exact sl.Own.nil _ w.heap.size, HB4.out⟩
      · have HA := hid (HOne.out k hlt h1)
        have HL := hid (HAn.out HA.out)
        clear hl2 HOB
        generalize (cor (rows.getD k [])).length = l at *
        have hd : ((l : Int) == 1) = false := by simp; omega
        have hd2 : ((l : Int) != 1) = true := by simp; omega
        clear h1
        subst hvB
        go_wp2
        go_ret2
        exact ⟨_, by rw [HA.out]; rfl, by rw [HL.out]; exact sl.Own.nil w4 w.heap.size, HB4.out⟩
    · obtain rfl : k = n := by omega
      have HA := hid (HGood.out HOn.out)
      have HL := hid (HAy.out HA.out)
      have HO' : Hid (sl.Own wr w.heap.size wr.heap.size (.slice ao2 k cp2) (pl rows)) := hid (by have := HO.out; rwa [List.take_of_length_le (by rw [HPl.out]; omega)] at this)
      clear HO hl2
      go_wp2
      go_ret2
      exact ⟨_, by rw [HA.out]; rfl, by rw [HL.out]; exact HO'.out, HB.out⟩

end Go.Proofs.Ytkpilmcaeemfmaa.ao
