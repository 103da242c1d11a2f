/-
  The walk of the law FnWords.
-/
import Derived.Test.YtnnbhgiaaelkiabWo1
namespace Go.Proofs.Ytnnbhgiaaelkiab.wwo
open Go.RowKit Go.Proofs.Ytnnbhgiaaelkiab.sl Go.Proofs.Ytnnbhgiaaelkiab.pm Go.Proofs.Ytnnbhgiaaelkiab.fn Go.Proofs.Ytnnbhgiaaelkiab.sr Go.Proofs.Ytnnbhgiaaelkiab.lt
set_option linter.unusedVariables false

theorem powC (N : Int) (ws r : List Int) (q : Bool) (v : Value) (B : Nat) (w : World) (ha : Ints w B v ws) (hB : B ≤ w.heap.size) (hn : ws.length ≤ 1000) (hq : wordOk N ws = q) (hr : powL N ws = r) :
    Calls Try.prog 24 #[.int .i64 N, v] w fun e w' => ∃ v', e = .returned (.tuple #[v', .bool q]) ∧ Own w' w.heap.size w'.heap.size v' r ∧ Below w.heap.size w w' := by
  subst hq
  subst hr
  exact implPow N ws v B w ha hB (by omega)
theorem powS (N : Int) (ws : List Int) (q : Bool) (v : Value) (B : Nat) (w : World) (ha : Ints w B v ws) (hB : B ≤ w.heap.size) (hn : ws.length ≤ 1000) (hq : wordOk N ws = q) :
    Calls Try.prog 25 #[.int .i64 N, v] w fun e w' => ∃ v', e = .returned (.tuple #[v', .bool q]) ∧ Below w.heap.size w w' := by
  subst hq
  exact (specPow N ws v B w ha hB (by omega)).mono fun _ _ ⟨v', h1, _, h3⟩ => ⟨v', h1, h3⟩
theorem compC (p q r : List Int) (v u : Value) (B C : Nat) (w : World) (ha : Ints w B v p) (hb : Ints w C u q) (hB : B ≤ w.heap.size) (hC : C ≤ w.heap.size) (hbo : bothB p q = true) (hr : compL p q = r) (hlp : p.length ≤ 12) (hlq : q.length ≤ 12) :
    Calls Try.prog 27 #[v, u] w fun e w' => ∃ v', e = .returned (.tuple #[v', .bool true]) ∧ Own w' w.heap.size w'.heap.size v' r ∧ Below w.heap.size w w' := by
  have h := implCompose p q v u B C w ha hb hB hC (by omega) (by omega)
  rw [cmpL, if_pos hbo, hbo, hr] at h
  exact h

set_option maxRecDepth 100000 in
set_option maxHeartbeats 4000000 in
theorem law (b0 b1 : Option Addr) (cap0 cap1 n m : Nat) (w : World) (hb : Bytes w w.heap.size (.slice b0 n cap0) n) (hc : Bytes w w.heap.size (.slice b1 m cap1) m) :
    Calls Try.prog 6 #[.slice b0 n cap0, .slice b1 m cap1] w fun e w' => e = .returned (.bool true) ∧ Below w.heap.size w w' := by
  have HBy := hid hb
  have HBz := hid hc
  clear hb hc
  obtain ⟨z, hz⟩ : ∃ z, decide ((3000 : Int) < (n : Int)) = z := ⟨_, rfl⟩
  obtain ⟨y, hy⟩ : ∃ y, decide ((3000 : Int) < (m : Int)) = y := ⟨_, rfl⟩
  by_cases hbig : (z || y) = true
  · go_enter Try.func6, Try.ntmps6
    go_wp2_with fail
    refine (long2 n cap0 m cap1 b0 b1 z y hz hy w).mono ?_
    rintro e w0 ⟨rfl, rfl⟩
    rw [hbig]
    go_wp2
    go_ret
    exact ⟨rfl, Below.refl _ _⟩
  · have hbf : (z || y) = false := by simpa using hbig
    have hzf : z = false := by cases z <;> simp_all
    have hn3 : n ≤ 3000 := by rw [hzf] at hz; simp at hz; omega
    go_enter Try.func6, Try.ntmps6
    go_wp2_with fail
    refine (long2 n cap0 m cap1 b0 b1 z y hz hy w).mono ?_
    rintro e w0 ⟨rfl, rfl⟩
    rw [hbf]
    clear hz hy hbig hbf hzf
    go_wp2_with fail
    refine (wordDraw n _ w0 HBy.out hn3).mono ?_
    rintro e W1 ⟨N, u, ws, rfl, hN1, hN2, hwl, o1, b1⟩
    obtain ⟨ua, uc, hu⟩ := own_val o1
    have hk1 := b1.size
    have Iu1 : Hid (Ints W1 W1.heap.size u ws) := hid o1.ints
    have HNil := hid (nilok_own o1)
    have C1 := hid b1
    have Z1 := hid (HBz.out.chg (Chg.ofBelow (lo := w0.heap.size) b1) (.inl (Nat.le_refl _)))
    clear o1 b1 HBy HBz
    obtain ⟨q, hq⟩ : ∃ q, wordOk N ws = q := ⟨_, rfl⟩
    have HQ := hid hq
    clear hq
    obtain ⟨l, hl⟩ : ∃ l, l = ws.length := ⟨_, rfl⟩
    rw [← hl] at hu hwl
    have HL := hid hl
    clear hl
    subst hu
    go_wp2_with fail
    refine (powC N ws (powL N ws) q _ _ W1 Iu1.out (Nat.le_refl _) (by rw [← HL.out]; omega) HQ.out rfl).mono ?_
    rintro e W2 ⟨v2, rfl, o2, b2⟩
    have hz2 := b2.size
    have Iu2 : Hid (Ints W2 W2.heap.size (.slice ua l uc) ws) := hid ((Iu1.out.chg (Chg.ofBelow (lo := 0) b2) (.inr (Nat.zero_le _))).mono hz2)
    have Ip2 : Hid (Ints W2 W2.heap.size v2 (powL N ws)) := hid o2.ints
    have C2 := hid (C1.out.trans (b2.mono hk1))
    have Z2 := hid (Z1.out.chg (Chg.ofBelow (lo := w0.heap.size) b2) (.inl (Nat.le_refl _)))
    clear Iu1 C1 Z1 o2 b2
    cases q
    · go_wp2_with fail
      refine (powS N ws false _ _ W2 Iu2.out (Nat.le_refl _) (by rw [← HL.out]; omega) HQ.out).mono ?_
      rintro e W3 ⟨v3, rfl, b3⟩
      have C3 := hid (C2.out.trans (b3.mono (by omega)))
      clear b3
      go_wp2
      go_ret
      exact ⟨rfl, C3.out⟩
    · have hNN : 0 ≤ N ∧ N ≤ 12 := by
        have := (word_parts HQ.out).1
        simpa [idOk] using this
      have hz02 : w0.heap.size ≤ W2.heap.size := by omega
      have hw1 : IntKind.i64.wrap (N - 1) = N - 1 := IntWalk.i64_in _ (by omega)
      go_wp2
      go_loopw [11, 12] (fun v i wr => ∃ (k : Nat) (L : List Int), i = .int .i64 (k : Int) ∧ k ≤ m ∧ k ≤ 40 ∧ L.length = k ∧ wordOk N L = true ∧ Own wr W2.heap.size wr.heap.size v L ∧ Below w0.heap.size w0 wr ∧ Below W2.heap.size W2 wr)
        (fun _ i _ => 40 - (intOf i).toNat)
      case atStart =>
        refine ⟨0, [], rfl, by omega, by omega, rfl, ?_, Own.built W2 _ rfl, C2.out.alloc (by omega) _, (Below.refl _ _).alloc (Nat.le_refl _) _⟩
        simp [wordOk, idOk, hNN]
      case round =>
        obtain ⟨k, L, rfl, hkm, hk40, hLk, hok, ho, hbl, hbl2⟩ := hrel
        have HO := hid ho
        have HB := hid hbl
        have HB2 := hid hbl2
        have HLk := hid hLk
        have HOk := hid hok
        have hsz := hbl2.size
        clear ho hbl hbl2 hLk hok
        by_cases hgo : k < m ∧ k < 40 ∧ 1 < N
        · obtain ⟨hg1, hg2, hg3⟩ := hgo
          have hg1' : (k : Int) < (m : Int) := by omega
          have hg2' : (k : Int) < 40 := by omega
          go_wp2_with fail
          refine (atQ _ _ m k (N - 1) wr (Z2.out.chg (Chg.ofBelow (lo := w0.heap.size) HB2.out) (.inl (Nat.le_refl _))) hg1 (by omega) (by omega)).mono ?_
          rintro e w4 ⟨⟨r, hr, rfl⟩, rfl⟩
          go_wp2_with (at_builtin; refine wp_append rfl _ _ rfl W2.heap.size w4.heap.size _ L (r : Int) HO.out rfl rfl hsz (by rw [HLk.out]; omega) ?_; intro v5 w5 hown5 hchg5 hsz5)
          have HO5 := hid hown5
          have HB5 := hid (HB.out.trans (hchg5.below (B := w0.heap.size) (by omega) (by omega)))
          have HB25 := hid (HB2.out.trans (hchg5.below (B := W2.heap.size) (by omega) (by omega)))
          clear hown5 hchg5 HO HB HB2
          go_wp2
          go_roundw
          case rel =>
            refine ⟨k + 1, L ++ [(r : Int)], by go_num, by omega, by omega, by rw [List.length_append, HLk.out]; rfl, ?_, HO5.out, HB5.out, HB25.out⟩
            refine word_app HOk.out ?_ (by rw [HLk.out]; simp; omega)
            simp [wordOk, idOk, stepOk, hNN]
            omega
          case measure => simp [intOf]; omega
        · have hcc : (decide (k < m) = false) ∨ (k < m ∧ decide ((k : Int) < 40) = false ∧ decide (k < 40) = false) ∨ (k < m ∧ k < 40 ∧ (k : Int) < 40 ∧ decide (1 < N) = false) := by
            by_cases h1 : k < m
            · by_cases h2 : k < 40
              · exact .inr (.inr ⟨h1, h2, by omega, by simp; omega⟩)
              · exact .inr (.inl ⟨h1, by simp; omega, by simp; omega⟩)
            · exact .inl (by simp; omega)
          clear hgo
          obtain ⟨va, vc, hv⟩ := own_val HO.out
          rw [HLk.out] at hv
          subst hv
          have Ib := hid HO.out.ints
          have HNilb := hid (nilok_own HO.out)
          clear HO
          rcases hcc with d1 | ⟨h1, d2, d3⟩ | ⟨h1, h2, h3, d4⟩
          all_goals
            go_wp2_with fail
            refine (powC N L (powL N L) true _ _ wr Ib.out (Nat.le_refl _) (by rw [HLk.out]; omega) HOk.out rfl).mono ?_
            rintro e W6 ⟨v6, rfl, o6, b6⟩
            have hz6 := b6.size
            have hbw := HB2.out.trans (b6.mono hsz)
            have hbz := hbw.size
            have Ib6 : Hid (Ints W6 W6.heap.size (.slice va k vc) L) := hid ((Ib.out.chg (Chg.ofBelow (lo := 0) b6) (.inr (Nat.zero_le _))).mono hz6)
            have Iq6 : Hid (Ints W6 W6.heap.size v6 (powL N L)) := hid o6.ints
            have Iu6 : Hid (Ints W6 W6.heap.size (.slice ua l uc) ws) := hid ((Iu2.out.chg (Chg.ofBelow (lo := 0) hbw) (.inr (Nat.zero_le _))).mono hbz)
            have Ip6 : Hid (Ints W6 W6.heap.size v2 (powL N ws)) := hid ((Ip2.out.chg (Chg.ofBelow (lo := 0) hbw) (.inr (Nat.zero_le _))).mono hbz)
            have C6 := hid (HB.out.trans (b6.mono (by omega)))
            have hz06 : w0.heap.size ≤ W6.heap.size := by omega
            clear Ib o6 b6 hbw HB HB2
            by_cases hlen : 200 < l + k
            · have hlI : (200 : Int) < (l : Int) + (k : Int) := by omega
              go_wp2
              go_ret
              exact ⟨rfl, C6.out⟩
            · have hlI : (l : Int) + (k : Int) ≤ 200 := by omega
              have hld : decide ((200 : Int) < (l : Int) + (k : Int)) = false := by simp; omega
              have hln : ¬ (200 : Int) < (l : Int) + (k : Int) := by omega
              have ba := (Below.refl W6.heap.size W6).alloc (Nat.le_refl _) (.cells #[] 2)
              have Iu6b := hid (Iu6.out.chg (Chg.ofBelow (lo := 0) ba) (.inr (Nat.zero_le _)))
              have Ib6b := hid (Ib6.out.chg (Chg.ofBelow (lo := 0) ba) (.inr (Nat.zero_le _)))
              have Ip6b := hid (Ip6.out.chg (Chg.ofBelow (lo := 0) ba) (.inr (Nat.zero_le _)))
              have Iq6b := hid (Iq6.out.chg (Chg.ofBelow (lo := 0) ba) (.inr (Nat.zero_le _)))
              have C6b := hid (C6.out.trans (ba.mono hz06))
              have HE := hid (Own.built W6 #[] rfl)
              have hl1 : ws.length + L.length ≤ 200 := by rw [← HL.out, HLk.out]; omega
              have HP := hid (pow_app HQ.out HOk.out hl1)
              have HWA := hid (word_app HQ.out HOk.out hl1)
              have HL1 := hid hl1
              clear ba hl1 hlen Iu6 Ib6 Ip6 Iq6 C6
              go_wp2_with (at_builtin; first
                | (refine wp_appendAll rfl _ _ rfl W6.heap.size _ _ [] HE.out rfl (.slice ua l uc) ws W6.heap.size Iu6b.out HNil.out rfl (by simp) (by simp; have := HL1.out; omega) ?_
                   intro v7 w7 hown7 hchg7
                   have HO7 := hid hown7
                   have Ib7 := hid (Ib6b.out.chg hchg7 (.inl (Nat.le_refl _)))
                   have Ip7 := hid (Ip6b.out.chg hchg7 (.inl (Nat.le_refl _)))
                   have Iq7 := hid (Iq6b.out.chg hchg7 (.inl (Nat.le_refl _)))
                   have C7 := hid (C6b.out.trans (hchg7.below (B := w0.heap.size) hz06 (by simp; omega)))
                   have hsz7 := hchg7.size
                   have hsz8 : W6.heap.size ≤ w7.heap.size := by simp at hsz7; omega
                   clear hown7 hchg7 hsz7)
                | (refine wp_appendAll rfl _ _ rfl W6.heap.size w7.heap.size _ ([] ++ ws) HO7.out rfl (.slice va k vc) L W6.heap.size Ib7.out HNilb.out rfl hsz8 (by simp; have := HL1.out; omega) ?_
                   intro v8 w8 hown8 hchg8
                   have Ia8 : Hid (Ints w8 w8.heap.size v8 (ws ++ L)) := hid (by have := hown8.ints; simpa using this)
                   have Ip8 := hid (Ip7.out.chg hchg8 (.inl (Nat.le_refl _)))
                   have Iq8 := hid (Iq7.out.chg hchg8 (.inl (Nat.le_refl _)))
                   have C8 := hid (C7.out.trans (hchg8.below (B := w0.heap.size) hz06 (by omega)))
                   have hsz9 := hchg8.size
                   clear hown8 hchg8))
              refine (powC N (ws ++ L) (powL N (ws ++ L)) true _ _ w8 Ia8.out (Nat.le_refl _) (by rw [List.length_append]; have := HL1.out; omega) HWA.out rfl).mono ?_
              rintro e W9 ⟨v9, rfl, o9, b9⟩
              have hz9 := b9.size
              have Ix9 : Hid (Ints W9 W9.heap.size v9 (powL N (ws ++ L))) := hid o9.ints
              have Ip9 := hid (Ip8.out.chg (Chg.ofBelow (lo := 0) b9) (.inr (Nat.zero_le _)))
              have Iq9 := hid (Iq8.out.chg (Chg.ofBelow (lo := 0) b9) (.inr (Nat.zero_le _)))
              have C9 := hid (C8.out.trans (b9.mono (by omega)))
              clear o9 b9 Ia8 Ip8 Iq8 C8
              go_wp2_with fail
              refine (compC (powL N ws) (powL N L) (powL N (ws ++ L)) _ _ _ _ W9 Ip9.out Iq9.out (by omega) (by omega) HP.out.1 HP.out.2 (powL_len _ _) (powL_len _ _)).mono ?_
              rintro e W10 ⟨v10, rfl, o10, b10⟩
              have hz10 := b10.size
              have Iy10 : Hid (Ints W10 W10.heap.size v10 (powL N (ws ++ L))) := hid o10.ints
              have Ix10 := hid (Ix9.out.chg (Chg.ofBelow (lo := 0) b10) (.inr (Nat.zero_le _)))
              have C10 := hid (C9.out.trans (b10.mono (by omega)))
              clear o10 b10 Ix9 Ip9 Iq9 C9
              go_wp2_with fail
              refine (sameQ (powL N (ws ++ L)) (powL N (ws ++ L)) true rfl rfl _ _ _ _ W10 Ix10.out Iy10.out (by have := powL_len N (ws ++ L); omega)).mono ?_
              rintro e W11 ⟨rfl, b11⟩
              have C11 := hid (C10.out.trans (b11.mono (by omega)))
              clear b11 C10
              go_wp2
              go_ret
              exact ⟨rfl, C11.out⟩

end Go.Proofs.Ytnnbhgiaaelkiab.wwo
