/-
  Drawn permutations: contracts of l02Size, l02Draw and A2Permutations.
-/
import Derived.Test.YtaconeliiicloaaSrc1
import Derived.Test.YtaconeliiicloaaRvs
import Derived.Test.YtaconeliiicloaaH5
namespace Go.Proofs.Ytaconeliiicloaa.sr
open Go.RowKit Go.Proofs.Ytaconeliiicloaa.sl Go.Proofs.Ytaconeliiicloaa.pm Go.Proofs.Ytaconeliiicloaa.fn

theorem chg_far {g lo hi : Nat} {a b c : World} (h : Chg g (g + 1) a b) (k : Chg lo hi b c) (hlo : a.heap.size ≤ lo) : Chg g (g + 1) a c :=
  ⟨k.os.trans h.os, k.tape.trans h.tape, k.output.trans h.output, Nat.le_trans h.size k.size, fun j hj hj' => (k.block j (Nat.lt_of_lt_of_le hj h.size) (by omega)).trans (h.block j hj hj')⟩
theorem Src.chg {w w' : World} {g n m lo hi : Nat} {v : Value} (h : Src w g v n m) (c : Chg lo hi w w') (hg : g < lo) : Src w' g v n m := by
  obtain ⟨hg0, hby, h0, ⟨k, hk, h1⟩, ⟨s, hs, h2⟩, f1, f2⟩ := h
  have hb := c.block g hg0 (by omega)
  have hc : ∀ o, w'.cell? ⟨g, o, none⟩ = w.cell? ⟨g, o, none⟩ := fun o => World.cell?_of_block (w := w) (w' := w') (a := ⟨g, o, none⟩) hb
  have hf : ∀ o, w'.frozen? ⟨g, o, none⟩ = w.frozen? ⟨g, o, none⟩ := fun o => by unfold World.frozen?; simp only [hb]
  exact ⟨Nat.lt_of_lt_of_le hg0 c.size, hby.chg c (.inl (by omega)), (hc 0).trans h0, ⟨k, hk, (hc 1).trans h1⟩, ⟨s, hs, (hc 2).trans h2⟩, (hf 1).trans f1, (hf 2).trans f2⟩

/-! ### permutations in plain words -/
theorem permB_mk (xs : List Int) (h1 : xs.length ≤ 12) (h2 : Places xs.length xs) (h3 : ∀ i j, i < xs.length → j < xs.length → xs.getD i 0 = xs.getD j 0 → i = j) : permB xs = true := by
  simp only [permB, Bool.and_eq_true, decide_eq_true_eq, List.all_eq_true]
  refine ⟨⟨h1, fun x hx => ?_⟩, ?_⟩
  · obtain ⟨j, hj, he⟩ := mem_at hx
    obtain ⟨m, hm, hml⟩ := h2 j hj
    simp only [inR, decide_eq_true_eq]
    omega
  · rw [List.Nodup, List.pairwise_iff_getElem]
    intro i j hi hj hij he
    have := h3 i j hi hj (by simpa [List.getD, List.getElem?_eq_getElem hi, List.getElem?_eq_getElem hj] using he)
    omega
def exch (xs : List Int) (i k : Nat) : List Int := (xs.set i (xs.getD k 0)).set k (xs.getD i 0)
theorem exch_len (xs : List Int) (i k : Nat) : (exch xs i k).length = xs.length := by simp [exch]
theorem exch_at (xs : List Int) (i k t : Nat) (ht : t < xs.length) : (exch xs i k).getD t 0 = xs.getD (if t = k then i else if t = i then k else t) 0 := by
  rw [exch, getD_put _ _ _ _ (by simpa using ht), getD_put _ _ _ _ ht]
  by_cases h1 : t = k
  · rw [if_pos h1, if_pos h1]
  · rw [if_neg h1, if_neg h1]
    by_cases h2 : t = i
    · rw [if_pos h2, if_pos h2]
    · rw [if_neg h2, if_neg h2]
theorem exch_perm (xs : List Int) (i k : Nat) (hi : i < xs.length) (hk : k < xs.length) (h : permB xs = true) : permB (exch xs i k) = true := by
  have hs : ∀ t, t < xs.length → (if t = k then i else if t = i then k else t) < xs.length := fun t ht => by split <;> (try split) <;> omega
  refine permB_mk _ (by rw [exch_len]; exact perm_len h) ?_ ?_
  · rw [exch_len]
    intro t ht
    rw [exch_len] at ht
    rw [exch_at xs i k t ht]
    exact perm_places h _ (hs t ht)
  · intro a b ha hb he
    rw [exch_len] at ha hb
    rw [exch_at xs i k a ha, exch_at xs i k b hb] at he
    have := nodup_at (perm_nodup h) _ _ (hs a ha) (hs b hb) he
    revert this
    split <;> split <;> (try split) <;> (try split) <;> omega
theorem ids_perm (n : Nat) (h : n ≤ 12) : permB (ids n) = true := by
  have hat : ∀ j, j < n → (ids n).getD j 0 = (j : Int) := fun j hj => by simp [ids, List.getD, hj]
  refine permB_mk _ (by rw [ids_len]; exact h) ?_ ?_
  · rw [ids_len]
    intro j hj
    rw [ids_len] at hj
    exact ⟨j, hat j hj, hj⟩
  · intro i j hi hj he
    rw [ids_len] at hi hj
    rw [hat i hi, hat j hj] at he
    omega

theorem size (g n m : Nat) (v : Value) (w : World) (h : Src w g v n m) (hn : n ≤ 1048576) (hm : m ≤ 800000) :
    Calls Try.prog 55 #[.pointer (some ⟨g, 0, none⟩)] w fun e w' => ∃ r : Nat, r ≤ 12 ∧ e = .returned (.int .i64 (r : Int)) ∧ Src w' g v n (m + 4) ∧ Chg g (g + 1) w w' := by
  have HSr := hid h
  have hg := h.1
  clear h
  go_enter Try.func55, Try.ntmps55
  go_wp2_with fail
  refine (one g n m v 12 w HSr.out hn (by omega) (by omega)).mono ?_
  rintro e w1 ⟨⟨q, rfl⟩, s1, c1⟩
  have HS1 := hid s1
  have HC1 := hid c1
  have hz1 := c1.size
  clear s1 c1
  cases q
  · go_wp2_with fail
    refine (pick g n (m + 2) v 6 w1 HS1.out hn (by omega) (by omega)).mono ?_
    rintro e w2 ⟨r, hr, rfl, s2, c2⟩
    have HS2 := hid s2
    have HC2 := hid (HC1.out.trans c2)
    clear s2 c2
    have hr6 : r < 6 := by omega
    go_wp2
    go_ret
    exact ⟨r + 2, by omega, congrArg (fun z : Int => Ending.returned (.int .i64 z)) (by omega), HS2.out, HC2.out⟩
  · have b1 : Below w1.heap.size w1 (w1.alloc (.cells #[.int .i64 0, .int .i64 1, .int .i64 12, .int .i64 12] 2)) := (Below.refl _ _).alloc (Nat.le_refl _) _
    have HO : Hid (Own (w1.alloc (.cells #[.int .i64 0, .int .i64 1, .int .i64 12, .int .i64 12] 2)) w1.heap.size (w1.heap.size + 1) (.slice (some ⟨w1.heap.size, 0, none⟩) 4 4) [0, 1, 12, 12]) := hid (by
      refine ⟨⟨by simp, .inr ⟨w1.heap.size, 4, #[.int .i64 0, .int .i64 1, .int .i64 12, .int .i64 12], rfl, Nat.le_refl _, heap_alloc_new _ _, Nat.le_refl _, by unfold maxLen; omega, by simp, by simp⟩⟩, fun b hb => ?_, by simp⟩
      simp [Value.ownBlock] at hb
      omega)
    have HS2 := hid (HS1.out.chg (Chg.ofBelow (lo := w1.heap.size) b1) (by omega))
    have HC2 : Hid (Chg g (g + 1) w (w1.alloc (.cells #[.int .i64 0, .int .i64 1, .int .i64 12, .int .i64 12] 2))) := hid (chg_far HC1.out (Chg.ofBelow (lo := w1.heap.size) b1) hz1)
    clear b1
    go_wp2_with fail
    refine (among g n (m + 2) _ _ v _ [0, 1, 12, 12] _ HS2.out hn (by omega) HO.out (by omega) (by simp) (by simp)).mono ?_
    rintro e w2 ⟨⟨x, hx, rfl⟩, s2, c2⟩
    have HS3 := hid s2
    have HC3 := hid (HC2.out.trans c2)
    clear s2 c2
    obtain ⟨r, hr, rfl⟩ : ∃ r : Nat, r ≤ 12 ∧ x = (r : Int) := by
      simp at hx
      rcases hx with rfl | rfl | rfl
      · exact ⟨0, by omega, rfl⟩
      · exact ⟨1, by omega, rfl⟩
      · exact ⟨12, by omega, rfl⟩
    go_wp2
    go_ret
    exact ⟨r, hr, rfl, HS3.out, HC3.out⟩

set_option maxRecDepth 100000 in
set_option maxHeartbeats 800000 in
theorem draw (g n m N : Nat) (v : Value) (w : World) (h : Src w g v n m) (hn : n ≤ 1048576) (hm : m ≤ 700000) (hN : N ≤ 12) :
    Calls Try.prog 56 #[.pointer (some ⟨g, 0, none⟩), .int .i64 N] w fun e w' => ∃ (u : Value) (L : List Int), e = .returned u ∧ permB L = true ∧ L.length = N ∧ Own w' w.heap.size w'.heap.size u L ∧ Src w' g v n (m + 48) ∧ Chg g (g + 1) w w' := by
  have HSr := hid h
  have hg := h.1
  clear h
  by_cases hN0 : N = 0
  · subst hN0
    go_enter Try.func56, Try.ntmps56
    go_wp2_with fail
    refine (specIds 0 w (by omega)).mono ?_
    rintro e w1 ⟨v1, rfl, o1, b1⟩
    have HO1 := hid o1
    have HS1 := hid ((HSr.out.chg (Chg.ofBelow (lo := w.heap.size) b1) hg).more 48)
    have HC1 : Hid (Chg g (g + 1) w w1) := hid ⟨b1.os, b1.tape, b1.output, b1.size, fun k hk _ => b1.block k hk⟩
    clear o1 b1
    go_wp2
    refine wp_loop_rounds 1 ?_
    rw [rounds_succ]
    go_wp2
    go_ret
    exact ⟨_, [], rfl, by decide, rfl, HO1.out, HS1.out, HC1.out⟩
  · go_enter Try.func56, Try.ntmps56
    go_wp2_with fail
    refine (specIds N w (by omega)).mono ?_
    rintro e w1 ⟨v1, rfl, o1, b1⟩
    obtain ⟨b, cap, hv1, hb1, hb2⟩ := own_slice o1 (by rw [ids_len]; omega)
    rw [ids_len] at hv1
    subst hv1
    have HO1 := hid o1
    have HS1 := hid (HSr.out.chg (Chg.ofBelow (lo := w.heap.size) b1) hg)
    have HC1 : Hid (Chg g (g + 1) w w1) := hid ⟨b1.os, b1.tape, b1.output, b1.size, fun k hk _ => b1.block k hk⟩
    have hz1 := b1.size
    have hNI : (N : Int) - 1 = ((N - 1 : Nat) : Int) := by omega
    clear o1 b1 HSr
    go_wp2
    go_loopw [6] (fun iv wr => ∃ (j : Nat) (L : List Int), iv = .int .i64 (j : Int) ∧ j < N ∧ permB L = true ∧ L.length = N ∧ Own wr w.heap.size w1.heap.size (.slice (some ⟨b, 0, none⟩) N cap) L ∧ Src wr g v n (m + 4 * (N - 1 - j)) ∧ Chg g (g + 1) w wr)
      (fun iv _ => (intOf iv).toNat)
    case atStart => exact ⟨N - 1, ids N, by first | rfl | (congr 1), by omega, ids_perm N hN, ids_len N, HO1.out, by rw [show m + 4 * (N - 1 - (N - 1)) = m by omega]; exact HS1.out, HC1.out⟩
    case round =>
      obtain ⟨j, L, rfl, hj, hp, hl, ho, hs, hc⟩ := hrel
      have HP := hid hp
      have HO := hid ho
      have HS := hid hs
      have HC := hid hc
      have HL := hid hl
      have hwr := hc.size
      clear hp ho hs hc hl HO1 HS1 HC1 hNI
      by_cases hj0 : 0 < j
      · obtain ⟨j, rfl⟩ : ∃ j', j = j' + 1 := ⟨j - 1, by omega⟩
        have hjI : (0 : Int) < (j : Int) + 1 := by omega
        have hjd : decide ((0 : Int) < (j : Int) + 1) = true := decide_eq_true hjI
        go_wp2_with fail
        refine (one g n (m + 4 * (N - 1 - (j + 1))) v 3 wr HS.out hn (by omega) (by omega)).mono ?_
        rintro e w2 ⟨⟨q, rfl⟩, s2, c2⟩
        have HS2 := hid s2
        have HO2 := hid (HO.out.chg c2 (by omega))
        have HC2 := hid (HC.out.trans c2)
        clear s2 c2 HS HO HC
        cases q
        · have hj1 : (j : Int) + 1 + 1 ≤ 1000000 := by omega
          go_wp2_with fail
          refine (pick g n (m + 4 * (N - 1 - (j + 1)) + 2) v _ w2 HS2.out hn (by omega) (by omega)).mono ?_
          rintro e w3 ⟨r, hr, rfl, s3, c3⟩
          have hrj : r ≤ j + 1 := by omega
          have HS3 := hid s3
          have HO3 := hid (HO2.out.chg c3 (by omega))
          have HC3 := hid (HC2.out.trans c3)
          clear s3 c3 HS2 HO2 HC2 hr
          have hrN : (r : Int) < (N : Int) := by omega
          have hjN : (j : Int) + 1 < (N : Int) := by omega
          have q1 := (HO3.out.at' (j + 1) (by rw [HL.out]; exact hj)).1
          have q2 := (HO3.out.at' r (by rw [HL.out]; omega)).1
          have f1 := (HO3.out.at' (j + 1) (by rw [HL.out]; exact hj)).2
          have f2 := (HO3.out.at' r (by rw [HL.out]; omega)).2
          have HW := hid (rv.revWorld HO3.out (j + 1) r (L.getD r 0) (L.getD (j + 1) 0))
          have HE := hid (exch_perm L (j + 1) r (by rw [HL.out]; exact hj) (by rw [HL.out]; omega) HP.out)
          have HEl : Hid ((exch L (j + 1) r).length = N) := hid (by rw [exch_len]; exact HL.out)
          have HEe : Hid ((L.set (j + 1) (L.getD r 0)).set r (L.getD (j + 1) 0) = exch L (j + 1) r) := hid rfl
          rw [HEe.out] at HW
          generalize exch L (j + 1) r = L2 at *
          generalize L.getD r 0 = x at *
          generalize L.getD (j + 1) 0 = y at *
          clear HEe
          have HS4 := hid (HS3.out.chg HW.out.2 (by omega))
          have HC4 := hid (chg_far HC3.out HW.out.2 (Nat.le_refl _))
          by_cases hrj' : r = j + 1
          · have hx : x = y := by
              have := q1.symm.trans (hrj' ▸ q2)
              simpa using this.symm
            subst hrj'
            subst hx
            clear q2 f2
            go_wp2
            go_roundw
            case rel => exact ⟨j, L2, by go_num, by omega, HE.out, HEl.out, HW.out.1, by rw [show m + 4 * (N - 1 - j) = m + 4 * (N - 1 - (j + 1)) + 2 + 2 by omega]; exact HS4.out, HC4.out⟩
            case measure => simp [intOf]
          · have hne : ¬ j + 1 = r := fun e => hrj' e.symm
            go_wp2
            go_roundw
            case rel => exact ⟨j, L2, by go_num, by omega, HE.out, HEl.out, HW.out.1, by rw [show m + 4 * (N - 1 - j) = m + 4 * (N - 1 - (j + 1)) + 2 + 2 by omega]; exact HS4.out, HC4.out⟩
            case measure => simp [intOf]
        · go_wp2
          go_roundw
          case rel => exact ⟨j, L, by go_num, by omega, HP.out, HL.out, HO2.out, by rw [show m + 4 * (N - 1 - j) = m + 4 * (N - 1 - (j + 1)) + 2 + 2 by omega]; exact HS2.out.more 2, HC2.out⟩
          case measure => simp [intOf]
      · obtain rfl : j = 0 := by omega
        have hjd : decide ((0 : Int) < ((0 : Nat) : Int)) = false := by simp
        go_wp2
        go_ret
        refine ⟨_, L, rfl, HP.out, HL.out, HO.out.hi HO.out.2.2 (Nat.le_refl _), ?_, HC.out⟩
        have := HS.out.more (48 - 4 * (N - 1 - 0))
        rw [show m + 4 * (N - 1 - 0) + (48 - 4 * (N - 1 - 0)) = m + 48 by omega] at this
        exact this

theorem perms (n : Nat) (v : Value) (w : World) (h : Bytes w w.heap.size v n) (hn : n ≤ 1048576) :
    Calls Try.prog 12 #[v] w fun e w' => ∃ (u1 u2 : Value) (p q : List Int) (k : Nat), e = .returned (.tuple #[u1, u2]) ∧ permB p = true ∧ permB q = true ∧ p.length = q.length ∧ Own w' w.heap.size k u1 p ∧ Own w' k w'.heap.size u2 q ∧ Below w.heap.size w w' := by
  have HB := hid h
  clear h
  go_enter Try.func12, Try.ntmps12
  go_wp2_with fail
  refine (sfrom n v w HB.out).mono ?_
  rintro e w1 ⟨rfl, s1, b1, z1⟩
  have HS1 := hid s1
  have HB1 := hid b1
  clear s1 b1
  go_wp2_with fail
  refine (size w.heap.size n 0 v w1 HS1.out hn (by omega)).mono ?_
  rintro e w2 ⟨N, hN, rfl, s2, c2⟩
  have HS2 := hid s2
  have HB2 := hid (HB1.out.trans (c2.below (B := w.heap.size) (Nat.le_refl _) (by omega)))
  have z2 := c2.size
  clear s2 c2
  go_wp2_with fail
  refine (draw w.heap.size n 4 N v w2 HS2.out hn (by omega) hN).mono ?_
  rintro e w3 ⟨u1, p, rfl, hp, hpl, o3, s3, c3⟩
  have HP := hid hp
  have HO3 := hid o3
  have HS3 := hid s3
  have HB3 := hid (HB2.out.trans (c3.below (B := w.heap.size) (Nat.le_refl _) (by omega)))
  have z3 := c3.size
  clear s3 c3 o3 hp
  go_wp2_with fail
  refine (draw w.heap.size n 52 N v w3 HS3.out hn (by omega) hN).mono ?_
  rintro e w4 ⟨u2, q, rfl, hq, hql, o4, s4, c4⟩
  have HQ := hid hq
  have HO4 := hid o4
  have HO3b := hid (HO3.out.chg c4 (by omega))
  have HB4 := hid (HB3.out.trans (c4.below (B := w.heap.size) (Nat.le_refl _) (by omega)))
  clear s4 c4 o4 hq HO3
  go_wp2
  go_ret2
  exact ⟨u1, u2, p, q, w3.heap.size, rfl, HP.out, HQ.out, by omega, HO3b.out.lo (by omega), HO4.out, HB4.out⟩

end Go.Proofs.Ytaconeliiicloaa.sr
