/-
  Contracts of BraidPermutation, of the program and of its model.
-/
import Derived.Test.YtbeaopblopmpeaaMr
import Derived.Test.YtbeaopblopmpeaaInv
import Derived.Test.YtbeaopblopmpeaaWd
namespace Go.Proofs.Ytbeaopblopmpeaa.br
open Go.RowKit Go.Proofs.Ytbeaopblopmpeaa.sl Go.Proofs.Ytbeaopblopmpeaa.pm Go.Proofs.Ytbeaopblopmpeaa.bw Go.Proofs.Ytbeaopblopmpeaa.fn

/-- The strands at all places after k letters. -/
def plTo (s : Int) (xs : List Int) (k : Nat) : List Int := (xs.take k).foldl (fun l x => swapAt l (ab x - 1).toNat) (ids s.toNat)
def plL (s : Int) (xs : List Int) : List Int := plTo s xs xs.length
theorem plTo_zero (s : Int) (xs : List Int) : plTo s xs 0 = ids s.toNat := rfl
theorem plTo_succ (s : Int) (xs : List Int) (k q : Nat) (h : k < xs.length) (hq : ab (xs.getD k 0) = (q : Int) + 1) : plTo s xs (k + 1) = swapAt (plTo s xs k) q := by
  rw [plTo, bw.take_snoc xs k h, List.foldl_append]
  simp only [List.foldl_cons, List.foldl_nil]
  rw [hq]
  congr 1
  omega
theorem fold_len (l : List Int) (xs : List Int) : (xs.foldl (fun l x => swapAt l (ab x - 1).toNat) l).length = l.length := by
  induction xs generalizing l with
  | nil => rfl
  | cons x r ih => rw [List.foldl_cons, ih, swap_len]
theorem plTo_len (s : Int) (xs : List Int) (k : Nat) : (plTo s xs k).length = s.toNat := by rw [plTo, fold_len, ids_len]
theorem ids_places (n : Nat) : Places n (ids n) := by
  intro j hj
  rw [ids_len] at hj
  exact ⟨j, by simp [ids, List.getD, hj], hj⟩
theorem swap_places (n : Nat) (p : List Int) (k : Nat) (hk : k + 1 < p.length) (h : Places n p) : Places n (swapAt p k) := by
  intro j hj
  rw [swap_len] at hj
  unfold swapAt
  rw [getD_set _ _ _ _ (by simpa using hj), getD_set _ _ _ _ hj]
  by_cases h1 : j = k + 1
  · rw [if_pos h1]; exact h k (by omega)
  · rw [if_neg h1]
    by_cases h2 : j = k
    · rw [if_pos h2]; exact h (k + 1) hk
    · rw [if_neg h2]; exact h j hj
/-- A letter as a place. -/
theorem letter_place {s : Int} {xs : List Int} (h : okB s xs = true) (k : Nat) (hk : k < xs.length) : ∃ q : Nat, ab (xs.getD k 0) = (q : Int) + 1 ∧ q + 1 < s.toNat ∧ -100 ≤ xs.getD k 0 ∧ xs.getD k 0 ≤ 100 := by
  obtain ⟨h0, h1, _, h3⟩ := ok_parts h
  have h4 := h3 k hk
  generalize xs.getD k 0 = x at *
  have h5 : 1 ≤ ab x ∧ ab x ≤ s - 1 := by unfold ab; split <;> omega
  obtain ⟨q, hq⟩ := Int.eq_ofNat_of_zero_le (show 0 ≤ ab x - 1 by omega)
  exact ⟨q, by omega, by omega, by omega, by omega⟩
theorem plTo_places {s : Int} {xs : List Int} (h : okB s xs = true) (k : Nat) (hk : k ≤ xs.length) : Places s.toNat (plTo s xs k) := by
  induction k with
  | zero => rw [plTo_zero]; exact ids_places _
  | succ k ih =>
    obtain ⟨q, hq, hq2, _⟩ := letter_place h k (by omega)
    rw [plTo_succ s xs k q (by omega) hq]
    exact swap_places _ _ _ (by rw [plTo_len]; exact hq2) (ih (by omega))

def bprW (s : Int) (xs : List Int) : List Int := wordOk s xs (invL (plL s xs))
theorem bprW_len (s : Int) (xs : List Int) : (bprW s xs).length ≤ 1000 := by
  cases h : okB s xs
  · rw [bprW, wordOk_no h]; simp
  · rw [bprW, wordOk_yes h, invL_len, plL, plTo_len]; have := (ok_parts h).2.1; omega

theorem gen_at (x : Int) (q : Nat) (hx : -100 ≤ x ∧ x ≤ 100) (hq : ab x = (q : Int) + 1) (w : World) : Calls Try.prog 74 #[.int .i64 x] w fun e w' => e = .returned (.int .i64 ((q : Int) + 1)) ∧ w = w' :=
  (implGen x hx w).mono fun _ _ h => ⟨by rw [h.1, hq], h.2⟩
theorem abs_at (x : Int) (q : Nat) (hx : -100 ≤ x ∧ x ≤ 100) (hq : ab x = (q : Int) + 1) (w : World) : Calls Try.prog 76 #[.int .i64 x] w fun e w' => e = .returned (.int .i64 ((q : Int) + 1)) ∧ w = w' :=
  (specAbs x hx w).mono fun _ _ h => ⟨by rw [h.1, hq], h.2⟩

set_option maxHeartbeats 800000 in
theorem implPerm (s : Int) (xs : List Int) (v : Value) (B : Nat) (w : World) (ha : Ints w B v xs) (hB : B ≤ w.heap.size) (hn : xs.length ≤ 1099511627776) :
    Calls Try.prog 29 #[.agg #[.int .i64 s, v]] w fun e w' => ∃ ao cap, e = .returned (.slice ao (bprW s xs).length cap) ∧ Own w' w.heap.size w'.heap.size (.slice ao (bprW s xs).length cap) (bprW s xs) ∧ Below w.heap.size w w' := by
  obtain ⟨ao, cap, hv⟩ := ints_val ha
  obtain ⟨n, hnn⟩ : ∃ n, n = xs.length := ⟨_, rfl⟩
  rw [← hnn] at hv
  subst hv
  have HA := hid ha
  have HN := hid hnn
  clear ha hnn
  have HV := hid (implValidB s xs (.slice ao n cap) B (w.alloc (.cells #[.int .i64 s, .slice ao n cap] 27)) (ints_al HA.out _) (by simp; omega) hn)
  cases h : okB s xs
  · have HW : Hid (bprW s xs = []) := hid (by rw [bprW, wordOk_no h])
    rw [h] at HV
    rw [HW.out, List.length_nil]
    clear h
    go_enter Try.func29, Try.ntmps29
    go_wp2_with fail
    refine HV.out.mono ?_
    rintro e w1 ⟨rfl, b1⟩
    have HB1 := hid (box1 b1)
    clear b1 HV
    go_wp2
    go_ret
    exact ⟨none, 0, rfl, Own.nil _ _, HB1.out.2.1⟩
  · have hn2 : n ≤ 1099511627776 := by rw [HN.out]; exact hn
    have HW : Hid (bprW s xs = invL (plL s xs)) := hid (by rw [bprW, wordOk_yes h])
    have HL := hid (fun k hk => letter_place h k hk)
    have HPl := hid (plTo_places h xs.length (Nat.le_refl _))
    obtain ⟨m, hm⟩ := Int.eq_ofNat_of_zero_le (ok_parts h).1
    have hm12 : m ≤ 12 := by have := (ok_parts h).2.1; omega
    subst hm
    have HLen : Hid ((invL (plL (m : Int) xs)).length = m) := hid (by rw [invL_len, plL, plTo_len]; simp)
    rw [h] at HV
    rw [HW.out, HLen.out]
    clear h
    go_enter Try.func29, Try.ntmps29
    go_wp2_with fail
    refine HV.out.mono ?_
    rintro e w1 ⟨rfl, b1⟩
    have hb := box1 b1
    have d0 := hb.1 0
    have d1 := hb.1 1
    have hz := hb.2.2
    have HB1 := hid hb.2.1
    have HA1 := hid (HA.out.chg (Chg.ofBelow (lo := 0) hb.2.1) (.inr (Nat.zero_le _)))
    simp at d0 d1
    clear b1 hb HV
    go_wp2_with fail
    refine (implIds m w1 (by omega)).mono ?_
    rintro e w2 ⟨v2, rfl, o2, b2⟩
    have hz2 := b2.size
    obtain ⟨ao2, cap2, hv2⟩ := own_val o2
    rw [ids_len] at hv2
    subst hv2
    have HO2 := hid o2
    have HB2 := hid (HB1.out.trans (b2.mono (by omega)))
    have HA2 := hid (HA1.out.chg (Chg.ofBelow (lo := 0) b2) (.inr (Nat.zero_le _)))
    have e0 := (b2.cell (p := ⟨w.heap.size, 0, none⟩) (by show w.heap.size < w1.heap.size; omega)).trans d0
    have e1 := (b2.cell (p := ⟨w.heap.size, 1, none⟩) (by show w.heap.size < w1.heap.size; omega)).trans d1
    clear o2 b2 d0 d1 HA1
    go_wp2
    go_loopw [15] (fun i wr => ∃ k : Nat, k ≤ n ∧ i = .int .i64 k ∧ Own wr w1.heap.size w2.heap.size (.slice ao2 m cap2) (plTo (m : Int) xs k) ∧ Chg w1.heap.size w2.heap.size w2 wr)
      (fun i _ => n - (intOf i).toNat)
    case atStart => exact ⟨0, Nat.zero_le _, rfl, by rw [plTo_zero]; exact HO2.out, Chg.refl _ _ _⟩
    case round =>
      obtain ⟨k, hk, rfl, hown, hchg⟩ := hrel
      have HO := hid hown
      have HC := hid hchg
      clear hown hchg HO2
      by_cases hlt : k < n
      · rcases HA2.out with ⟨hx, _⟩ | ⟨hp, b, off, cap', hv, hb, hc⟩
        · rw [HN.out, hx] at hlt; simp at hlt
        · simp only [Value.slice.injEq] at hv
          obtain ⟨rfl, hlen, rfl⟩ := hv
          clear hlen
          have h1 : wr.cell? ⟨b, off + k, none⟩ = some (.int .i64 (xs.getD k 0)) := (World.cell?_of_block (w := w2) (w' := wr) (a := ⟨b, off + k, none⟩) (HC.out.block b (by omega) (by omega))).trans (hc k (by rw [← HN.out]; exact hlt))
          obtain ⟨q, hq, hqs, hx0, hx1⟩ := HL.out k (by rw [← HN.out]; exact hlt)
          have HS := hid (plTo_succ (m : Int) xs k q (by rw [← HN.out]; exact hlt) hq)
          have HG := hid (gen_at (xs.getD k 0) q ⟨hx0, hx1⟩ hq wr)
          have HX := hid (implExchange (plTo (m : Int) xs k) _ _ _ q wr HO.out (by rw [plTo_len]; simp; omega) (by rw [plTo_len]; exact hqs))
          rw [← HS.out] at HX
          have hq12 : q ≤ 12 := by simp at hqs; omega
          clear hc hp hq hqs
          generalize xs.getD k 0 = x at *
          go_wp2_with fail
          refine HG.out.mono ?_
          rintro e w' ⟨rfl, rfl⟩
          go_wp2_with fail
          refine HX.out.mono ?_
          rintro e w3 ⟨rfl, o3, c3⟩
          have HO3 := hid o3
          have HC3 := hid (HC.out.trans c3)
          clear o3 c3
          go_wp2
          go_roundw
          case rel => exact ⟨k + 1, by omega, by go_num, HO3.out, HC3.out⟩
          case measure => simp [intOf]; omega
      · obtain rfl : k = n := by omega
        have HO' : Hid (Own wr w1.heap.size w2.heap.size (.slice ao2 m cap2) (plL (m : Int) xs)) := hid (by have h := HO.out; rw [HN.out] at h; exact h)
        have hzr := HC.out.size
        have HI := hid (implInv (plL (m : Int) xs) _ _ wr HO'.out.ints (by omega) (by rw [plL, plTo_len]; simp; omega) (by have h := HPl.out; rw [plL, plTo_len]; exact h))
        go_wp2_with fail
        refine HI.out.mono ?_
        rintro e w3 ⟨v3, rfl, o3, b3⟩
        obtain ⟨ao3, cap3, hv3⟩ := own_val o3
        rw [HLen.out] at hv3
        subst hv3
        have HO3 := hid (o3.lo (lo' := w.heap.size) (by omega))
        have HB3 := hid ((HB2.out.trans (HC.out.below (B := w.heap.size) (by omega) (by omega))).trans (b3.mono (by omega)))
        clear o3 b3
        go_wp2
        go_ret
        exact ⟨_, _, rfl, HO3.out, HB3.out⟩

theorem specPlaces (m : Nat) (xs : List Int) (v : Value) (B : Nat) (w : World) (ha : Ints w B v xs) (hB : B ≤ w.heap.size) (hn : xs.length ≤ 1099511627776) (hm : m ≤ 12)
    (hl : ∀ k, k < xs.length → ∃ q : Nat, ab (xs.getD k 0) = (q : Int) + 1 ∧ q + 1 < m ∧ -100 ≤ xs.getD k 0 ∧ xs.getD k 0 ≤ 100) :
    Calls Try.prog 71 #[.int .i64 m, v] w fun e w' => ∃ v', e = .returned v' ∧ Own w' w.heap.size w'.heap.size v' (plL (m : Int) xs) ∧ Below w.heap.size w w' := by
  obtain ⟨ao, cap, hv⟩ := ints_val ha
  obtain ⟨n, hnn⟩ : ∃ n, n = xs.length := ⟨_, rfl⟩
  rw [← hnn] at hv hn
  subst hv
  have HA := hid ha
  have HN := hid hnn
  have HL := hid hl
  clear ha hnn hl
  go_enter Try.func71, Try.ntmps71
  go_wp2
  go_loopw [5, 6] (fun v i wr => ∃ k : Nat, k ≤ m ∧ i = .int .i64 k ∧ Own wr w.heap.size wr.heap.size v (ids k) ∧ Below w.heap.size w wr)
    (fun _ i _ => m - (intOf i).toNat)
  case atStart => exact ⟨0, Nat.zero_le _, rfl, Own.built w _ rfl, (Below.refl _ _).alloc (Nat.le_refl _) _⟩
  case round =>
    obtain ⟨k, hk, rfl, hown, hbel⟩ := hrel
    have HO := hid hown
    have HB := hid hbel
    have hsz := hbel.size
    by_cases hlt : k < m
    · clear hown hbel
      go_wp2_with (at_builtin; refine wp_append rfl _ _ rfl w.heap.size wr.heap.size _ (ids k) k HO.out rfl rfl hsz (by rw [ids_len]; omega) ?_; intro v' w1 hown1 hchg1 hsz1)
      have HO1 := hid hown1
      have HB1 := hid (HB.out.trans (hchg1.below (Nat.le_refl _) hsz))
      clear hown1 hchg1
      go_wp2
      go_roundw
      case rel => exact ⟨k + 1, by omega, by go_num, by rw [ids_succ]; exact HO1.out, HB1.out⟩
      case measure => simp [intOf]; omega
    · obtain rfl : k = m := by omega
      obtain ⟨ao2, cap2, hv2⟩ := own_val hown
      rw [ids_len] at hv2
      subst hv2
      obtain ⟨w2, hw2⟩ : ∃ w2 : World, w2 = wr := ⟨_, rfl⟩
      subst hw2
      have HA2 := hid (HA.out.chg (Chg.ofBelow (lo := 0) HB.out) (.inr (Nat.zero_le _)))
      clear hown hbel
      go_wp2
      go_loopw [7] (fun i wr => ∃ j : Nat, j ≤ n ∧ i = .int .i64 j ∧ Own wr w.heap.size w2.heap.size (.slice ao2 k cap2) (plTo (k : Int) xs j) ∧ Chg w.heap.size w2.heap.size w2 wr)
        (fun i _ => n - (intOf i).toNat)
      case atStart => exact ⟨0, Nat.zero_le _, rfl, by rw [plTo_zero]; exact HO.out, Chg.refl _ _ _⟩
      case round =>
        obtain ⟨j, hj, rfl, hown, hchg⟩ := hrel
        have HO3 := hid hown
        have HC := hid hchg
        clear HO hchg
        by_cases hjl : j < n
        · rcases HA2.out with ⟨hx, _⟩ | ⟨hp, b, off, cap', hv, hb, hc⟩
          · rw [HN.out, hx] at hjl; simp at hjl
          · simp only [Value.slice.injEq] at hv
            obtain ⟨rfl, hlen, rfl⟩ := hv
            clear hlen
            have h1 : wr.cell? ⟨b, off + j, none⟩ = some (.int .i64 (xs.getD j 0)) := (World.cell?_of_block (w := w2) (w' := wr) (a := ⟨b, off + j, none⟩) (HC.out.block b (by omega) (by omega))).trans (hc j (by rw [← HN.out]; exact hjl))
            obtain ⟨q, hq, hqs, hx0, hx1⟩ := HL.out j (by rw [← HN.out]; exact hjl)
            have HS := hid (plTo_succ (k : Int) xs j q (by rw [← HN.out]; exact hjl) hq)
            have HG := hid (abs_at (xs.getD j 0) q ⟨hx0, hx1⟩ hq wr)
            have hpl : (plTo (k : Int) xs j).length = k := by rw [plTo_len]; simp
            obtain ⟨g, hg⟩ : ∃ g, ao2 = some ⟨g, 0, none⟩ := by
              rcases hown.1.2 with ⟨h, h1⟩ | ⟨g, c, cur, h, _⟩
              · omega
              · simp only [Value.slice.injEq] at h; exact ⟨g, h.1⟩
            subst hg
            have c0 := (hown.at' q (by omega)).1
            have c1 := (hown.at' (q + 1) (by omega)).1
            have f0 := (hown.at' q (by omega)).2
            have f1 := (hown.at' (q + 1) (by omega)).2
            have HW := hid (swapWorld hown q)
            rw [← HS.out] at HW
            have hq12 : q ≤ 12 := by omega
            clear hc hp hq hown
            generalize xs.getD j 0 = x at *
            generalize (plTo (k : Int) xs j).getD q 0 = y at *
            generalize (plTo (k : Int) xs j).getD (q + 1) 0 = z at *
            go_wp2_with fail
            refine HG.out.mono ?_
            rintro e w' ⟨rfl, rfl⟩
            go_wp2
            go_roundw
            case rel => exact ⟨j + 1, by omega, by go_num, HW.out.1, HC.out.trans HW.out.2⟩
            case measure => simp [intOf]; omega
        · obtain rfl : j = n := by omega
          have hzr := HC.out.size
          have HO' : Hid (Own wr w.heap.size w2.heap.size (.slice ao2 k cap2) (plL (k : Int) xs)) := hid (by have h := HO3.out; rw [HN.out] at h; exact h)
          clear hown
          go_wp2
          go_ret
          exact ⟨_, rfl, HO'.out.hi hzr (Nat.le_refl _), HB.out.trans (HC.out.below (Nat.le_refl _) HB.out.size)⟩

set_option maxHeartbeats 800000 in
theorem specPerm (s : Int) (xs : List Int) (v : Value) (B : Nat) (w : World) (ha : Ints w B v xs) (hB : B ≤ w.heap.size) (hn : xs.length ≤ 1099511627776) :
    Calls Try.prog 28 #[.agg #[.int .i64 s, v]] w fun e w' => ∃ ao cap, e = .returned (.slice ao (bprW s xs).length cap) ∧ Own w' w.heap.size w'.heap.size (.slice ao (bprW s xs).length cap) (bprW s xs) ∧ Below w.heap.size w w' := by
  obtain ⟨i0, hi, hz0, hz1, hz2⟩ := info_parts info64
  obtain ⟨ao, cap, hv⟩ := ints_val ha
  obtain ⟨n, hnn⟩ : ∃ n, n = xs.length := ⟨_, rfl⟩
  rw [← hnn] at hv
  subst hv
  have HA := hid ha
  have HN := hid hnn
  clear ha hnn
  have HV := hid (specOkA s xs (.slice ao n cap) B w HA.out hn)
  cases h : okB s xs
  · have HW : Hid (bprW s xs = []) := hid (by rw [bprW, wordOk_no h])
    rw [h] at HV
    rw [HW.out, List.length_nil]
    clear h
    go_enter Try.func28, Try.ntmps28
    go_wp2_with fail
    refine HV.out.mono ?_
    rintro e w1 ⟨rfl, q, rfl⟩
    go_wp2
    go_ret
    exact ⟨none, 0, rfl, Own.nil _ _, bdrewN ((Below.refl w.heap.size w).alloc (Nat.le_refl _) _) _⟩
  · have HW : Hid (bprW s xs = invL (plL s xs)) := hid (by rw [bprW, wordOk_yes h])
    have HL := hid (fun k hk => letter_place h k hk)
    have HPl := hid (plTo_places h xs.length (Nat.le_refl _))
    obtain ⟨m, hm⟩ := Int.eq_ofNat_of_zero_le (ok_parts h).1
    have hm12 : m ≤ 12 := by have := (ok_parts h).2.1; omega
    subst hm
    have HLen : Hid ((invL (plL (m : Int) xs)).length = m) := hid (by rw [invL_len, plL, plTo_len]; simp)
    have HLp : Hid ((plL (m : Int) xs).length = m) := hid (by rw [plL, plTo_len]; simp)
    have HPl' : Hid (Places m (plL (m : Int) xs)) := hid (by have h := HPl.out; simp only [Int.toNat_natCast] at h; exact h)
    rw [h] at HV
    rw [HW.out, HLen.out]
    clear h HPl
    go_enter Try.func28, Try.ntmps28
    go_wp2_with fail
    refine HV.out.mono ?_
    rintro e w1 ⟨rfl, q, rfl⟩
    have hb := box1 (bdrewN (Below.refl _ (w.alloc (.cells #[.int .i64 (m : Int), .slice ao n cap] 27))) q)
    generalize (w.alloc (.cells #[.int .i64 (m : Int), .slice ao n cap] 27)).drewN q = w1 at *
    have d0 := hb.1 0
    have d1 := hb.1 1
    have hz := hb.2.2
    have HB1 := hid hb.2.1
    have HA1 := hid (HA.out.chg (Chg.ofBelow (lo := 0) hb.2.1) (.inr (Nat.zero_le _)))
    simp at d0 d1
    clear hb HV
    have HPC := hid (specPlaces m xs (.slice ao n cap) B w1 HA1.out (by omega) hn hm12 (fun k hk => by
      obtain ⟨q, h1, h2, h3⟩ := HL.out k hk
      exact ⟨q, h1, by simpa using h2, h3⟩))
    go_wp2_with fail
    refine HPC.out.mono ?_
    rintro e w2 ⟨v2, rfl, o2, b2⟩
    obtain ⟨ao2, cap2, hv2⟩ := own_val o2
    rw [HLp.out] at hv2
    subst hv2
    have hzz := b2.size
    have HO2 := hid o2
    have HB2 := hid (HB1.out.trans (b2.mono (by omega)))
    clear o2 b2 d0 d1 HA1 HPC
    go_wp2_with (at_make; refine wpList_make_full _ rfl (.tmp 14) (.tmp 14) 22 rfl w2.heap.size 2 i0 (.int .i64 0) 1 Try.underlying22 hi hz0 hz1 .i64 .i64 _ _ m rfl rfl (by omega) (by omega) (by rw [hz2]; omega) (by unfold maxLen; omega) (Nat.le_refl _) ?_; intro w3 hown3 hgrow3; have HO3 := hid (made_own' hown3); have HB3 := hid (below_grown hgrow3); clear hown3 hgrow3)
    have HO32 := hid (HO2.out.chg (Chg.ofBelow (lo := 0) HB3.out) (.inr (.inr (Nat.zero_le _))))
    go_loopw [5] (fun i wr => ∃ k : Nat, k ≤ m ∧ i = .int .i64 k ∧ Own wr w2.heap.size wr.heap.size (.slice (some ⟨w2.heap.size, 0, none⟩) m m) (invTo (plL (m : Int) xs) k) ∧ Below w2.heap.size w2 wr)
      (fun i _ => m - (intOf i).toNat)
    case atStart => exact ⟨0, Nat.zero_le _, rfl, by rw [invTo, HLp.out]; exact HO3.out, HB3.out⟩
    case round =>
      obtain ⟨k, hk, rfl, hown, hbel⟩ := hrel
      have HO := hid hown
      have HBr := hid hbel
      clear hown hbel HO3 HB3 HO32
      by_cases hlt : k < m
      · obtain ⟨x, hx, hxm⟩ := HPl'.out k (by rw [HLp.out]; exact hlt)
        obtain ⟨g, hg⟩ : ∃ g, ao2 = some ⟨g, 0, none⟩ := by
          rcases HO2.out.1.2 with ⟨h, h1⟩ | ⟨g, c, cur, h, _⟩
          · rw [HLp.out] at h1; omega
          · simp only [Value.slice.injEq] at h; exact ⟨g, h.1⟩
        subst hg
        have hgl := HO2.out.2.1 g rfl
        have h1 : wr.cell? ⟨g, k, none⟩ = some (.int .i64 (x : Int)) := by rw [← hx]; exact (HBr.out.cell (p := ⟨g, k, none⟩) hgl).trans (HO2.out.at' k (by rw [HLp.out]; exact hlt)).1
        have hcell := (HO.out.at' x (by rw [invTo_len, HLp.out]; exact hxm)).1
        have hfr := (HO.out.at' x (by rw [invTo_len, HLp.out]; exact hxm)).2
        have HS := hid (HO.out.set x k).1
        have HX := hid (invTo_succ (plL (m : Int) xs) k x hx)
        clear hx
        go_wp2
        go_roundw
        case rel => exact ⟨k + 1, by omega, by go_num, by have := HS.out; rw [← HX.out] at this; simpa using this, HBr.out.setCell (by simp) _⟩
        case measure => simp [intOf]; omega
      · obtain rfl : k = m := by omega
        have HO' : Hid (Own wr w2.heap.size wr.heap.size (.slice (some ⟨w2.heap.size, 0, none⟩) k k) (invL (plL (k : Int) xs))) := hid (by have h := HO.out; rw [invL, HLp.out]; exact h)
        go_wp2
        go_ret
        exact ⟨_, _, rfl, HO'.out.lo (by omega), HB2.out.trans (HBr.out.mono (by omega))⟩
end Go.Proofs.Ytbeaopblopmpeaa.br
