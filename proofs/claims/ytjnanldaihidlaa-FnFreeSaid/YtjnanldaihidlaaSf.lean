/-
  Drawn words of a free group: contract of DrawFreeJoin; what is drawn is left open. Both helpers of the laws of chapter 5.
-/
import Derived.Test.YtjnanldaihidlaaSrc2
import Derived.Test.YtjnanldaihidlaaSs
import Derived.Test.YtjnanldaihidlaaIv
import Derived.BigGuard
namespace Go.Proofs.Ytjnanldaihidlaa.sf
open Go.RowKit Go.Proofs.Ytjnanldaihidlaa.sl Go.Proofs.Ytjnanldaihidlaa.pm Go.Proofs.Ytjnanldaihidlaa.fn Go.Proofs.Ytjnanldaihidlaa.sr Go.Proofs.Ytjnanldaihidlaa.br Go.Proofs.Ytjnanldaihidlaa.bw
set_option linter.unusedVariables false

set_option maxHeartbeats 800000 in
theorem numsQ (xs ys : List Int) (v u : Value) (B C : Nat) (w : World) (ha : Ints w B v xs) (hb : Ints w C u ys) (hn : xs.length ≤ 1099511627776) (hm : ys.length ≤ 1099511627776) :
    Calls Try.prog 22 #[v, u] w fun e w' => e = .returned (.bool (sameB xs ys)) ∧ ∃ q, w' = w.drewN q := by
  by_cases hl : xs.length = ys.length
  · rcases ha with ⟨rfl, ao, cap, rfl⟩ | ⟨hp, b, off, cap, rfl, hb', hc⟩
    · rcases hb with ⟨rfl, ao', cap', rfl⟩ | ⟨hp', _⟩
      · go_enter Try.func22, Try.ntmps22
        go_wp2
        refine wp_loop_rounds 1 ?_
        rw [rounds_succ]
        go_wp2
        go_ret
        exact ⟨rfl, 0, rfl⟩
      · simp at hl; omega
    · rcases hb with ⟨rfl, ao', cap', rfl⟩ | ⟨hp', b', off', cap', rfl, hb'', hc'⟩
      · simp at hl; subst hl; simp at hp
      · rw [← hl] at hc' ⊢
        obtain ⟨n, hnn⟩ : ∃ n, n = xs.length := ⟨_, rfl⟩
        rw [← hnn] at hp hc hc' hn ⊢
        have HN := hid hnn
        have HL := hid hl
        have HC := hid hc
        have HC' := hid hc'
        clear hnn hl hp' hm hc hc'
        go_enter Try.func22, Try.ntmps22
        go_wp2
        go_loopw [5] (fun i wr => ∃ k : Nat, k ≤ n ∧ i = .int .i64 k ∧ (∀ j, j < k → xs.getD j 0 = ys.getD j 0) ∧ ∃ q, wr = w.drewN q)
          (fun i _ => n - (intOf i).toNat)
        case atStart => exact ⟨0, Nat.zero_le _, rfl, fun j hj => by omega, 0, rfl⟩
        case round =>
          obtain ⟨k, hk, rfl, heq, q, hwr⟩ := hrel
          have HE := hid heq
          have HW := hid hwr
          clear heq hwr
          by_cases hlt : k < n
          · have h1 : wr.cell? ⟨b, off + k, none⟩ = some (.int .i64 (xs.getD k 0)) := by rw [HW.out]; exact HC.out k hlt
            have h2 : wr.cell? ⟨b', off' + k, none⟩ = some (.int .i64 (ys.getD k 0)) := by rw [HW.out]; exact HC'.out k hlt
            obtain ⟨x, hx⟩ : ∃ x, x = xs.getD k 0 := ⟨_, rfl⟩
            obtain ⟨y, hy⟩ : ∃ y, y = ys.getD k 0 := ⟨_, rfl⟩
            rw [← hx] at h1
            rw [← hy] at h2
            have HX := hid hx
            have HY := hid hy
            clear hx hy
            by_cases he : x = y
            · subst he
              go_wp2
              go_quiet (fail)
              go_wp2
              go_roundw
              case rel => exact ⟨k + 1, by omega, by go_num, fun j hj => by
                rcases Nat.lt_or_ge j k with h | h
                · exact HE.out j h
                · obtain rfl : j = k := by omega
                  rw [← HX.out, ← HY.out], _, by rw [HW.out]; exact ss.drewN_add _ _ _⟩
              case measure => simp [intOf]; omega
            · have hb1 : (x == y) = false := by simpa using he
              have hb2 : (x != y) = true := by simpa using he
              have HF : Hid (sameB xs ys = false) := by
                refine hid ?_
                simp only [sameB, decide_eq_false_iff_not]
                rintro rfl
                exact he (HX.out.trans HY.out.symm)
              clear he
              go_wp2
              go_quiet (fail)
              go_wp2
              go_ret
              exact ⟨by rw [HF.out]; rfl, _, by rw [HW.out]; exact ss.drewN_add _ _ _⟩
          · obtain rfl : k = n := by omega
            go_wp2
            go_ret
            have : xs = ys := list_eq_of HL.out (fun j hj => HE.out j (by rw [HN.out]; exact hj))
            exact ⟨by rw [this, sameB_self]; rfl, q, HW.out⟩
  · have hd : (((xs.length : Nat) : Int) == ((ys.length : Nat) : Int)) = false := by simp; omega
    have hd' : (((xs.length : Nat) : Int) != ((ys.length : Nat) : Int)) = true := by simp; omega
    have HF : Hid (sameB xs ys = false) := by
      refine hid ?_
      simp only [sameB, decide_eq_false_iff_not]
      rintro rfl
      exact hl rfl
    obtain ⟨ao, cap, rfl⟩ := ints_val ha
    obtain ⟨ao', cap', rfl⟩ := ints_val hb
    clear ha hb hl
    generalize xs.length = n at *
    generalize ys.length = m at *
    go_enter Try.func22, Try.ntmps22
    go_wp2
    go_ret
    exact ⟨by rw [HF.out]; rfl, 0, rfl⟩

set_option maxRecDepth 100000 in
set_option maxHeartbeats 800000 in
theorem specInverseW (xs : List Int) (v : Value) (B : Nat) (w : World) (ha : Ints w B v xs) (hB : B ≤ w.heap.size) (hn : xs.length ≤ 1048576) :
    Calls Try.prog 74 #[v] w fun e w' => ∃ (v' : Value) (L : List Int), e = .returned v' ∧ L.length = xs.length ∧ sl.Own w' w.heap.size w'.heap.size v' L ∧ Below w.heap.size w w' := by
  rcases ha with ⟨rfl, ao, cap, rfl⟩ | ⟨hp, b, off, cap, rfl, hbb, hc⟩
  · go_enter Try.func74, Try.ntmps74
    go_wp2
    refine wp_loop_rounds 1 ?_
    rw [rounds_succ]
    go_wp2
    go_ret
    exact ⟨_, [], rfl, rfl, sl.Own.built w _ rfl, (Below.refl _ _).alloc (Nat.le_refl _) _⟩
  · obtain ⟨n, hnn⟩ : ∃ n, n = xs.length := ⟨_, rfl⟩
    rw [← hnn] at hp hc hn ⊢
    have HN := hid hnn
    have HC := hid hc
    clear hnn hc
    go_enter Try.func74, Try.ntmps74
    go_wp2
    go_loopw [3, 4] (fun v i wr => ∃ (k : Nat) (L : List Int), k ≤ n ∧ L.length = k ∧ i = .int .i64 ((n : Int) - 1 - k) ∧ sl.Own wr w.heap.size wr.heap.size v L ∧ Below w.heap.size w wr)
      (fun _ i _ => (intOf i + 1).toNat)
    case atStart => exact ⟨0, [], Nat.zero_le _, rfl, by congr 1; omega, sl.Own.built w _ rfl, (Below.refl _ _).alloc (Nat.le_refl _) _⟩
    case round =>
      obtain ⟨k, L, hk, hL, rfl, hown, hbel⟩ := hrel
      have HO := hid hown
      have HB := hid hbel
      have HL := hid hL
      have hsz := hbel.size
      have hln : L.length ≤ 1099511627776 := by omega
      clear hown hbel hL
      by_cases hlt : k < n
      · obtain ⟨q, hq⟩ : ∃ q : Nat, q + k + 1 = n := ⟨n - 1 - k, by omega⟩
        have e1 : (n : Int) - 1 - k = (q : Int) := by omega
        have HE := hid e1
        have h1 : wr.cell? ⟨b, off + q, none⟩ = some (.int .i64 (xs.getD q 0)) := (HB.out.cell (p := ⟨b, off + q, none⟩) (by show b < _; omega)).trans (HC.out q (by omega))
        generalize xs.getD q 0 = x at *
        rw [e1]
        clear e1
        go_wp2_with (at_builtin; refine wp_append rfl _ _ rfl w.heap.size wr.heap.size _ L _ HO.out rfl rfl hsz hln ?_; intro v' w1 hown1 hchg1 hsz1; have HO1 := hid hown1; have HB1 := hid (HB.out.trans (hchg1.below (Nat.le_refl _) hsz)); clear hown1 hchg1)
        go_roundw
        case rel => exact ⟨k + 1, _, by omega, by rw [List.length_append, HL.out]; rfl, congrArg (Value.int .i64) (by have := HE.out; omega), HO1.out, HB1.out⟩
        case measure => (simp [intOf]; try omega)
      · obtain rfl : k = n := by omega
        have h0 : ¬ (0 : Int) ≤ (k : Int) - 1 - (k : Int) := by omega
        go_wp2
        go_ret
        exact ⟨_, rfl, L, HL.out, HO.out, HB.out⟩

theorem ownL (w1 : World) (xs : List Int) (cs : Array Value) (k : Nat) (hk : xs.length = k) (hm : k ≤ 1000) (h : cs.toList = xs.map (Value.int .i64)) : sl.Own (w1.alloc (.cells cs 2)) w1.heap.size (w1.heap.size + 1) (.slice (some ⟨w1.heap.size, 0, none⟩) k k) xs := by
  subst hk
  have hs : cs.size = xs.length := by rw [← Array.length_toList, h]; simp
  refine ⟨⟨by simp, .inr ⟨w1.heap.size, xs.length, cs, rfl, Nat.le_refl _, heap_alloc_new _ _, Nat.le_refl _, by unfold maxLen; omega, by rw [hs]; simp, by rw [h, Nat.mul_one]; exact List.take_of_length_le (by simp)⟩⟩, fun g hg => ?_, by simp⟩
  simp [Value.ownBlock] at hg
  omega

set_option maxRecDepth 100000 in
set_option maxHeartbeats 2000000 in
theorem drawWord (g n m : Nat) (v : Value) (N : Int) (w : World) (h : Src w g v n m) (hn : n ≤ 1048576) (hm : m ≤ 1000) (hN : -20 ≤ N ∧ N ≤ 20) :
    Calls Try.prog 75 #[.pointer (some ⟨g, 0, none⟩), .int .i64 N] w fun e w' => ∃ (u : Value) (L : List Int), e = .returned u ∧ L.length ≤ 20 ∧ Src w' g v n (m + 100) ∧ sl.Own w' w.heap.size w'.heap.size u L ∧ Chg g (g + 1) w w' := by
  have hg := h.1
  have HO1 : Hid (sl.Own (w.alloc (.cells #[] 2)) w.heap.size (w.alloc (.cells #[] 2)).heap.size (.slice (some ⟨w.heap.size, 0, none⟩) 0 0) []) := hid (sl.Own.built w #[] rfl)
  have b1 : Below w.heap.size w (w.alloc (.cells #[] 2)) := (Below.refl _ _).alloc (Nat.le_refl _) _
  have HS1 := hid (h.chg (Chg.ofBelow (lo := w.heap.size) b1) hg)
  have HC1 : Hid (Chg g (g + 1) w (w.alloc (.cells #[] 2))) := hid (chg_alloc g (g + 1) w _)
  have z1 : (w.alloc (.cells #[] 2)).heap.size = w.heap.size + 1 := by simp
  clear h b1
  go_enter Try.func75, Try.ntmps75
  go_wp2_with fail
  refine (pick g n m v 10 _ HS1.out hn (by omega) (by omega)).mono ?_
  rintro e w2 ⟨c0, hc0, rfl, s2, c2⟩
  have z2 := c2.size
  have HS2 := hid s2
  have HO2 := hid ((HO1.out.chg c2 (by omega)).hi (hi' := w2.heap.size) z2 (Nat.le_refl _))
  have HC2 := hid (HC1.out.trans c2)
  clear s2 c2 HS1 HO1 HC1
  go_wp2
  go_loopw [5, 6] (fun u i wr => ∃ (c q : Nat) (L : List Int), i = .int .i64 (c : Int) ∧ L.length + 2 * c ≤ 18 ∧ q + 10 * c ≤ 92 ∧ sl.Own wr w.heap.size wr.heap.size u L ∧ Src wr g v n (m + q) ∧ Chg g (g + 1) w wr ∧ w.heap.size ≤ wr.heap.size)
    (fun _ i _ => (intOf i).toNat)
  case atStart => exact ⟨c0, 2, [], rfl, by simp; omega, by omega, HO2.out, HS2.out, HC2.out, by omega⟩
  case round =>
    obtain ⟨c, q, L, rfl, hcl, hq, ho, hs, hch, hsz⟩ := hrel
    have HO := hid ho
    have HS := hid hs
    have HC := hid hch
    have HL := hid hcl
    have hl18 : L.length ≤ 18 := by omega
    have hc9 : c ≤ 9 := by omega
    clear ho hs hch hcl
    by_cases hgo : 0 < c ∧ 0 < N
    · obtain ⟨hg1, hg2⟩ := hgo
      have d1 : decide ((0 : Int) < (c : Int)) = true := by simp; omega
      go_wp2_with fail
      refine (pick g n (m + q) v N wr HS.out hn (by omega) (by omega)).mono ?_
      rintro e w7 ⟨r, hr, rfl, s7, c7⟩
      have z7 := c7.size
      have HS7 := hid s7
      have HO7 := hid (HO.out.chg c7 (by omega))
      have HC7 := hid (HC.out.trans c7)
      have hr20 : r ≤ 20 := by omega
      clear s7 c7 HO HS HC hr
      go_wp2_with fail
      refine (one g n (m + q + 2) v 2 w7 HS7.out hn (by omega) (by omega)).mono ?_
      rintro e w8 ⟨⟨q1, rfl⟩, s8, c8⟩
      have z8 := c8.size
      have HS8 := hid s8
      have HO8 := hid (HO7.out.chg c8 (by omega))
      have HC8 := hid (HC7.out.trans c8)
      have hz8 : w.heap.size ≤ w8.heap.size := by omega
      clear s8 c8 HO7 HS7 HC7
      obtain ⟨x, hx⟩ : ∃ x : Int, x = if q1 then -(1 + (r : Int)) else 1 + (r : Int) := ⟨_, rfl⟩
      have hxb : -21 ≤ x ∧ x ≤ 21 := by rw [hx]; split <;> omega
      cases q1
      all_goals
        simp only [if_true, if_false, Bool.false_eq_true] at hx
        subst hx
        go_wp2_with (at_builtin; refine wp_append rfl _ _ rfl w.heap.size wr.heap.size _ L _ HO8.out rfl rfl hz8 (by omega) ?_; intro v9 w9 o9 c9 hs9; have HO9 := hid o9; have HS9 := hid (HS8.out.chg c9 (by omega)); have HC9 := hid (chg_far HC8.out c9 (Nat.le_refl _)); clear o9 c9)
        refine (one g n (m + q + 4) v 4 w9 HS9.out hn (by omega) (by omega)).mono ?_
        rintro e w10 ⟨⟨q2, rfl⟩, s10, c10⟩
        have z10 := c10.size
        have HS10 := hid s10
        have HO10 := hid (HO9.out.chg c10 (by omega))
        have HC10 := hid (HC9.out.trans c10)
        have hz10 : w.heap.size ≤ w10.heap.size := by omega
        clear s10 c10 HO9 HS9 HC9 HO8 HS8 HC8
        cases q2
        · go_wp2
          go_roundw
          case rel => exact ⟨c - 1, q + 6, _, by go_num, by simp; have := HL.out; omega, by omega, HO10.out.hi (by omega) (Nat.le_refl _), HS10.out, HC10.out, by omega⟩
          case measure => simp [intOf]; omega
        · go_wp2_with (at_builtin; refine wp_append rfl _ _ rfl w.heap.size w9.heap.size _ _ _ HO10.out rfl rfl hz10 (by simp; omega) ?_; intro v11 w11 o11 c11 hs11; have HO11 := hid o11; have HS11 := hid (HS10.out.chg c11 (by omega)); have HC11 := hid (chg_far HC10.out c11 (Nat.le_refl _)); clear o11 c11)
          go_roundw
          case rel => exact ⟨c - 1, q + 6, _, by go_num, by simp; have := HL.out; omega, by omega, HO11.out, HS11.out, HC11.out, by omega⟩
          case measure => simp [intOf]; omega
    · have hcc : (decide (0 < c) = false) ∨ (0 < c ∧ decide ((0 : Int) < N) = false) := by
        by_cases h : 0 < c
        · exact .inr ⟨h, by simp; omega⟩
        · exact .inl (by simp; omega)
      clear hgo
      rcases hcc with d1 | ⟨h1, d2⟩
      all_goals
        go_wp2
        go_ret
        exact ⟨_, L, rfl, by omega, by have h5 := HS.out.more (100 - q); rwa [show m + q + (100 - q) = m + 100 by omega] at h5, HO.out, HC.out⟩

theorem minI (a b : Int) (w : World) : Calls Try.prog 77 #[.int .i64 a, .int .i64 b] w fun e w' => e = .returned (.int .i64 (min a b)) ∧ w = w' := by
  by_cases h : a < b
  · have HF : Hid (min a b = a) := hid (by omega)
    go_enter Try.func77, Try.ntmps77
    go_wp2
    go_ret
    exact ⟨by rw [HF.out]; rfl, rfl⟩
  · have HF : Hid (min a b = b) := hid (by omega)
    have hd : decide (a < b) = false := decide_eq_false h
    go_enter Try.func77, Try.ntmps77
    go_wp2
    go_ret
    exact ⟨by rw [HF.out]; rfl, rfl⟩
theorem maxI (a b : Int) (w : World) : Calls Try.prog 76 #[.int .i64 a, .int .i64 b] w fun e w' => e = .returned (.int .i64 (max a b)) ∧ w = w' := by
  by_cases h : b < a
  · have HF : Hid (max a b = a) := hid (by omega)
    go_enter Try.func76, Try.ntmps76
    go_wp2
    go_ret
    exact ⟨by rw [HF.out]; rfl, rfl⟩
  · have HF : Hid (max a b = b) := hid (by omega)
    have hd : decide (b < a) = false := decide_eq_false h
    go_enter Try.func76, Try.ntmps76
    go_wp2
    go_ret
    exact ⟨by rw [HF.out]; rfl, rfl⟩

set_option maxRecDepth 100000 in
set_option maxHeartbeats 2000000 in
theorem bent (g n : Nat) (v : Value) (w : World) (h : Src w g v n 0) (hn : n ≤ 1048576) :
    Calls Try.prog 72 #[.pointer (some ⟨g, 0, none⟩)] w fun e w' => ∃ (N : Int) (u : Value) (L : List Int), e = .returned (.tuple #[.int .i64 N, u]) ∧ -1 ≤ N ∧ N ≤ 13 ∧ L.length ≤ 40 ∧ Src w' g v n 200 ∧ sl.Own w' w.heap.size w'.heap.size u L ∧ Chg g (g + 1) w w' := by
  have hg := h.1
  have HO1 := hid (ownL w [2, 3, 3, 4, 1, 0, 12] #[.int .i64 2, .int .i64 3, .int .i64 3, .int .i64 4, .int .i64 1, .int .i64 0, .int .i64 12] 7 rfl (by omega) rfl)
  have b1 : Below w.heap.size w (w.alloc (.cells #[.int .i64 2, .int .i64 3, .int .i64 3, .int .i64 4, .int .i64 1, .int .i64 0, .int .i64 12] 2)) := (Below.refl _ _).alloc (Nat.le_refl _) _
  have HS1 := hid (h.chg (Chg.ofBelow (lo := w.heap.size) b1) hg)
  have HC1 : Hid (Chg g (g + 1) w (w.alloc (.cells #[.int .i64 2, .int .i64 3, .int .i64 3, .int .i64 4, .int .i64 1, .int .i64 0, .int .i64 12] 2))) := hid (chg_alloc g (g + 1) w _)
  have z1 : (w.alloc (.cells #[.int .i64 2, .int .i64 3, .int .i64 3, .int .i64 4, .int .i64 1, .int .i64 0, .int .i64 12] 2)).heap.size = w.heap.size + 1 := by simp
  clear h b1
  go_enter Try.func72, Try.ntmps72
  go_wp2_with fail
  refine (among g n 0 _ _ v _ [2, 3, 3, 4, 1, 0, 12] _ HS1.out hn (by omega) HO1.out hg (by simp) (by simp)).mono ?_
  rintro e w2 ⟨⟨N, hN, rfl⟩, s2, c2⟩
  have z2 := c2.size
  have HS2 := hid s2
  have HC2 := hid (HC1.out.trans c2)
  have hNb : 0 ≤ N ∧ N ≤ 12 := by
    simp at hN
    rcases hN with rfl | rfl | rfl | rfl | rfl | rfl <;> omega
  clear s2 c2 HS1 HO1 HC1 hN
  go_wp2_with fail
  refine (drawWord g n 2 v N w2 HS2.out hn (by omega) (by omega)).mono ?_
  rintro e w3 ⟨u, L, rfl, hL, s3, o3, c3⟩
  have z3 := c3.size
  have HS3 := hid s3
  have HO3 := hid o3
  have HC3 := hid (HC2.out.trans c3)
  clear s3 o3 c3 HS2 HC2
  go_wp2_with fail
  refine (pick g n 102 v 16 w3 HS3.out hn (by omega) (by omega)).mono ?_
  rintro e w4 ⟨r, hr, rfl, s4, c4⟩
  have z4 := c4.size
  have HS4 := hid s4
  have HO4 := hid ((HO3.out.chg c4 (by omega)).hi (hi' := w4.heap.size) (by omega) (Nat.le_refl _))
  have HC4 := hid (HC3.out.trans c4)
  clear s4 c4 HS3 HO3 HC3 hr
  by_cases r0 : r = 0
  · subst r0
    have hcs : (#[.int .i64 0, .int .i64 (N + 1), .int .i64 (-N - 1), .int .i64 (-9223372036854775808)] : Array Value).toList = [0, N + 1, -N - 1, -9223372036854775808].map (Value.int .i64) := rfl
    have HO5 := hid (ownL w4 [0, N + 1, -N - 1, -9223372036854775808] _ 4 rfl (by omega) hcs)
    have b5 : Below w4.heap.size w4 (w4.alloc (.cells #[.int .i64 0, .int .i64 (N + 1), .int .i64 (-N - 1), .int .i64 (-9223372036854775808)] 2)) := (Below.refl _ _).alloc (Nat.le_refl _) _
    have HS5 := hid (HS4.out.chg (Chg.ofBelow (lo := w4.heap.size) b5) (by omega))
    have HO6 := hid (HO4.out.chg (Chg.ofBelow (lo := w4.heap.size) b5) (by omega))
    have HC5 := hid (HC4.out.trans (chg_alloc g (g + 1) w4 (.cells #[.int .i64 0, .int .i64 (N + 1), .int .i64 (-N - 1), .int .i64 (-9223372036854775808)] 2)))
    have z5 := b5.size
    clear b5 hcs HS4 HO4 HC4
    go_wp2_with fail
    refine (among g n 104 _ _ v _ [0, N + 1, -N - 1, -9223372036854775808] _ HS5.out hn (by omega) HO5.out (by omega) (by simp) (by simp)).mono ?_
    rintro e w6 ⟨⟨y, hy, rfl⟩, s6, c6⟩
    have z6 := c6.size
    have HS6 := hid s6
    have HO7 := hid (HO6.out.chg c6 (by omega))
    have HC6 := hid (HC5.out.trans c6)
    have hz6 : w2.heap.size ≤ w6.heap.size := by omega
    clear s6 c6 HS5 HO5 HO6 HC5 hy
    go_wp2_with (at_builtin; refine wp_append rfl _ _ rfl w2.heap.size w4.heap.size _ L y HO7.out rfl rfl hz6 (by omega) ?_; intro v9 w9 o9 c9 hs9; have HO9 := hid o9; have HS9 := hid (HS6.out.chg c9 (by omega)); have HC9 := hid (chg_far HC6.out c9 (by omega)); clear o9 c9)
    go_ret2
    exact ⟨N, v9, L ++ [y], rfl, by omega, by omega, by simp; omega, HS9.out.more 94, HO9.out.lo (by omega), HC9.out⟩
  · by_cases r1 : r = 1
    · subst r1
      have HO5 := hid (ownL w4 [-1, 13] #[.int .i64 (-1), .int .i64 13] 2 rfl (by omega) rfl)
      have b5 : Below w4.heap.size w4 (w4.alloc (.cells #[.int .i64 (-1), .int .i64 13] 2)) := (Below.refl _ _).alloc (Nat.le_refl _) _
      have HS5 := hid (HS4.out.chg (Chg.ofBelow (lo := w4.heap.size) b5) (by omega))
      have HO6 := hid (HO4.out.chg (Chg.ofBelow (lo := w4.heap.size) b5) (by omega))
      have HC5 := hid (HC4.out.trans (chg_alloc g (g + 1) w4 (.cells #[.int .i64 (-1), .int .i64 13] 2)))
      have z5 := b5.size
      clear b5 HS4 HO4 HC4
      go_wp2_with fail
      refine (among g n 104 _ _ v _ [-1, 13] _ HS5.out hn (by omega) HO5.out (by omega) (by simp) (by simp)).mono ?_
      rintro e w6 ⟨⟨y, hy, rfl⟩, s6, c6⟩
      have z6 := c6.size
      have HS6 := hid s6
      have HO7 := hid (HO6.out.chg c6 (by omega))
      have HC6 := hid (HC5.out.trans c6)
      have hyb : -1 ≤ y ∧ y ≤ 13 := by
        simp at hy
        rcases hy with rfl | rfl <;> omega
      clear s6 c6 HS5 HO5 HO6 HC5 hy
      go_wp2
      go_ret2
      exact ⟨y, u, L, rfl, hyb.1, hyb.2, by omega, HS6.out.more 94, (HO7.out.hi (by omega) (Nat.le_refl _)).lo (by omega), HC6.out⟩
    · have e0 : ((r : Int) == 0) = false := by simp; omega
      have e1 : ((r : Int) == 1) = false := by simp; omega
      have e2 : decide ((r : Int) = 0) = false := by simp; omega
      have e3 : decide ((r : Int) = 1) = false := by simp; omega
      go_wp2
      go_ret2
      exact ⟨N, u, L, rfl, by omega, by omega, by omega, HS4.out.more 96, HO4.out.lo (by omega), HC4.out⟩

set_option maxRecDepth 100000 in
set_option maxHeartbeats 2000000 in
theorem freeDraw (n : Nat) (v : Value) (w : World) (h : Bytes w w.heap.size v n) (hn : n ≤ 1048576) :
    Calls Try.prog 14 #[v] w fun e w' => ∃ (N : Int) (ua ub : Value) (a b : List Int) (k : Nat), e = .returned (.tuple #[.int .i64 N, ua, ub]) ∧ -1 ≤ N ∧ N ≤ 13 ∧ a.length ≤ 40 ∧ b.length ≤ 40 ∧ sl.Own w' w.heap.size k ua a ∧ sl.Own w' k w'.heap.size ub b ∧ Below w.heap.size w w' := by
  have HB := hid h
  clear h
  go_enter Try.func14, Try.ntmps14
  go_wp2_with fail
  refine (sfrom n v w HB.out).mono ?_
  rintro e w1 ⟨rfl, s1, b1, z1⟩
  have HS1 := hid s1
  have HB1 := hid b1
  clear s1 b1 HB
  go_wp2_with fail
  refine (bent w.heap.size n v w1 HS1.out hn).mono ?_
  rintro e w2 ⟨N, ua, a, rfl, hN1, hN2, ha, s2, o2, c2⟩
  have z2 := c2.size
  have HS2 := hid s2
  have HO2 := hid o2
  have HB2 := hid (HB1.out.trans (c2.below (B := w.heap.size) (Nat.le_refl _) (by omega)))
  clear s2 o2 c2 HS1 HB1
  go_wp2_with fail
  refine (one w.heap.size n 200 v 2 w2 HS2.out hn (by omega) (by omega)).mono ?_
  rintro e w3 ⟨⟨q, rfl⟩, s3, c3⟩
  have z3 := c3.size
  have HS3 := hid s3
  have HO3 := hid (HO2.out.chg c3 (by omega))
  have HB3 := hid (HB2.out.trans (c3.below (B := w.heap.size) (Nat.le_refl _) (by omega)))
  clear s3 c3 HS2 HO2 HB2
  cases q
  · have hmm : -20 ≤ max 1 (min N 3) ∧ max 1 (min N 3) ≤ 20 := by omega
    generalize hM : max 1 (min N 3) = M at *
    have HM := hid hM
    clear hM
    go_wp2_with fail
    refine (minI N 3 w3).mono ?_
    rintro e w' ⟨rfl, rfl⟩
    go_wp2_with fail
    refine (maxI 1 (min N 3) w3).mono ?_
    rintro e w' ⟨rfl, rfl⟩
    rw [HM.out]
    go_wp2_with fail
    refine (drawWord w.heap.size n 202 v M w3 HS3.out hn (by omega) hmm).mono ?_
    rintro e w4 ⟨ub, b, rfl, hb, s4, o4, c4⟩
    have z4 := c4.size
    have HO4 := hid (HO3.out.chg c4 (by omega))
    have HOb := hid o4
    have HB4 := hid (HB3.out.trans (c4.below (B := w.heap.size) (Nat.le_refl _) (by omega)))
    clear s4 o4 c4 HO3 HB3
    go_wp2
    refine bodyPost_ret (v := .tuple #[.int .i64 N, ua, ub]) (by simp [results, Try.results14, go_sem]) rfl ⟨N, ua, ub, a, b, w3.heap.size, rfl, hN1, hN2, ha, by omega, (HO4.out.hi (by omega) (by omega)).lo (by omega), HOb.out, HB4.out⟩
  · go_wp2_with fail
    refine (specInverseW a ua w3.heap.size w3 (HO3.out.ints.mono (by omega)) (Nat.le_refl _) (by omega)).mono ?_
    rintro e w4 ⟨ub, b, rfl, hb, o4, b4⟩
    have z4 := b4.size
    have HO4 := hid (HO3.out.chg (Chg.ofBelow (lo := w3.heap.size) b4) (by omega))
    have HOb := hid o4
    have HB4 := hid (HB3.out.trans (b4.mono (by omega)))
    clear o4 b4 HO3 HB3
    go_wp2
    refine bodyPost_ret (v := .tuple #[.int .i64 N, ua, ub]) (by simp [results, Try.results14, go_sem]) rfl ⟨N, ua, ub, a, b, w3.heap.size, rfl, hN1, hN2, ha, by omega, (HO4.out.hi (by omega) (by omega)).lo (by omega), HOb.out, HB4.out⟩
end Go.Proofs.Ytjnanldaihidlaa.sf
