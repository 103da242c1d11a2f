/-
  Contracts of InvertBraid, of the program and of its model.
-/
import Derived.Test.YtedajefapddekaaEx
import Derived.Deep.RegionHeld3
import Derived.RegionTactic
namespace Go.Proofs.Ytedajefapddekaa.br
open Go.RowKit Go.Proofs.Ytedajefapddekaa.sl Go.Proofs.Ytedajefapddekaa.pm Go.Proofs.Ytedajefapddekaa.bw Go.Proofs.Ytedajefapddekaa.fn

/-! ### slices.Reverse -/
def revI (xs : List Int) (i : Nat) : List Int := (List.range xs.length).map fun p => if p < i ∨ xs.length - 1 - p < i then xs.getD (xs.length - 1 - p) 0 else xs.getD p 0
theorem revI_len (xs : List Int) (i : Nat) : (revI xs i).length = xs.length := by simp [revI]
theorem revI_at (xs : List Int) (i p : Nat) (h : p < xs.length) : (revI xs i).getD p 0 = if p < i ∨ xs.length - 1 - p < i then xs.getD (xs.length - 1 - p) 0 else xs.getD p 0 := by
  simp [revI, List.getD, h]
theorem revI_zero (xs : List Int) : revI xs 0 = xs := by
  refine list_eq_of (revI_len xs 0) fun j hj => ?_
  rw [revI_len] at hj
  rw [revI_at xs 0 j hj, if_neg (by omega)]
theorem getD_rev (xs : List Int) (j : Nat) (h : j < xs.length) : xs.reverse.getD j 0 = xs.getD (xs.length - 1 - j) 0 := by
  have h2 : xs.length - 1 - j < xs.length := by omega
  simp [List.getD, List.getElem?_eq_getElem h2, h]
theorem revI_all (xs : List Int) (i : Nat) (h : xs.length ≤ 2 * i + 1) : revI xs i = xs.reverse := by
  refine list_eq_of (by rw [revI_len]; simp) fun j hj => ?_
  rw [revI_len] at hj
  rw [revI_at xs i j hj, getD_rev xs j hj]
  by_cases h1 : j < i ∨ xs.length - 1 - j < i
  · rw [if_pos h1]
  · rw [if_neg h1]
    have : j = xs.length - 1 - j := by omega
    rw [← this]
theorem getD_set (xs : List Int) (i j : Nat) (x : Int) (h : j < xs.length) : (xs.set i x).getD j 0 = if j = i then x else xs.getD j 0 := by
  by_cases e : j = i
  · subst e; simp [List.getD, h]
  · rw [if_neg e]; simp [List.getD, show ¬ i = j from fun h => e h.symm]
theorem revI_step (xs : List Int) (i j : Nat) (hij : i < j) (hj : i + j + 1 = xs.length) : ((revI xs i).set i (xs.getD j 0)).set j (xs.getD i 0) = revI xs (i + 1) := by
  refine list_eq_of (by simp [revI_len]) fun p hp => ?_
  simp only [List.length_set, revI_len] at hp
  rw [getD_set _ _ _ _ (by simp [revI_len]; exact hp), getD_set _ _ _ _ (by rw [revI_len]; exact hp), revI_at xs i p hp, revI_at xs (i + 1) p hp]
  by_cases h1 : p = j
  · subst h1
    rw [if_pos rfl, if_pos (by omega)]
    congr 1; omega
  · rw [if_neg h1]
    by_cases h2 : p = i
    · subst h2
      rw [if_pos rfl, if_pos (by omega)]
      congr 1; omega
    · rw [if_neg h2]
      by_cases h3 : p < i ∨ xs.length - 1 - p < i
      · rw [if_pos h3, if_pos (by omega)]
      · rw [if_neg h3, if_neg (by omega)]

theorem revWorld {w : World} {lo hi g n cap : Nat} {xs : List Int} (o : Own w lo hi (.slice (some ⟨g, 0, none⟩) n cap) xs) (i j : Nat) (a b : Int) :
    Own ((w.setCell ⟨g, i, none⟩ (.int .i64 a)).setCell ⟨g, j, none⟩ (.int .i64 b)) lo hi (.slice (some ⟨g, 0, none⟩) n cap) ((xs.set i a).set j b) ∧
    Chg lo hi w ((w.setCell ⟨g, i, none⟩ (.int .i64 a)).setCell ⟨g, j, none⟩ (.int .i64 b)) := by
  have h1 := o.set i a
  have h2 := h1.1.set j b
  exact ⟨h2.1, h1.2.trans h2.2⟩

set_option maxHeartbeats 800000 in
theorem reverse (xs : List Int) (v : Value) (lo hi : Nat) (w : World) (o : Own w lo hi v xs) (hn : xs.length ≤ 1099511627776) :
    Calls Try.prog 135 #[v] w fun e w' => e = .returned (.tuple #[]) ∧ Own w' lo hi v xs.reverse ∧ Chg lo hi w w' := by
  by_cases hp : xs = []
  · subst hp
    obtain ⟨ao, cap, rfl⟩ := own_val o
    have HO := hid o
    clear o
    go_enter Try.func135, Try.ntmps135
    go_wp2
    refine wp_loop_rounds 1 ?_
    rw [rounds_succ]
    go_wp2
    go_end0
    exact ⟨rfl, HO.out, Chg.refl _ _ _⟩
  · have hp' : 0 < xs.length := List.length_pos_iff.2 hp
    obtain ⟨g, cap, rfl⟩ : ∃ g cap, v = .slice (some ⟨g, 0, none⟩) xs.length cap := by
      rcases o.1.2 with ⟨_, h0⟩ | ⟨g, cap, cur, rfl, _⟩
      · omega
      · exact ⟨_, _, rfl⟩
    obtain ⟨n, hnn⟩ : ∃ n, n = xs.length := ⟨_, rfl⟩
    rw [← hnn] at o hn hp' ⊢
    have HN := hid hnn
    have HO0 := hid o
    clear hnn o hp
    go_enter Try.func135, Try.ntmps135
    go_wp2
    go_loopw [2, 3] (fun iv jv wr => ∃ i j : Nat, i + j + 1 = n ∧ iv = .int .i64 i ∧ jv = .int .i64 j ∧ Own wr lo hi (.slice (some ⟨g, 0, none⟩) n cap) (revI xs i) ∧ Chg lo hi w wr) (fun iv jv _ => (intOf jv - intOf iv + 2).toNat)
    case atStart => exact ⟨0, n - 1, by omega, rfl, by congr 1; omega, by rw [revI_zero]; exact HO0.out, Chg.refl _ _ _⟩
    case round =>
      obtain ⟨i, j, hij, rfl, rfl, ho, hc⟩ := hrel
      have HO := hid ho
      have HC := hid hc
      clear ho hc HO0
      by_cases hlt : i < j
      · have li : i < (revI xs i).length := by rw [revI_len, ← HN.out]; omega
        have lj : j < (revI xs i).length := by rw [revI_len, ← HN.out]; omega
        have hi1 := (HO.out.at' i li).1
        have hj1 := (HO.out.at' j lj).1
        have fi := (HO.out.at' i li).2
        have fj := (HO.out.at' j lj).2
        rw [revI_at xs i i (by rw [← HN.out]; omega), if_neg (by rw [← HN.out]; omega)] at hi1
        rw [revI_at xs i j (by rw [← HN.out]; omega), if_neg (by rw [← HN.out]; omega)] at hj1
        have HS := hid (revI_step xs i j hlt (by rw [← HN.out]; exact hij))
        have HW := hid (revWorld HO.out i j (xs.getD j 0) (xs.getD i 0))
        rw [HS.out] at HW
        generalize xs.getD i 0 = x at *
        generalize xs.getD j 0 = y at *
        clear li lj HO
        by_cases hj0 : j = 0
        · omega
        · obtain ⟨j', rfl⟩ : ∃ j', j = j' + 1 := ⟨j - 1, by omega⟩
          go_wp2
          go_region
          all_goals (try go_wp2)
          go_roundw
          case rel => exact ⟨i + 1, j', by omega, by go_num, by go_num, HW.out.1.drewN 1, HC.out.trans (HW.out.2.drewN 1)⟩
          case measure => simp [intOf]; omega
      · have HS := hid (revI_all xs i (by rw [← HN.out]; omega))
        rw [HS.out] at HO
        go_wp2
        go_end0
        exact ⟨rfl, HO.out, HC.out⟩

theorem specOkA2 (s : Int) (xs : List Int) (v : Value) (B : Nat) (w : World) (o : Obj) (ha : Ints w B v xs) (hn : xs.length ≤ 1099511627776) :
    Calls Try.prog 65 #[.pointer (some ⟨w.heap.size, 0, none⟩)] ((w.alloc (.cells #[.int .i64 s, v] 39)).alloc o) fun e w' => e = .returned (.bool (okB s xs)) ∧ ∃ q, w' = ((w.alloc (.cells #[.int .i64 s, v] 39)).alloc o).drewN q :=
  specOkP s xs v B w.heap.size _ (ints_al (ints_al ha _) _) hn (two_old _ _ _ _ _) (two_old _ _ _ _ _)

/-- The word of an answer: nothing where the braid is not valid. -/
def wordOk (s : Int) (xs ys : List Int) : List Int := if okB s xs = true then ys else []
def strOk (s : Int) (xs : List Int) : Int := if okB s xs = true then s else 0
theorem wordOk_yes {s : Int} {xs ys : List Int} (h : okB s xs = true) : wordOk s xs ys = ys := by rw [wordOk, if_pos h]
theorem wordOk_no {s : Int} {xs ys : List Int} (h : okB s xs = false) : wordOk s xs ys = [] := by rw [wordOk, if_neg (by rw [h]; simp)]
theorem strOk_yes {s : Int} {xs : List Int} (h : okB s xs = true) : strOk s xs = s := by rw [strOk, if_pos h]
theorem strOk_no {s : Int} {xs : List Int} (h : okB s xs = false) : strOk s xs = 0 := by rw [strOk, if_neg (by rw [h]; simp)]
def invW (s : Int) (xs : List Int) : List Int := wordOk s xs (xs.reverse.map fun x => -x)
theorem invW_len (s : Int) (xs : List Int) : (invW s xs).length ≤ 1000 := by
  cases h : okB s xs
  · rw [invW, wordOk_no h]; simp
  · rw [invW, wordOk_yes h]; have := (ok_parts h).2.2.1; simp; omega

theorem specInverse (xs : List Int) (v : Value) (B : Nat) (w : World) (ha : Ints w B v xs) (hB : B ≤ w.heap.size) (hn : xs.length ≤ 1099511627776) (hb : ∀ j, j < xs.length → -100 ≤ xs.getD j 0 ∧ xs.getD j 0 ≤ 100) :
    Calls Try.prog 120 #[v] w fun e w' => ∃ v', e = .returned v' ∧ Own w' w.heap.size w'.heap.size v' (xs.reverse.map fun x => -x) ∧ Below w.heap.size w w' := by
  rcases ha with ⟨rfl, ao, cap, rfl⟩ | ⟨hp, b, off, cap, rfl, hbb, hc⟩
  · go_enter Try.func120, Try.ntmps120
    go_wp2
    refine wp_loop_rounds 1 ?_
    rw [rounds_succ]
    go_wp2
    go_ret
    exact ⟨_, rfl, Own.built w _ rfl, (Below.refl _ _).alloc (Nat.le_refl _) _⟩
  · obtain ⟨n, hnn⟩ : ∃ n, n = xs.length := ⟨_, rfl⟩
    rw [← hnn] at hp hc hn hb ⊢
    have HN := hid hnn
    have HC := hid hc
    have HBd := hid hb
    clear hnn hc hb
    go_enter Try.func120, Try.ntmps120
    go_wp2
    go_loopw [3, 4] (fun v i wr => ∃ k : Nat, k ≤ n ∧ i = .int .i64 ((n : Int) - 1 - k) ∧ Own wr w.heap.size wr.heap.size v (backTo (fun x => -x) xs k) ∧ Below w.heap.size w wr)
      (fun _ i _ => (intOf i + 1).toNat)
    case atStart => exact ⟨0, Nat.zero_le _, by congr 1; omega, by rw [backTo_zero]; exact Own.built w _ rfl, (Below.refl _ _).alloc (Nat.le_refl _) _⟩
    case round =>
      obtain ⟨k, hk, rfl, hown, hbel⟩ := hrel
      have HO := hid hown
      have HB := hid hbel
      have hsz := hbel.size
      clear hown hbel
      by_cases hlt : k < n
      · obtain ⟨q, hq⟩ : ∃ q : Nat, q + k + 1 = n := ⟨n - 1 - k, by omega⟩
        have e1 : (n : Int) - 1 - k = (q : Int) := by omega
        have HE := hid e1
        have HX : Hid (backTo (fun x => -x) xs (k + 1) = backTo (fun x => -x) xs k ++ [-(xs.getD q 0)]) := hid (by
          have e2 : xs.length - 1 - k = q := by rw [← HN.out]; omega
          rw [backTo_succ _ xs k (by rw [← HN.out]; exact hlt), e2])
        have hbx := HBd.out q (by omega)
        have h1 : wr.cell? ⟨b, off + q, none⟩ = some (.int .i64 (xs.getD q 0)) := (HB.out.cell (p := ⟨b, off + q, none⟩) (by show b < _; omega)).trans (HC.out q (by omega))
        generalize xs.getD q 0 = x at *
        rw [e1]
        clear e1
        go_wp2_with (at_builtin; refine wp_append rfl _ _ rfl w.heap.size wr.heap.size _ (backTo (fun x => -x) xs k) (-x) HO.out rfl rfl hsz (by rw [backTo_len _ xs k (by rw [← HN.out]; omega)]; omega) ?_; intro v' w1 hown1 hchg1 hsz1)
        have HO1 := hid hown1
        have HB1 := hid (HB.out.trans (hchg1.below (Nat.le_refl _) hsz))
        clear hown1 hchg1
        go_wp2
        go_roundw
        case rel => exact ⟨k + 1, by omega, by (try congr 1); (try omega), by rw [HX.out]; exact HO1.out, HB1.out⟩
        case measure => (try simp [intOf]); (try omega)
      · obtain rfl : k = n := by omega
        have e1 : (k : Int) - 1 - k = -1 := by omega
        rw [e1]
        clear e1
        have HS : Hid (backTo (fun x => -x) xs k = xs.reverse.map fun x => -x) := hid (by rw [HN.out]; exact backTo_all _ xs)
        go_wp2
        go_ret
        exact ⟨_, rfl, by rw [← HS.out]; exact HO.out, HB.out⟩

theorem ok_small {s : Int} {xs : List Int} (h : okB s xs = true) : ∀ j, j < xs.length → -100 ≤ xs.getD j 0 ∧ xs.getD j 0 ≤ 100 := by
  obtain ⟨h0, h1, _, h3⟩ := ok_parts h
  intro j hj
  have := h3 j hj
  omega

theorem implOpp (x : Int) (h : -100 ≤ x ∧ x ≤ 100) (w : World) : Calls Try.prog 134 #[.int .i64 x] w fun e w' => e = .returned (.int .i64 (-x)) ∧ Below w.heap.size w w' := by
  obtain ⟨h0, h1⟩ := h
  go_enter Try.func134, Try.ntmps134
  go_wp2
  go_ret
  exact ⟨rfl, Below.refl _ _⟩

theorem map_rev (xs : List Int) : (xs.map fun x => -x).reverse = xs.reverse.map fun x => -x := by rw [List.map_reverse]

set_option maxHeartbeats 800000 in
theorem implInverted (s : Int) (xs : List Int) (v : Value) (B : Nat) (w : World) (ha : Ints w B v xs) (hB : B ≤ w.heap.size) (hn : xs.length ≤ 1099511627776) (hk : ∀ j, j < xs.length → -100 ≤ xs.getD j 0 ∧ xs.getD j 0 ≤ 100) :
    Calls Try.prog 122 #[.agg #[.int .i64 s, v]] w fun e w' => ∃ ao cap, e = .returned (.agg #[.int .i64 s, .slice ao xs.length cap]) ∧ Own w' w.heap.size w'.heap.size (.slice ao xs.length cap) (xs.reverse.map fun x => -x) ∧ Below w.heap.size w w' := by
  obtain ⟨ao, cap, hv⟩ := ints_val ha
  obtain ⟨n, hnn⟩ : ∃ n, n = xs.length := ⟨_, rfl⟩
  rw [← hnn] at hv
  subst hv
  have HA := hid ha
  have HN := hid hnn
  have HK := hid hk
  have HL2 : Hid ((xs.map fun x => -x).length ≤ 1099511627776) := hid (by simpa using hn)
  rw [← HN.out]
  clear ha hnn hk
  go_enter Try.func122, Try.ntmps122
  go_wp2_with fail
  refine (mapped0 (fun x => -x) 134 s xs _ B _ (ints_al (ints_al HA.out _) _) (by simp; omega) hn (enters_of Try.func134 (by kernel_rfl) rfl) (fun j hj W => implOpp _ (HK.out j hj) W)).mono ?_
  rintro e w2 ⟨ao2, cap2, rfl, o2, b2⟩
  have HB1 := hid (box2 b2)
  have hz2 := HB1.out.2.2.2
  have r0 := (HB1.out.2.1 0).1
  have r1 := (HB1.out.2.1 1).1
  have f0 := (HB1.out.2.1 0).2
  have f1 := (HB1.out.2.1 1).2
  simp at r0 r1
  have HO2 : Hid (Own w2 (w.heap.size + 2) w2.heap.size (.slice ao2 xs.length cap2) (xs.map fun x => -x)) := hid (o2.lo (by simp))
  have HB2 := hid HB1.out.2.2.1
  clear b2 o2 HA HB1
  rw [← HN.out] at HO2 ⊢
  go_wp2_with fail
  refine (reverse (xs.map fun x => -x) _ (w.heap.size + 2) w2.heap.size _ (own_al HO2.out _) HL2.out).mono ?_
  rintro e w3 ⟨rfl, o3, c3⟩
  have hz3 := c3.size
  simp at hz3
  have q0 : w3.cell? ⟨w2.heap.size, 0, none⟩ = some (.int .i64 s) := (World.cell?_of_block (w' := w3) (a := ⟨w2.heap.size, 0, none⟩) (c3.block w2.heap.size (by simp) (by omega))).trans (World.cell?_alloc_at _ _ _ _ rfl)
  have q1 : w3.cell? ⟨w2.heap.size, 1, none⟩ = some (.slice ao2 n cap2) := (World.cell?_of_block (w' := w3) (a := ⟨w2.heap.size, 1, none⟩) (c3.block w2.heap.size (by simp) (by omega))).trans (World.cell?_alloc_at _ _ _ _ rfl)
  have HB3 := hid (((HB2.out.alloc (by omega) (.cells #[.int .i64 s, .slice ao2 n cap2] 39))).trans (c3.below (B := w.heap.size) (by omega) (by simp; omega)))
  have k3 : Below (w.heap.size + 2) w2 w3 := ((Below.refl (w.heap.size + 2) w2).alloc (by omega) (.cells #[.int .i64 s, .slice ao2 n cap2] 39)).trans (c3.below (B := w.heap.size + 2) (by omega) (by simp; omega))
  have s0 := (k3.cell (p := ⟨w.heap.size + 1, 0, none⟩) (by show w.heap.size + 1 < w.heap.size + 2; omega)).trans r0
  have s1 := (k3.cell (p := ⟨w.heap.size + 1, 1, none⟩) (by show w.heap.size + 1 < w.heap.size + 2; omega)).trans r1
  have p0 := (k3.frozen (p := ⟨w.heap.size + 1, 0, none⟩) (by show w.heap.size + 1 < w.heap.size + 2; omega)).trans f0
  have p1 := (k3.frozen (p := ⟨w.heap.size + 1, 1, none⟩) (by show w.heap.size + 1 < w.heap.size + 2; omega)).trans f1
  have HO3 := hid o3
  clear c3 o3 k3 r0 r1 f0 f1 HO2 HB2
  go_wp2
  refine bodyPost_ret (v := .agg #[.int .i64 s, .slice ao2 n cap2]) (by simp [results, Try.results122, go_sem, s0, s1]) rfl ⟨ao2, cap2, rfl, ?_, ?_⟩
  · have h := own_other (own_other HO3.out (w.heap.size + 1) 0 (.int .i64 s) (by omega)) (w.heap.size + 1) 1 (.slice ao2 n cap2) (by omega)
    have h2 := (h.lo (lo' := w.heap.size) (by omega)).hi (hi' := w3.heap.size) (by omega) (by simp)
    rw [map_rev] at h2
    simpa using h2
  · exact (HB3.out.setCell (by simp) _).setCell (by simp) _

end Go.Proofs.Ytedajefapddekaa.br
