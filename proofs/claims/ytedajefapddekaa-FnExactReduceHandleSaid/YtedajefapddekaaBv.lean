/-
  Valid braids: contracts of both tests, and of both comparisons.
-/
import Derived.Test.YtedajefapddekaaBr
import Derived.Shelf.Abstract
namespace Go.Proofs.Ytedajefapddekaa.br
open Go.RowKit Go.Proofs.Ytedajefapddekaa.sl Go.Proofs.Ytedajefapddekaa.pm Go.Proofs.Ytedajefapddekaa.bw

theorem specLetters (s : Int) (xs : List Int) (v : Value) (B : Nat) (w : World) (ha : Ints w B v xs) (hn : xs.length ≤ 1099511627776) (hs : 0 ≤ s ∧ s ≤ 12) :
    Calls Try.prog 100 #[v, .int .i64 s] w fun e w' => e = .returned (.bool (xs.all (letB s))) ∧ w = w' := by
  obtain ⟨hs0, hs1⟩ := hs
  rcases ha with ⟨rfl, ao, cap, rfl⟩ | ⟨hp, b, off, cap, rfl, hb, hc⟩
  · go_enter Try.func100, Try.ntmps100
    go_wp2
    refine wp_loop_rounds 1 ?_
    rw [rounds_succ]
    go_wp2
    go_ret
    exact ⟨rfl, rfl⟩
  · obtain ⟨n, hnn⟩ : ∃ n, n = xs.length := ⟨_, rfl⟩
    rw [← hnn] at hp hc hn ⊢
    have HN := hid hnn
    have HC := hid hc
    clear hnn hc
    go_enter Try.func100, Try.ntmps100
    go_wp2
    go_loop [5] (fun i => ∃ k : Nat, k ≤ n ∧ i = .int .i64 k ∧ ∀ j, j < k → letB s (xs.getD j 0) = true) (fun i => n - (intOf i).toNat)
    case atStart => exact ⟨0, Nat.zero_le _, rfl, fun j hj => by omega⟩
    case round =>
      obtain ⟨k, hk, rfl, hg⟩ := hrel
      have HG := hid hg
      clear hg
      by_cases hlt : k < n
      · have h1 := HC.out k hlt
        obtain ⟨x, hx⟩ : ∃ x, x = xs.getD k 0 := ⟨_, rfl⟩
        rw [← hx] at h1
        have HX := hid hx
        clear hx
        by_cases h0 : x = 0
        · subst h0
          have HF : Hid (xs.all (letB s) = false) := hid (all_bad k (by rw [← HN.out]; exact hlt) (by rw [← HX.out]; simp [letB]))
          go_wp2
          go_ret
          exact ⟨by rw [HF.out]; rfl, rfl⟩
        · have hd : (x == 0) = false := by simpa using h0
          by_cases hr : 1 - s ≤ x ∧ x ≤ s - 1
          · have hr' : decide (1 - s ≤ x ∧ x ≤ s - 1) = true := by simpa using hr
            have HL : Hid (letB s (xs.getD k 0) = true) := hid (by rw [← HX.out]; simp [letB, h0, hr])
            clear hr h0
            go_wp2_with (go_at_call 53; refine (specIn _ _ _ _).mono ?_; rintro e w' ⟨rfl, rfl⟩)
            go_round
            case rel => exact ⟨k + 1, by omega, by go_num, fun j hj => by
              rcases Nat.lt_or_ge j k with h | h
              · exact HG.out j h
              · obtain rfl : j = k := by omega
                exact HL.out⟩
            case measure => simp [intOf]; omega
          · have hr' : decide (1 - s ≤ x ∧ x ≤ s - 1) = false := by simpa using hr
            have HF : Hid (xs.all (letB s) = false) := hid (all_bad k (by rw [← HN.out]; exact hlt) (by rw [← HX.out]; simp only [letB, decide_eq_false_iff_not]; rintro ⟨_, h⟩; exact hr h))
            clear hr h0
            go_wp2_with (go_at_call 53; refine (specIn _ _ _ _).mono ?_; rintro e w' ⟨rfl, rfl⟩)
            go_ret
            exact ⟨by rw [HF.out]; rfl, rfl⟩
      · obtain rfl : k = n := by omega
        have HF : Hid (xs.all (letB s) = true) := hid (all_good (fun j hj => HG.out j (by rw [HN.out]; exact hj)))
        go_wp2
        go_ret
        exact ⟨by rw [HF.out]; rfl, rfl⟩

theorem quiet_in (c lo hi : Int) (q : Bool) (hq : decide (lo ≤ c ∧ c ≤ hi) = q) (w : World) : Calls Try.prog 53 #[.int .i64 c, .int .i64 lo, .int .i64 hi] w fun e w' => e = .returned (.bool q) ∧ w' = w :=
  (specIn c lo hi w).mono fun _ _ h => ⟨by rw [h.1, hq], h.2.symm⟩
theorem quiet_letters (s : Int) (xs : List Int) (q : Bool) (hq : xs.all (letB s) = q) (v : Value) (B : Nat) (w : World) (ha : Ints w B v xs) (hn : xs.length ≤ 1099511627776) (hs : 0 ≤ s ∧ s ≤ 12) :
    Calls Try.prog 100 #[v, .int .i64 s] w fun e w' => e = .returned (.bool q) ∧ w' = w :=
  (specLetters s xs v B w ha hn hs).mono fun _ _ h => ⟨by rw [h.1, hq], h.2.symm⟩

set_option maxHeartbeats 400000 in
theorem specOkP (s : Int) (xs : List Int) (v : Value) (B b : Nat) (w : World) (ha : Ints w B v xs) (hn : xs.length ≤ 1099511627776) (h0 : w.cell? ⟨b, 0, none⟩ = some (.int .i64 s)) (h1 : w.cell? ⟨b, 1, none⟩ = some v) :
    Calls Try.prog 65 #[.pointer (some ⟨b, 0, none⟩)] w fun e w' => e = .returned (.bool (okB s xs)) ∧ ∃ q, w' = w.drewN q := by
  obtain ⟨ao, cap, hv⟩ := ints_val ha
  obtain ⟨n, hnn⟩ : ∃ n, n = xs.length := ⟨_, rfl⟩
  rw [← hnn] at hv hn
  subst hv
  have HN := hid hnn
  clear hnn
  have HA := hid ha
  clear ha
  by_cases hs : 0 ≤ s ∧ s ≤ 12
  · have hd : decide (0 ≤ s ∧ s ≤ 12) = true := by simpa using hs
    have HD := hid (fun W => quiet_in s 0 12 true hd W)
    clear hd
    by_cases hl : n ≤ 40
    · have hl1 : decide ((n : Int) ≤ 40) = true := by simp; omega
      have HF := hid (ok_all hs (by rw [← HN.out]; exact hl) : okB s xs = _)
      obtain ⟨q, hq⟩ : ∃ q, q = xs.all (letB s) := ⟨_, rfl⟩
      rw [← hq] at HF
      have HL : Hid (∀ W : World, Ints W B (.slice ao n cap) xs → Calls Try.prog 100 #[.slice ao n cap, .int .i64 s] W fun e w' => e = .returned (.bool q) ∧ w' = W) := hid (fun W hW => quiet_letters s xs q hq.symm _ B W hW (by rw [← HN.out]; omega) hs)
      clear hs hq
      go_enter Try.func65, Try.ntmps65
      go_wp2
      go_quiet ((first | (go_at_call 53; exact Calls.quiet_of_same (HD.out _)) | (go_at_call 100; exact Calls.quiet_of_same (HL.out _ HA.out))))
      go_wp2
      go_ret
      exact ⟨by rw [HF.out]; rfl, _, rfl⟩
    · have hl1 : decide ((n : Int) ≤ 40) = false := by simp; omega
      have HF : Hid (okB s xs = false) := hid (ok_long (by rw [← HN.out]; omega))
      clear hs
      go_enter Try.func65, Try.ntmps65
      go_wp2
      go_quiet ((go_at_call 53; exact Calls.quiet_of_same (HD.out _)))
      go_wp2
      go_ret
      exact ⟨by rw [HF.out]; rfl, _, rfl⟩
  · have hd : decide (0 ≤ s ∧ s ≤ 12) = false := by simpa using hs
    have HD := hid (fun W => quiet_in s 0 12 false hd W)
    clear hd
    have HF : Hid (okB s xs = false) := hid (ok_strands hs)
    clear hs
    go_enter Try.func65, Try.ntmps65
    go_wp2
    go_quiet ((go_at_call 53; exact Calls.quiet_of_same (HD.out _)))
    go_wp2
    go_ret
    exact ⟨by rw [HF.out]; rfl, _, rfl⟩

theorem specOkA (s : Int) (xs : List Int) (v : Value) (B : Nat) (w : World) (ha : Ints w B v xs) (hn : xs.length ≤ 1099511627776) :
    Calls Try.prog 65 #[.pointer (some ⟨w.heap.size, 0, none⟩)] (w.alloc (.cells #[.int .i64 s, v] 39)) fun e w' => e = .returned (.bool (okB s xs)) ∧ ∃ q, w' = (w.alloc (.cells #[.int .i64 s, v] 39)).drewN q :=
  specOkP s xs v B w.heap.size _ (ints_al ha _) hn (World.cell?_alloc_at _ _ _ _ rfl) (World.cell?_alloc_at _ _ _ _ rfl)

/-- The program's test of a letter of so many generators. -/
theorem implIsLetter (x n : Int) (w : World) (hn : -100 ≤ n ∧ n ≤ 100) :
    Calls Try.prog 129 #[.int .i64 x, .int .i64 n] w fun e w' => e = .returned (.bool (decide (1 ≤ x ∧ x ≤ n) || decide (-n ≤ x ∧ x ≤ -1))) ∧ w = w' := by
  have hw : IntKind.i64.wrap (-n) = -n := IntWalk.i64_in _ (by omega)
  by_cases h1 : 1 ≤ x ∧ x ≤ n
  · have hd : decide (1 ≤ x ∧ x ≤ n) = true := by simpa using h1
    rw [hd, Bool.true_or]
    clear h1
    go_enter Try.func129, Try.ntmps129
    go_wp2_with (go_at_call 60; refine (within64 _ _ _ _).mono ?_; rintro e w' ⟨rfl, rfl⟩)
    go_ret
    exact ⟨rfl, rfl⟩
  · have hd : decide (1 ≤ x ∧ x ≤ n) = false := by simpa using h1
    rw [hd, Bool.false_or]
    clear h1
    by_cases h2 : -n ≤ x ∧ x ≤ -1
    · have hd2 : decide (-n ≤ x ∧ x ≤ -1) = true := by simpa using h2
      rw [hd2]
      clear h2
      go_enter Try.func129, Try.ntmps129
      go_wp2_with (go_at_call 60; refine (within64 _ _ _ _).mono ?_; rintro e w' ⟨rfl, rfl⟩)
      go_ret
      exact ⟨rfl, rfl⟩
    · have hd2 : decide (-n ≤ x ∧ x ≤ -1) = false := by simpa using h2
      rw [hd2]
      clear h2
      go_enter Try.func129, Try.ntmps129
      go_wp2_with (go_at_call 60; refine (within64 _ _ _ _).mono ?_; rintro e w' ⟨rfl, rfl⟩)
      go_ret
      exact ⟨rfl, rfl⟩

/-- The program's test of a letter. -/
theorem implLacks (s x : Int) (v : Value) (w : World) (hv : ∃ ao n cap, v = .slice ao n cap) (hs : 0 ≤ s ∧ s ≤ 12) :
    Calls Try.prog 103 #[.agg #[.int .i64 s, v], .int .i64 x] w fun e w' => e = .returned (.bool (!letB s x)) ∧ Below w.heap.size w w' := by
  obtain ⟨ao, n, cap, rfl⟩ := hv
  have hw : IntKind.i64.wrap (s - 1) = s - 1 := IntWalk.i64_in _ (by omega)
  have HF : Hid (letB s x = (decide (1 ≤ x ∧ x ≤ s - 1) || decide (-(s - 1) ≤ x ∧ x ≤ -1))) := hid (by
    rw [letB, ← Bool.decide_or]
    apply decide_eq_decide.2
    omega)
  have HL := hid (fun W : World => implIsLetter x (s - 1) W (by omega))
  generalize (decide (1 ≤ x ∧ x ≤ s - 1) || decide (-(s - 1) ≤ x ∧ x ≤ -1)) = q at *
  go_enter Try.func103, Try.ntmps103
  go_wp2_with (go_at_call 129; refine (HL.out _).mono ?_; rintro e w' ⟨rfl, rfl⟩)
  go_ret
  exact ⟨by rw [HF.out]; rfl, (Below.refl w.heap.size w).alloc (Nat.le_refl _) _⟩

/-- The first place at which p holds. -/
def idxOf (p : Int → Bool) (xs : List Int) : Int := if xs.any p = true then ((xs.findIdx p : Nat) : Int) else -1
theorem idx_no (p : Int → Bool) (xs : List Int) (h : ∀ j, j < xs.length → p (xs.getD j 0) = false) : xs.any p = false ∧ idxOf p xs = -1 := by
  have h1 : xs.any p = false := by
    rw [List.any_eq_false]
    intro x hx
    obtain ⟨j, hj, rfl⟩ := List.getElem_of_mem hx
    have := h j hj
    rw [show xs.getD j 0 = xs[j] from by simp [List.getD, List.getElem?_eq_getElem hj]] at this
    simp [this]
  exact ⟨h1, by rw [idxOf, h1]; rfl⟩
theorem idx_yes (p : Int → Bool) (xs : List Int) (k : Nat) (hk : k < xs.length) (h : ∀ j, j < k → p (xs.getD j 0) = false) (hp : p (xs.getD k 0) = true) : xs.any p = true ∧ idxOf p xs = (k : Int) := by
  have ek : xs.getD k 0 = xs[k] := by simp [List.getD, List.getElem?_eq_getElem hk]
  have h1 : xs.any p = true := by
    rw [List.any_eq_true]
    exact ⟨xs[k], List.getElem_mem hk, by rw [← ek]; exact hp⟩
  refine ⟨h1, ?_⟩
  rw [idxOf, if_pos h1, (List.findIdx_eq hk).2 ⟨by rw [← ek]; exact hp, fun j hj => ?_⟩]
  have := h j hj
  rwa [show xs.getD j 0 = xs[j] from by simp [List.getD, List.getElem?_eq_getElem (show j < xs.length by omega)]] at this

/-- slices.IndexFunc at a method value. -/
theorem idxFunc (p : Int → Bool) (g : Nat) (bd : Value) (xs : List Int) (v : Value) (B : Nat) (w : World) (ha : Ints w B v xs) (hB : B ≤ w.heap.size) (hn : xs.length ≤ 1099511627776)
    (eg : ∀ args w, (callFunc g args).run Try.prog w = .ok (.enter g args) w) (hp : ∀ (x : Int) (W : World), Calls Try.prog g #[bd, .int .i64 x] W fun e w' => e = .returned (.bool (p x)) ∧ Below W.heap.size W w') :
    Calls Try.prog 128 #[v, .func (.func g) #[bd] #[]] w fun e w' => e = .returned (.int .i64 (idxOf p xs)) ∧ Below w.heap.size w w' := by
  have HP := hid hp
  clear hp
  rcases ha with ⟨rfl, ao, cap, rfl⟩ | ⟨hp, b, off, cap, rfl, hb, hc⟩
  · have HF : Hid (idxOf p [] = -1) := hid rfl
    go_enter Try.func128, Try.ntmps128
    go_wp2
    refine wp_loop_rounds 1 ?_
    rw [rounds_succ]
    go_wp2
    go_ret
    exact ⟨by rw [HF.out]; rfl, Below.refl _ _⟩
  · obtain ⟨n, hnn⟩ : ∃ n, n = xs.length := ⟨_, rfl⟩
    rw [← hnn] at hp hc hn ⊢
    have HN := hid hnn
    have HC := hid hc
    clear hnn hc
    go_enter Try.func128, Try.ntmps128
    go_wp2
    go_loopw [8] (fun i wr => ∃ k : Nat, k ≤ n ∧ i = .int .i64 k ∧ (∀ j, j < k → p (xs.getD j 0) = false) ∧ Below w.heap.size w wr) (fun i _ => n - (intOf i).toNat)
    case atStart => exact ⟨0, Nat.zero_le _, rfl, fun j hj => by omega, Below.refl _ _⟩
    case round =>
      obtain ⟨k, hk, rfl, hg, hbel⟩ := hrel
      have HG := hid hg
      have HB := hid hbel
      clear hg hbel
      by_cases hlt : k < n
      · have h1 : wr.cell? ⟨b, off + k, none⟩ = some (.int .i64 (xs.getD k 0)) := (HB.out.cell (p := ⟨b, off + k, none⟩) (by show b < _; omega)).trans (HC.out k hlt)
        obtain ⟨x, hx⟩ : ∃ x, x = xs.getD k 0 := ⟨_, rfl⟩
        rw [← hx] at h1
        have HX := hid hx
        clear hx
        go_wp2_with fail
        refine (HP.out x wr).mono ?_
        rintro e w1 ⟨rfl, b1⟩
        have HB1 := hid (HB.out.trans (b1.mono HB.out.size))
        clear b1
        obtain ⟨q, hq⟩ : ∃ q, q = p x := ⟨_, rfl⟩
        rw [← hq]
        have HQ := hid hq
        clear hq
        cases q
        · go_wp2
          go_roundw
          case rel => exact ⟨k + 1, by omega, by go_num, fun j hj => by
            rcases Nat.lt_or_ge j k with h | h
            · exact HG.out j h
            · obtain rfl : j = k := by omega
              rw [← HX.out, ← HQ.out], HB1.out⟩
          case measure => simp [intOf]; omega
        · have HF := hid (idx_yes p xs k (by rw [← HN.out]; exact hlt) HG.out (by rw [← HX.out, ← HQ.out])).2
          go_wp2
          go_ret
          exact ⟨by rw [HF.out]; rfl, HB1.out⟩
      · obtain rfl : k = n := by omega
        have HF := hid (idx_no p xs (fun j hj => HG.out j (by rw [HN.out]; exact hj))).2
        go_wp2
        go_ret
        exact ⟨by rw [HF.out]; rfl, HB.out⟩

theorem idx_sign (p : Int → Bool) (xs : List Int) (h : xs.length ≤ 1099511627776) : decide (0 ≤ idxOf p xs) = xs.any p ∧ -1 ≤ idxOf p xs ∧ idxOf p xs ≤ 1099511627776 := by
  unfold idxOf
  by_cases h1 : xs.any p = true
  · rw [if_pos h1, h1]
    have := List.findIdx_le_length (p := p) (xs := xs)
    exact ⟨by simp, by omega, by omega⟩
  · rw [if_neg h1]
    have h2 : xs.any p = false := by simpa using h1
    rw [h2]
    exact ⟨by simp, by omega, by omega⟩
/-- slices.ContainsFunc at a method value. -/
theorem contFunc (p : Int → Bool) (g : Nat) (bd : Value) (xs : List Int) (v : Value) (B : Nat) (w : World) (ha : Ints w B v xs) (hB : B ≤ w.heap.size) (hn : xs.length ≤ 1099511627776)
    (eg : ∀ args w, (callFunc g args).run Try.prog w = .ok (.enter g args) w) (hp : ∀ (x : Int) (W : World), Calls Try.prog g #[bd, .int .i64 x] W fun e w' => e = .returned (.bool (p x)) ∧ Below W.heap.size W w') :
    Calls Try.prog 102 #[v, .func (.func g) #[bd] #[]] w fun e w' => e = .returned (.bool (xs.any p)) ∧ Below w.heap.size w w' := by
  have H := hid (idxFunc p g bd xs v B w ha hB hn eg hp)
  have hi := idx_sign p xs hn
  obtain ⟨q, hq⟩ : ∃ q, q = xs.any p := ⟨_, rfl⟩
  rw [← hq] at hi ⊢
  obtain ⟨ao, cap, hv⟩ := ints_val ha
  generalize xs.length = n at *
  subst hv
  clear ha hp eg hq
  generalize idxOf p xs = z at *
  obtain ⟨h1, h2, h3⟩ := hi
  have HQ := hid h1
  clear h1
  go_enter Try.func102, Try.ntmps102
  go_wp2_with fail
  refine H.out.mono ?_
  rintro e w1 ⟨rfl, b1⟩
  have B1 := hid b1
  clear b1
  go_wp2
  go_ret
  exact ⟨by rw [← HQ.out]; rfl, B1.out⟩

/-- slices.IndexFunc at a function that holds nothing. -/
theorem idxFunc0 (p : Int → Bool) (g : Nat) (xs : List Int) (v : Value) (B : Nat) (w : World) (ha : Ints w B v xs) (hB : B ≤ w.heap.size) (hn : xs.length ≤ 1099511627776)
    (eg : ∀ args w, (callFunc g args).run Try.prog w = .ok (.enter g args) w) (hp : ∀ (x : Int) (W : World), Calls Try.prog g #[.int .i64 x] W fun e w' => e = .returned (.bool (p x)) ∧ Below W.heap.size W w') :
    Calls Try.prog 128 #[v, .func (.func g) #[] #[]] w fun e w' => e = .returned (.int .i64 (idxOf p xs)) ∧ Below w.heap.size w w' := by
  have HP := hid hp
  clear hp
  rcases ha with ⟨rfl, ao, cap, rfl⟩ | ⟨hp, b, off, cap, rfl, hb, hc⟩
  · have HF : Hid (idxOf p [] = -1) := hid rfl
    go_enter Try.func128, Try.ntmps128
    go_wp2
    refine wp_loop_rounds 1 ?_
    rw [rounds_succ]
    go_wp2
    go_ret
    exact ⟨by rw [HF.out]; rfl, Below.refl _ _⟩
  · obtain ⟨n, hnn⟩ : ∃ n, n = xs.length := ⟨_, rfl⟩
    rw [← hnn] at hp hc hn ⊢
    have HN := hid hnn
    have HC := hid hc
    clear hnn hc
    go_enter Try.func128, Try.ntmps128
    go_wp2
    go_loopw [8] (fun i wr => ∃ k : Nat, k ≤ n ∧ i = .int .i64 k ∧ (∀ j, j < k → p (xs.getD j 0) = false) ∧ Below w.heap.size w wr) (fun i _ => n - (intOf i).toNat)
    case atStart => exact ⟨0, Nat.zero_le _, rfl, fun j hj => by omega, Below.refl _ _⟩
    case round =>
      obtain ⟨k, hk, rfl, hg, hbel⟩ := hrel
      have HG := hid hg
      have HB := hid hbel
      clear hg hbel
      by_cases hlt : k < n
      · have h1 : wr.cell? ⟨b, off + k, none⟩ = some (.int .i64 (xs.getD k 0)) := (HB.out.cell (p := ⟨b, off + k, none⟩) (by show b < _; omega)).trans (HC.out k hlt)
        obtain ⟨x, hx⟩ : ∃ x, x = xs.getD k 0 := ⟨_, rfl⟩
        rw [← hx] at h1
        have HX := hid hx
        clear hx
        go_wp2_with fail
        refine (HP.out x wr).mono ?_
        rintro e w1 ⟨rfl, b1⟩
        have HB1 := hid (HB.out.trans (b1.mono HB.out.size))
        clear b1
        obtain ⟨q, hq⟩ : ∃ q, q = p x := ⟨_, rfl⟩
        rw [← hq]
        have HQ := hid hq
        clear hq
        cases q
        · go_wp2
          go_roundw
          case rel => exact ⟨k + 1, by omega, by go_num, fun j hj => by
            rcases Nat.lt_or_ge j k with h | h
            · exact HG.out j h
            · obtain rfl : j = k := by omega
              rw [← HX.out, ← HQ.out], HB1.out⟩
          case measure => simp [intOf]; omega
        · have HF := hid (idx_yes p xs k (by rw [← HN.out]; exact hlt) HG.out (by rw [← HX.out, ← HQ.out])).2
          go_wp2
          go_ret
          exact ⟨by rw [HF.out]; rfl, HB1.out⟩
      · obtain rfl : k = n := by omega
        have HF := hid (idx_no p xs (fun j hj => HG.out j (by rw [HN.out]; exact hj))).2
        go_wp2
        go_ret
        exact ⟨by rw [HF.out]; rfl, HB.out⟩

/-- slices.ContainsFunc at a function that holds nothing. -/
theorem contFunc0 (p : Int → Bool) (g : Nat) (xs : List Int) (v : Value) (B : Nat) (w : World) (ha : Ints w B v xs) (hB : B ≤ w.heap.size) (hn : xs.length ≤ 1099511627776)
    (eg : ∀ args w, (callFunc g args).run Try.prog w = .ok (.enter g args) w) (hp : ∀ (x : Int) (W : World), Calls Try.prog g #[.int .i64 x] W fun e w' => e = .returned (.bool (p x)) ∧ Below W.heap.size W w') :
    Calls Try.prog 102 #[v, .func (.func g) #[] #[]] w fun e w' => e = .returned (.bool (xs.any p)) ∧ Below w.heap.size w w' := by
  have H := hid (idxFunc0 p g xs v B w ha hB hn eg hp)
  have hi := idx_sign p xs hn
  obtain ⟨q, hq⟩ : ∃ q, q = xs.any p := ⟨_, rfl⟩
  rw [← hq] at hi ⊢
  obtain ⟨ao, cap, hv⟩ := ints_val ha
  generalize xs.length = n at *
  subst hv
  clear ha hp eg hq
  generalize idxOf p xs = z at *
  obtain ⟨h1, h2, h3⟩ := hi
  have HQ := hid h1
  clear h1
  go_enter Try.func102, Try.ntmps102
  go_wp2_with fail
  refine H.out.mono ?_
  rintro e w1 ⟨rfl, b1⟩
  have B1 := hid b1
  clear b1
  go_wp2
  go_ret
  exact ⟨by rw [← HQ.out]; rfl, B1.out⟩

theorem implValidB (s : Int) (xs : List Int) (v : Value) (B : Nat) (w : World) (ha : Ints w B v xs) (hB : B ≤ w.heap.size) (hn : xs.length ≤ 1099511627776) :
    Calls Try.prog 68 #[.agg #[.int .i64 s, v]] w fun e w' => e = .returned (.bool (okB s xs)) ∧ Below w.heap.size w w' := by
  obtain ⟨ao, cap, hv⟩ := ints_val ha
  obtain ⟨n, hnn⟩ : ∃ n, n = xs.length := ⟨_, rfl⟩
  rw [← hnn] at hv
  subst hv
  have HN := hid hnn
  have HA := hid ha
  clear ha hnn
  by_cases hs : 0 ≤ s ∧ s ≤ 12
  · have hd : decide (0 ≤ s ∧ s ≤ 12) = true := by simpa using hs
    by_cases hl : n ≤ 40
    · have hl1 : decide ((40 : Int) < (n : Int)) = false := by simp; omega
      go_enter Try.func68, Try.ntmps68
      go_wp2_with (go_at_call 60; refine (within64 _ _ _ _).mono ?_; rintro e w' ⟨rfl, rfl⟩)
      have HK : Hid (∀ (x : Int) (W : World), Calls Try.prog 103 #[.agg #[.int .i64 s, .slice ao n cap], .int .i64 x] W fun e w' => e = .returned (.bool (!letB s x)) ∧ Below W.heap.size W w') := hid (fun x W => implLacks s x _ W ⟨_, _, _, rfl⟩ hs)
      refine (contFunc (fun x => !letB s x) 103 _ xs _ B _ (ints_al HA.out _) (by simp; omega) hn (enters_of Try.func103 (by kernel_rfl) rfl) HK.out).mono ?_
      rintro e w1 ⟨rfl, b1⟩
      have B1 := hid b1
      clear b1
      have HF : Hid (okB s xs = !(xs.any fun x => !letB s x)) := hid (by rw [ok_all hs (by rw [← HN.out]; exact hl)]; simp [List.all_eq_not_any_not])
      obtain ⟨q, hq⟩ : ∃ q, q = xs.any fun x => !letB s x := ⟨_, rfl⟩
      rw [← hq] at HF ⊢
      clear hq
      go_wp2
      go_ret
      exact ⟨by rw [HF.out]; rfl, ((Below.refl w.heap.size w).alloc (Nat.le_refl _) _).trans (B1.out.mono (by simp))⟩
    · have hl1 : decide ((40 : Int) < (n : Int)) = true := by simp; omega
      have HF : Hid (okB s xs = false) := hid (ok_long (by rw [← HN.out]; omega))
      go_enter Try.func68, Try.ntmps68
      go_wp2_with (go_at_call 60; refine (within64 _ _ _ _).mono ?_; rintro e w' ⟨rfl, rfl⟩)
      go_ret
      exact ⟨by rw [HF.out]; rfl, (Below.refl w.heap.size w).alloc (Nat.le_refl _) _⟩
  · have hd : decide (0 ≤ s ∧ s ≤ 12) = false := by simpa using hs
    have HF : Hid (okB s xs = false) := hid (ok_strands hs)
    clear hs
    go_enter Try.func68, Try.ntmps68
    go_wp2_with (go_at_call 60; refine (within64 _ _ _ _).mono ?_; rintro e w' ⟨rfl, rfl⟩)
    go_ret
    exact ⟨by rw [HF.out]; rfl, (Below.refl w.heap.size w).alloc (Nat.le_refl _) _⟩
end Go.Proofs.Ytedajefapddekaa.br
