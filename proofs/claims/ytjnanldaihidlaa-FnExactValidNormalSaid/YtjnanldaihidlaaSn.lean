/-
  Lists and lists of lists compared: contracts of l00Same and slices.Equal (quiet), slices.EqualFunc, sameRows; SameNormal of both sides.
-/
import Derived.Test.YtjnanldaihidlaaNb
import Derived.Test.YtjnanldaihidlaaBv
namespace Go.Proofs.Ytjnanldaihidlaa.nb
open Go.RowKit Go.Proofs.Ytjnanldaihidlaa.sl Go.Proofs.Ytjnanldaihidlaa.br Go.Proofs.Ytjnanldaihidlaa.ss
set_option linter.unusedVariables false

set_option maxHeartbeats 800000 in
theorem sameQ (xs ys : List Int) (v u : Value) (B C : Nat) (w : World) (ha : Ints w B v xs) (hb : Ints w C u ys) (hn : xs.length ≤ 1099511627776) (hm : ys.length ≤ 1099511627776) :
    Calls Try.prog 121 #[v, u] w fun e w' => e = .returned (.bool (sameB xs ys)) ∧ ∃ q, w' = w.drewN q := by
  by_cases hl : xs.length = ys.length
  · rcases ha with ⟨rfl, ao, cap, rfl⟩ | ⟨hp, b, off, cap, rfl, hb', hc⟩
    · rcases hb with ⟨rfl, ao', cap', rfl⟩ | ⟨hp', _⟩
      · go_enter Try.func121, Try.ntmps121
        go_wp2
        refine wp_loop_rounds 1 ?_
        rw [rounds_succ]
        go_wp2
        go_ret
        exact ⟨rfl, 0, rfl⟩
      · simp at hl; omega
    · rcases hb with ⟨rfl, ao', cap', rfl⟩ | ⟨hp', b', off', cap', rfl, hb'', hc'⟩
      · simp at hl; subst hl; simp at hp
      · rw [← hl] at hc' ⊢
        obtain ⟨n, hnn⟩ : ∃ n, n = xs.length := ⟨_, rfl⟩
        rw [← hnn] at hp hc hc' hn ⊢
        have HN := hid hnn
        have HL := hid hl
        have HC := hid hc
        have HC' := hid hc'
        clear hnn hl hp' hm hc hc'
        go_enter Try.func121, Try.ntmps121
        go_wp2
        go_loopw [5] (fun i wr => ∃ k : Nat, k ≤ n ∧ i = .int .i64 k ∧ (∀ j, j < k → xs.getD j 0 = ys.getD j 0) ∧ ∃ q, wr = w.drewN q)
          (fun i _ => n - (intOf i).toNat)
        case atStart => exact ⟨0, Nat.zero_le _, rfl, fun j hj => by omega, 0, rfl⟩
        case round =>
          obtain ⟨k, hk, rfl, heq, q, hwr⟩ := hrel
          have HE := hid heq
          have HW := hid hwr
          clear heq hwr
          by_cases hlt : k < n
          · have h1 : wr.cell? ⟨b, off + k, none⟩ = some (.int .i64 (xs.getD k 0)) := by rw [HW.out]; exact HC.out k hlt
            have h2 : wr.cell? ⟨b', off' + k, none⟩ = some (.int .i64 (ys.getD k 0)) := by rw [HW.out]; exact HC'.out k hlt
            obtain ⟨x, hx⟩ : ∃ x, x = xs.getD k 0 := ⟨_, rfl⟩
            obtain ⟨y, hy⟩ : ∃ y, y = ys.getD k 0 := ⟨_, rfl⟩
            rw [← hx] at h1
            rw [← hy] at h2
            have HX := hid hx
            have HY := hid hy
            clear hx hy
            by_cases he : x = y
            · subst he
              go_wp2
              go_quiet (fail)
              go_wp2
              go_roundw
              case rel => exact ⟨k + 1, by omega, by go_num, fun j hj => by
                rcases Nat.lt_or_ge j k with h | h
                · exact HE.out j h
                · obtain rfl : j = k := by omega
                  rw [← HX.out, ← HY.out], _, by rw [HW.out]; exact drewN_add _ _ _⟩
              case measure => simp [intOf]; omega
            · have hb1 : (x == y) = false := by simpa using he
              have hb2 : (x != y) = true := by simpa using he
              have HF : Hid (sameB xs ys = false) := by
                refine hid ?_
                simp only [sameB, decide_eq_false_iff_not]
                rintro rfl
                exact he (HX.out.trans HY.out.symm)
              clear he
              go_wp2
              go_quiet (fail)
              go_wp2
              go_ret
              exact ⟨by rw [HF.out]; rfl, _, by rw [HW.out]; exact drewN_add _ _ _⟩
          · obtain rfl : k = n := by omega
            go_wp2
            go_ret
            have : xs = ys := list_eq_of HL.out (fun j hj => HE.out j (by rw [HN.out]; exact hj))
            exact ⟨by rw [this, sameB_self]; rfl, q, HW.out⟩
  · have hd : (((xs.length : Nat) : Int) == ((ys.length : Nat) : Int)) = false := by simp; omega
    have hd' : (((xs.length : Nat) : Int) != ((ys.length : Nat) : Int)) = true := by simp; omega
    have HF : Hid (sameB xs ys = false) := by
      refine hid ?_
      simp only [sameB, decide_eq_false_iff_not]
      rintro rfl
      exact hl rfl
    obtain ⟨ao, cap, rfl⟩ := ints_val ha
    obtain ⟨ao', cap', rfl⟩ := ints_val hb
    clear ha hb hl
    generalize xs.length = n at *
    generalize ys.length = m at *
    go_enter Try.func121, Try.ntmps121
    go_wp2
    go_ret
    exact ⟨by rw [HF.out]; rfl, 0, rfl⟩

theorem sameQ' (xs ys : List Int) (r : Bool) (hr : sameB xs ys = r) (v u : Value) (B C : Nat) (w : World) (ha : Ints w B v xs) (hb : Ints w C u ys) (hn : xs.length ≤ 1099511627776) (hm : ys.length ≤ 1099511627776) (q : Nat) :
    Calls Try.prog 121 #[v, u] (w.drewN q) fun e w' => e = .returned (.bool r) ∧ ∃ m, w' = w.drewN m :=
  (sameQ xs ys v u B C (w.drewN q) ha hb hn hm).mono fun _ _ h => ⟨by rw [h.1, hr], by obtain ⟨m, hm⟩ := h.2; exact ⟨q + m, by rw [hm, drewN_add]⟩⟩

set_option maxHeartbeats 800000 in
theorem equalQ (xs ys : List Int) (v u : Value) (B C : Nat) (w : World) (ha : Ints w B v xs) (hb : Ints w C u ys) (hn : xs.length ≤ 1099511627776) (hm : ys.length ≤ 1099511627776) :
    Calls Try.prog 140 #[v, u] w fun e w' => e = .returned (.bool (sameB xs ys)) ∧ ∃ q, w' = w.drewN q := by
  by_cases hl : xs.length = ys.length
  · rcases ha with ⟨rfl, ao, cap, rfl⟩ | ⟨hp, b, off, cap, rfl, hb', hc⟩
    · rcases hb with ⟨rfl, ao', cap', rfl⟩ | ⟨hp', _⟩
      · go_enter Try.func140, Try.ntmps140
        go_wp2
        refine wp_loop_rounds 1 ?_
        rw [rounds_succ]
        go_wp2
        go_ret
        exact ⟨rfl, 0, rfl⟩
      · simp at hl; omega
    · rcases hb with ⟨rfl, ao', cap', rfl⟩ | ⟨hp', b', off', cap', rfl, hb'', hc'⟩
      · simp at hl; subst hl; simp at hp
      · rw [← hl] at hc' ⊢
        obtain ⟨n, hnn⟩ : ∃ n, n = xs.length := ⟨_, rfl⟩
        rw [← hnn] at hp hc hc' hn ⊢
        have HN := hid hnn
        have HL := hid hl
        have HC := hid hc
        have HC' := hid hc'
        clear hnn hl hp' hm hc hc'
        go_enter Try.func140, Try.ntmps140
        go_wp2
        go_loopw [13] (fun i wr => ∃ k : Nat, k ≤ n ∧ i = .int .i64 k ∧ (∀ j, j < k → xs.getD j 0 = ys.getD j 0) ∧ ∃ q, wr = w.drewN q)
          (fun i _ => n - (intOf i).toNat)
        case atStart => exact ⟨0, Nat.zero_le _, rfl, fun j hj => by omega, 0, rfl⟩
        case round =>
          obtain ⟨k, hk, rfl, heq, q, hwr⟩ := hrel
          have HE := hid heq
          have HW := hid hwr
          clear heq hwr
          by_cases hlt : k < n
          · have h1 : wr.cell? ⟨b, off + k, none⟩ = some (.int .i64 (xs.getD k 0)) := by rw [HW.out]; exact HC.out k hlt
            have h2 : wr.cell? ⟨b', off' + k, none⟩ = some (.int .i64 (ys.getD k 0)) := by rw [HW.out]; exact HC'.out k hlt
            obtain ⟨x, hx⟩ : ∃ x, x = xs.getD k 0 := ⟨_, rfl⟩
            obtain ⟨y, hy⟩ : ∃ y, y = ys.getD k 0 := ⟨_, rfl⟩
            rw [← hx] at h1
            rw [← hy] at h2
            have HX := hid hx
            have HY := hid hy
            clear hx hy
            by_cases he : x = y
            · subst he
              go_wp2
              go_quiet (fail)
              go_wp2
              go_roundw
              case rel => exact ⟨k + 1, by omega, by go_num, fun j hj => by
                rcases Nat.lt_or_ge j k with h | h
                · exact HE.out j h
                · obtain rfl : j = k := by omega
                  rw [← HX.out, ← HY.out], _, by rw [HW.out]; exact drewN_add _ _ _⟩
              case measure => simp [intOf]; omega
            · have hb1 : (x == y) = false := by simpa using he
              have hb2 : (x != y) = true := by simpa using he
              have HF : Hid (sameB xs ys = false) := by
                refine hid ?_
                simp only [sameB, decide_eq_false_iff_not]
                rintro rfl
                exact he (HX.out.trans HY.out.symm)
              clear he
              go_wp2
              go_quiet (fail)
              go_wp2
              go_ret
              exact ⟨by rw [HF.out]; rfl, _, by rw [HW.out]; exact drewN_add _ _ _⟩
          · obtain rfl : k = n := by omega
            go_wp2
            go_ret
            have : xs = ys := list_eq_of HL.out (fun j hj => HE.out j (by rw [HN.out]; exact hj))
            exact ⟨by rw [this, sameB_self]; rfl, q, HW.out⟩
  · have hd : (((xs.length : Nat) : Int) == ((ys.length : Nat) : Int)) = false := by simp; omega
    have hd' : (((xs.length : Nat) : Int) != ((ys.length : Nat) : Int)) = true := by simp; omega
    have HF : Hid (sameB xs ys = false) := by
      refine hid ?_
      simp only [sameB, decide_eq_false_iff_not]
      rintro rfl
      exact hl rfl
    obtain ⟨ao, cap, rfl⟩ := ints_val ha
    obtain ⟨ao', cap', rfl⟩ := ints_val hb
    clear ha hb hl
    generalize xs.length = n at *
    generalize ys.length = m at *
    go_enter Try.func140, Try.ntmps140
    go_wp2
    go_ret
    exact ⟨by rw [HF.out]; rfl, 0, rfl⟩

theorem equalQ' (xs ys : List Int) (r : Bool) (hr : sameB xs ys = r) (v u : Value) (B C : Nat) (w : World) (ha : Ints w B v xs) (hb : Ints w C u ys) (hn : xs.length ≤ 1099511627776) (hm : ys.length ≤ 1099511627776) (q : Nat) :
    Calls Try.prog 140 #[v, u] (w.drewN q) fun e w' => e = .returned (.bool r) ∧ ∃ m, w' = w.drewN m :=
  (equalQ xs ys v u B C (w.drewN q) ha hb hn hm).mono fun _ _ h => ⟨by rw [h.1, hr], by obtain ⟨m, hm⟩ := h.2; exact ⟨q + m, by rw [hm, drewN_add]⟩⟩

set_option maxHeartbeats 800000 in
theorem equalFunc (a b : List (List Int)) (v u : Value) (B C : Nat) (w : World) (ha : ss.Rows w B v a) (hb : ss.Rows w C u b) (hn : a.length ≤ 1099511627776) (hm : b.length ≤ 1099511627776) (sa : Short a 1099511627776) (sb : Short b 1099511627776) :
    Calls Try.prog 163 #[v, u, .func (.func 140) #[] #[]] w fun e w' => e = .returned (.bool (sameR a b)) ∧ ∃ q, w' = w.drewN q := by
  have eg := enters_of Try.func140 (by kernel_rfl) rfl
  by_cases hl : a.length = b.length
  · rcases ha with ⟨rfl, ao, cap, rfl⟩ | ⟨hp, g, off, cap, V, rfl, hb', hc⟩
    · rcases hb with ⟨rfl, ao', cap', rfl⟩ | ⟨hp', _⟩
      · go_enter Try.func163, Try.ntmps163
        go_wp2
        refine wp_loop_rounds 1 ?_
        rw [rounds_succ]
        go_wp2
        go_ret
        exact ⟨rfl, 0, rfl⟩
      · simp at hl; omega
    · rcases hb with ⟨rfl, ao', cap', rfl⟩ | ⟨hp', g', off', cap', U, rfl, hb'', hc'⟩
      · simp at hl; subst hl; simp at hp
      · have HS' := hid sb
        rw [← hl] at hc' ⊢
        obtain ⟨n, hnn⟩ : ∃ n, n = a.length := ⟨_, rfl⟩
        rw [← hnn] at hp hc hc' hn ⊢
        have HN := hid hnn
        have HL := hid hl
        have HC := hid hc
        have HC' := hid hc'
        have HS := hid sa
        clear hnn hl hp' hm hc hc' sa sb
        go_enter Try.func163, Try.ntmps163
        go_wp2
        go_loopw [17] (fun i wr => ∃ k : Nat, k ≤ n ∧ i = .int .i64 k ∧ (∀ j, j < k → a.getD j [] = b.getD j []) ∧ ∃ q, wr = w.drewN q)
          (fun i _ => n - (intOf i).toNat)
        case atStart => exact ⟨0, Nat.zero_le _, rfl, fun j hj => by omega, 0, rfl⟩
        case round =>
          obtain ⟨k, hk, rfl, heq, q, hwr⟩ := hrel
          have HE := hid heq
          have HW := hid hwr
          clear heq hwr
          by_cases hlt : k < n
          · have h1 : wr.cell? ⟨g, off + k, none⟩ = some (V k) := by rw [HW.out]; exact (HC.out k hlt).1
            have h2 : wr.cell? ⟨g', off' + k, none⟩ = some (U k) := by rw [HW.out]; exact (HC'.out k hlt).1
            have HI1 : Hid (Ints wr B (V k) (a.getD k [])) := hid (by rw [HW.out]; exact (HC.out k hlt).2)
            have HI2 : Hid (Ints wr C (U k) (b.getD k [])) := hid (by rw [HW.out]; exact (HC'.out k hlt).2)
            have HQ := hid (fun r hr q => equalQ' (a.getD k []) (b.getD k []) r hr (V k) (U k) B C wr HI1.out HI2.out (HS.out k (by rw [← HN.out]; exact hlt)) (HS'.out k (by rw [← HL.out, ← HN.out]; exact hlt)) q)
            clear HI1 HI2
            generalize V k = x at *
            generalize U k = y at *
            by_cases he : a.getD k [] = b.getD k []
            · have HQ1 := hid (HQ.out true (by rw [he]; exact sameB_self _))
              have HX := hid he
              clear he HQ
              go_wp2_with fail
              refine (HQ1.out 0).mono ?_
              rintro e w1 ⟨rfl, nq, rfl⟩
              go_wp2
              go_roundw
              case rel => exact ⟨k + 1, by omega, by go_num, fun j hj => by
                rcases Nat.lt_or_ge j k with h | h
                · exact HE.out j h
                · obtain rfl : j = k := by omega
                  exact HX.out, _, by rw [HW.out]; exact drewN_add _ _ _⟩
              case measure => simp [intOf]; omega
            · have HQ1 := hid (HQ.out false (by unfold sameB; exact decide_eq_false he))
              have HF : Hid (sameR a b = false) := by
                refine hid ?_
                simp only [sameR, decide_eq_false_iff_not]
                rintro rfl
                exact he rfl
              clear he HQ
              go_wp2_with fail
              refine (HQ1.out 0).mono ?_
              rintro e w1 ⟨rfl, nq, rfl⟩
              go_wp2
              go_ret
              exact ⟨by rw [HF.out]; rfl, _, by rw [HW.out]; exact drewN_add _ _ _⟩
          · obtain rfl : k = n := by omega
            go_wp2
            go_ret
            have : a = b := rows_eq_of HL.out (fun j hj => HE.out j (by rw [HN.out]; exact hj))
            exact ⟨by rw [this, sameR_self]; rfl, q, HW.out⟩
  · have hd : (((a.length : Nat) : Int) == ((b.length : Nat) : Int)) = false := by simp; omega
    have hd' : (((a.length : Nat) : Int) != ((b.length : Nat) : Int)) = true := by simp; omega
    have HF : Hid (sameR a b = false) := by
      refine hid ?_
      simp only [sameR, decide_eq_false_iff_not]
      rintro rfl
      exact hl rfl
    obtain ⟨ao, cap, rfl⟩ := rows_val ha
    obtain ⟨ao', cap', rfl⟩ := rows_val hb
    clear ha hb hl sa sb
    generalize a.length = n at *
    generalize b.length = m at *
    go_enter Try.func163, Try.ntmps163
    go_wp2
    go_ret
    exact ⟨by rw [HF.out]; rfl, 0, rfl⟩

theorem sameRowsQ (a b : List (List Int)) (v u : Value) (B C : Nat) (w : World) (ha : ss.Rows w B v a) (hb : ss.Rows w C u b) (qa : Small a) (qb : Small b) :
    Calls Try.prog 122 #[v, u] w fun e w' => e = .returned (.bool (sameR a b)) ∧ ∃ q, w' = w.drewN q := by
  have HE := hid (equalFunc a b v u B C w ha hb (by have := qa.len; omega) (by have := qb.len; omega) qa.short qb.short)
  obtain ⟨ao, cap, rfl⟩ := rows_val ha
  obtain ⟨ao', cap', rfl⟩ := rows_val hb
  clear ha hb qa qb
  generalize a.length = n at *
  generalize b.length = m at *
  generalize sameR a b = r at *
  go_enter Try.func122, Try.ntmps122
  go_wp2_with fail
  refine HE.out.mono ?_
  rintro e w1 ⟨rfl, q1, rfl⟩
  go_wp2
  go_ret
  exact ⟨rfl, q1, rfl⟩

theorem sameN_1 {s p t q : Int} {a b : List (List Int)} (h : ¬ s = t) : sameN s p t q a b = false := by simp [sameN, h]
theorem sameN_2 {s p t q : Int} {a b : List (List Int)} (h : ¬ p = q) : sameN s p t q a b = false := by simp [sameN, h]
theorem sameN_3 {s p t q : Int} {a b : List (List Int)} (h : ¬ a = b) : sameN s p t q a b = false := by simp [sameN, sameR, h]

attribute [local go_sem] undef
set_option maxRecDepth 20000 in
set_option maxHeartbeats 800000 in
theorem implSameN (s p : Int) (a : List (List Int)) (t q : Int) (b : List (List Int)) (f g : Value) (B C : Nat) (w : World) (ha : ss.Rows w B f a) (hB : B ≤ w.heap.size) (hb : ss.Rows w C g b) (hC : C ≤ w.heap.size) (qa : Small a) (qb : Small b) :
    Calls Try.prog 56 #[.agg #[.int .i64 s, .int .i64 p, f], .agg #[.int .i64 t, .int .i64 q, g]] w fun e w' => e = .returned (.bool (sameN s p t q a b)) ∧ Below w.heap.size w w' := by
  have HB : Hid (Below w.heap.size w ((w.alloc (.cells #[.int .i64 s, .int .i64 p, f] 72)).alloc (.cells #[.int .i64 t, .int .i64 q, g] 72))) := hid (((Below.refl w.heap.size w).alloc (Nat.le_refl _) _).alloc (by simp) _)
  have HE := hid (sameRowsQ a b f g B C _ ((ha.al (.cells #[.int .i64 s, .int .i64 p, f] 72)).al (.cells #[.int .i64 t, .int .i64 q, g] 72)) ((hb.al (.cells #[.int .i64 s, .int .i64 p, f] 72)).al (.cells #[.int .i64 t, .int .i64 q, g] 72)) qa qb)
  obtain ⟨ao, cap, hv⟩ := rows_val ha
  obtain ⟨ao', cap', hu⟩ := rows_val hb
  clear ha hb qa qb
  by_cases h : s = t
  · by_cases h2 : p = q
    · subst h h2
      have HF : Hid (sameN s p s p a b = sameR a b) := hid (by simp [sameN])
      generalize a.length = n at *
      generalize b.length = m at *
      subst hv hu
      generalize sameR a b = r at *
      go_enter Try.func56, Try.ntmps56
      go_wp2_with (go_at_call 122; refine HE.out.mono ?_; rintro e w1 ⟨rfl, q1, rfl⟩)
      go_ret
      exact ⟨by rw [HF.out]; rfl, bdrewN HB.out _⟩
    · subst h
      have HF : Hid (sameN s p s q a b = false) := hid (sameN_2 h2)
      have hd1 : (p == q) = false := by simpa using h2
      clear h2 HE
      generalize a.length = n at *
      generalize b.length = m at *
      subst hv hu
      go_enter Try.func56, Try.ntmps56
      go_wp2
      go_ret
      exact ⟨by rw [HF.out]; rfl, HB.out⟩
  · have HF : Hid (sameN s p t q a b = false) := hid (sameN_1 h)
    have hd1 : (s == t) = false := by simpa using h
    clear h HE
    generalize a.length = n at *
    generalize b.length = m at *
    subst hv hu
    go_enter Try.func56, Try.ntmps56
    go_wp2
    go_ret
    exact ⟨by rw [HF.out]; rfl, HB.out⟩

set_option maxRecDepth 20000 in
set_option maxHeartbeats 1600000 in
theorem specSameN (s p : Int) (a : List (List Int)) (t q : Int) (b : List (List Int)) (f g : Value) (B C : Nat) (w : World) (ha : ss.Rows w B f a) (hB : B ≤ w.heap.size) (hb : ss.Rows w C g b) (hC : C ≤ w.heap.size) (qa : Small a) (qb : Small b) :
    Calls Try.prog 54 #[.agg #[.int .i64 s, .int .i64 p, f], .agg #[.int .i64 t, .int .i64 q, g]] w fun e w' => e = .returned (.bool (sameN s p t q a b)) ∧ Below w.heap.size w w' := by
  have HB : Hid (Below w.heap.size w ((w.alloc (.cells #[.int .i64 s, .int .i64 p, f] 72)).alloc (.cells #[.int .i64 t, .int .i64 q, g] 72))) := hid (((Below.refl w.heap.size w).alloc (Nat.le_refl _) _).alloc (by simp) _)
  have HA := hid ((ha.al (.cells #[.int .i64 s, .int .i64 p, f] 72)).al (.cells #[.int .i64 t, .int .i64 q, g] 72))
  have HBb := hid ((hb.al (.cells #[.int .i64 s, .int .i64 p, f] 72)).al (.cells #[.int .i64 t, .int .i64 q, g] 72))
  obtain ⟨ao, cap, hv⟩ := rows_val ha
  obtain ⟨ao', cap', hu⟩ := rows_val hb
  clear ha hb
  by_cases h : s = t ∧ p = q ∧ a.length = b.length
  · obtain ⟨h1, h2, hl⟩ := h
    subst h1 h2
    have HF : Hid (sameN s p s p a b = sameR a b) := hid (by simp [sameN])
    have HQa := hid qa
    have HQb := hid qb
    have HL := hid hl
    obtain ⟨n, hnn⟩ : ∃ n, n = a.length := ⟨_, rfl⟩
    have hn := qa.len
    rw [← hl] at hu
    rw [← hnn] at hv hu hn
    have HN := hid hnn
    clear qa qb hl hnn
    subst hv hu
    have hc0 : ((w.alloc (.cells #[.int .i64 s, .int .i64 p, .slice ao n cap] 72)).alloc (.cells #[.int .i64 s, .int .i64 p, .slice ao' n cap'] 72)).cell? ⟨w.heap.size, 2, none⟩ = some (.slice ao n cap) := (World.cell?_alloc_past _ _ _ (by simp)).trans (World.cell?_alloc_at _ _ _ _ rfl)
    have hc1 : ((w.alloc (.cells #[.int .i64 s, .int .i64 p, .slice ao n cap] 72)).alloc (.cells #[.int .i64 s, .int .i64 p, .slice ao' n cap'] 72)).cell? ⟨w.heap.size + 1, 2, none⟩ = some (.slice ao' n cap') := World.cell?_alloc_at _ _ _ _ (by simp)
    have hz : w.heap.size + 1 < ((w.alloc (.cells #[.int .i64 s, .int .i64 p, .slice ao n cap] 72)).alloc (.cells #[.int .i64 s, .int .i64 p, .slice ao' n cap'] 72)).heap.size := by simp
    have hz0 : w.heap.size < ((w.alloc (.cells #[.int .i64 s, .int .i64 p, .slice ao n cap] 72)).alloc (.cells #[.int .i64 s, .int .i64 p, .slice ao' n cap'] 72)).heap.size := by simp; omega
    have HZ := hid (And.intro hc0 (And.intro hc1 (And.intro hz hz0)))
    have HBx := hid HB.out
    clear HB hc0 hc1 hz hz0
    go_enter Try.func54, Try.ntmps54
    go_wp2
    generalize ((w.alloc (.cells #[.int .i64 s, .int .i64 p, .slice ao n cap] 72)).alloc (.cells #[.int .i64 s, .int .i64 p, .slice ao' n cap'] 72)) = W0 at *
    obtain ⟨hc0, hc1, hz, hz0⟩ := HZ.out
    clear HZ
    go_loopw [5] (fun i wr => ∃ k : Nat, k ≤ n ∧ i = .int .i64 k ∧ (∀ j, j < k → a.getD j [] = b.getD j []) ∧ ∃ q, wr = W0.drewN q) (fun i _ => n - (intOf i).toNat)
    case atStart => exact ⟨0, Nat.zero_le _, rfl, fun j hj => by omega, 0, rfl⟩
    case round =>
      obtain ⟨k, hk, rfl, heq, q, hwr⟩ := hrel
      have HEq := hid heq
      have HW := hid hwr
      have k0 : wr.cell? ⟨w.heap.size, 2, none⟩ = some (.slice ao n cap) := by rw [hwr]; exact hc0
      have k1 : wr.cell? ⟨w.heap.size + 1, 2, none⟩ = some (.slice ao' n cap') := by rw [hwr]; exact hc1
      clear heq hwr hc0 hc1
      by_cases hlt : k < n
      · have hA : ∃ b0 off V, ao = some ⟨b0, off, none⟩ ∧ wr.cell? ⟨b0, off + k, none⟩ = some V ∧ Ints wr B V (a.getD k []) := by
          rcases HA.out with ⟨h0, _⟩ | ⟨_, b0, off, cp, V, he, _, hc⟩
          · have := HN.out; rw [h0] at this; simp at this; omega
          · simp only [Value.slice.injEq] at he
            exact ⟨b0, off, V k, he.1, by rw [HW.out]; exact (hc k (by rw [← HN.out]; exact hlt)).1, by rw [HW.out]; exact (hc k (by rw [← HN.out]; exact hlt)).2⟩
        have hBb : ∃ b0 off V, ao' = some ⟨b0, off, none⟩ ∧ wr.cell? ⟨b0, off + k, none⟩ = some V ∧ Ints wr C V (b.getD k []) := by
          rcases HBb.out with ⟨h0, _⟩ | ⟨_, b0, off, cp, V, he, _, hc⟩
          · have := HN.out; rw [HL.out, h0] at this; simp at this; omega
          · simp only [Value.slice.injEq] at he
            exact ⟨b0, off, V k, he.1, by rw [HW.out]; exact (hc k (by rw [← HL.out, ← HN.out]; exact hlt)).1, by rw [HW.out]; exact (hc k (by rw [← HL.out, ← HN.out]; exact hlt)).2⟩
        obtain ⟨b0, off, x, rfl, h1, i1⟩ := hA
        obtain ⟨b1, off1, y, rfl, h2, i2⟩ := hBb
        have HQ := hid (fun r hr q => sameQ' (a.getD k []) (b.getD k []) r hr x y B C wr i1 i2 (HQa.out.short k (by rw [← HN.out]; exact hlt)) (HQb.out.short k (by rw [← HL.out, ← HN.out]; exact hlt)) q)
        clear i1 i2
        by_cases he : a.getD k [] = b.getD k []
        · have HQ1 := hid (HQ.out true (by rw [he]; exact sameB_self _))
          have HX := hid he
          clear he HQ
          go_wp2
          go_quiet ((go_at_call 121; exact HQ1.out _))
          go_wp2
          go_roundw
          case rel => exact ⟨k + 1, by omega, by go_num, fun j hj => by
            rcases Nat.lt_or_ge j k with h | h
            · exact HEq.out j h
            · obtain rfl : j = k := by omega
              exact HX.out, _, by rw [HW.out]; exact drewN_add _ _ _⟩
          case measure => simp [intOf]; omega
        · have HQ1 := hid (HQ.out false (by unfold sameB; exact decide_eq_false he))
          have HF2 : Hid (sameN s p s p a b = false) := hid (sameN_3 (by rintro rfl; exact he rfl))
          clear he HQ
          go_wp2
          go_quiet ((go_at_call 121; exact HQ1.out _))
          go_wp2
          go_ret
          exact ⟨by rw [HF2.out]; rfl, by rw [HW.out]; exact bdrewN (bdrewN HBx.out _) _⟩
      · obtain rfl : k = n := by omega
        go_wp2
        go_ret
        have : a = b := rows_eq_of HL.out (fun j hj => HEq.out j (by rw [HN.out]; exact hj))
        exact ⟨by rw [HF.out, this, sameR_self]; rfl, by rw [HW.out]; exact bdrewN HBx.out _⟩
  · have HF : Hid (sameN s p t q a b = false) := hid (by
      by_cases h1 : s = t
      · by_cases h2 : p = q
        · exact sameN_3 (by rintro rfl; exact h ⟨h1, h2, rfl⟩)
        · exact sameN_2 h2
      · exact sameN_1 h1)
    rw [HF.out]
    by_cases h1 : s = t
    · subst h1
      by_cases h2 : p = q
      · subst h2
        have hl : ¬ a.length = b.length := fun e => h ⟨rfl, rfl, e⟩
        have hd : (((a.length : Nat) : Int) == ((b.length : Nat) : Int)) = false := by simp; omega
        have hd' : (((a.length : Nat) : Int) != ((b.length : Nat) : Int)) = true := by simp; omega
        have hd2 : (s != s) = false := by simp
        have hd3 : (p != p) = false := by simp
        clear h hl HA HBb qa qb HF
        generalize a.length = n at *
        generalize b.length = m at *
        subst hv hu
        go_enter Try.func54, Try.ntmps54
        go_wp2
        go_ret
        exact ⟨rfl, HB.out⟩
      · have hd2 : (s != s) = false := by simp
        have hd1 : (p != q) = true := by simpa using h2
        have hd3 : (p == q) = false := by simpa using h2
        clear h h2 HA HBb qa qb HF
        generalize a.length = n at *
        generalize b.length = m at *
        subst hv hu
        go_enter Try.func54, Try.ntmps54
        go_wp2
        go_ret
        exact ⟨rfl, HB.out⟩
    · have hd1 : (s != t) = true := by simpa using h1
      have hd3 : (s == t) = false := by simpa using h1
      clear h h1 HA HBb qa qb HF
      generalize a.length = n at *
      generalize b.length = m at *
      subst hv hu
      go_enter Try.func54, Try.ntmps54
      go_wp2
      go_ret
      exact ⟨rfl, HB.out⟩
end Go.Proofs.Ytjnanldaihidlaa.nb
