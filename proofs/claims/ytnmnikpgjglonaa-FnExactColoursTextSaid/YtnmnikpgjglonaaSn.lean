/-
  Lists and lists of lists compared: contracts of l00Same and slices.Equal (quiet), slices.EqualFunc, sameRows; SameNormal of both sides.
-/
import Derived.Test.YtnmnikpgjglonaaNb
import Derived.Test.YtnmnikpgjglonaaBv
namespace Go.Proofs.Ytnmnikpgjglonaa.nb
open Go.RowKit Go.Proofs.Ytnmnikpgjglonaa.sl Go.Proofs.Ytnmnikpgjglonaa.br Go.Proofs.Ytnmnikpgjglonaa.ss
set_option linter.unusedVariables false

set_option maxHeartbeats 800000 in
theorem sameQ (xs ys : List Int) (v u : Value) (B C : Nat) (w : World) (ha : Ints w B v xs) (hb : Ints w C u ys) (hn : xs.length ≤ 1099511627776) (hm : ys.length ≤ 1099511627776) :
    Calls Try.prog 68 #[v, u] w fun e w' => e = .returned (.bool (sameB xs ys)) ∧ ∃ q, w' = w.drewN q := by
  by_cases hl : xs.length = ys.length
  · rcases ha with ⟨rfl, ao, cap, rfl⟩ | ⟨hp, b, off, cap, rfl, hb', hc⟩
    · rcases hb with ⟨rfl, ao', cap', rfl⟩ | ⟨hp', _⟩
      · go_enter Try.func68, Try.ntmps68
        go_wp2
        refine wp_loop_rounds 1 ?_
        rw [rounds_succ]
        go_wp2
        go_ret
        exact ⟨rfl, 0, rfl⟩
      · simp at hl; omega
    · rcases hb with ⟨rfl, ao', cap', rfl⟩ | ⟨hp', b', off', cap', rfl, hb'', hc'⟩
      · simp at hl; subst hl; simp at hp
      · rw [← hl] at hc' ⊢
        obtain ⟨n, hnn⟩ : ∃ n, n = xs.length := ⟨_, rfl⟩
        rw [← hnn] at hp hc hc' hn ⊢
        have HN := hid hnn
        have HL := hid hl
        have HC := hid hc
        have HC' := hid hc'
        clear hnn hl hp' hm hc hc'
        go_enter Try.func68, Try.ntmps68
        go_wp2
        go_loopw [5] (fun i wr => ∃ k : Nat, k ≤ n ∧ i = .int .i64 k ∧ (∀ j, j < k → xs.getD j 0 = ys.getD j 0) ∧ ∃ q, wr = w.drewN q)
          (fun i _ => n - (intOf i).toNat)
        case atStart => exact ⟨0, Nat.zero_le _, rfl, fun j hj => by omega, 0, rfl⟩
        case round =>
          obtain ⟨k, hk, rfl, heq, q, hwr⟩ := hrel
          have HE := hid heq
          have HW := hid hwr
          clear heq hwr
          by_cases hlt : k < n
          · have h1 : wr.cell? ⟨b, off + k, none⟩ = some (.int .i64 (xs.getD k 0)) := by rw [HW.out]; exact HC.out k hlt
            have h2 : wr.cell? ⟨b', off' + k, none⟩ = some (.int .i64 (ys.getD k 0)) := by rw [HW.out]; exact HC'.out k hlt
            obtain ⟨x, hx⟩ : ∃ x, x = xs.getD k 0 := ⟨_, rfl⟩
            obtain ⟨y, hy⟩ : ∃ y, y = ys.getD k 0 := ⟨_, rfl⟩
            rw [← hx] at h1
            rw [← hy] at h2
            have HX := hid hx
            have HY := hid hy
            clear hx hy
            by_cases he : x = y
            · subst he
              go_wp2
              go_quiet (fail)
              go_wp2
              go_roundw
              case rel => exact ⟨k + 1, by omega, by go_num, fun j hj => by
                rcases Nat.lt_or_ge j k with h | h
                · exact HE.out j h
                · obtain rfl : j = k := by omega
                  rw [← HX.out, ← HY.out], _, by rw [HW.out]; exact drewN_add _ _ _⟩
              case measure => simp [intOf]; omega
            · have hb1 : (x == y) = false := by simpa using he
              have hb2 : (x != y) = true := by simpa using he
              have HF : Hid (sameB xs ys = false) := by
                refine hid ?_
                simp only [sameB, decide_eq_false_iff_not]
                rintro rfl
                exact he (HX.out.trans HY.out.symm)
              clear he
              go_wp2
              go_quiet (fail)
              go_wp2
              go_ret
              exact ⟨by rw [HF.out]; rfl, _, by rw [HW.out]; exact drewN_add _ _ _⟩
          · obtain rfl : k = n := by omega
            go_wp2
            go_ret
            have : xs = ys := list_eq_of HL.out (fun j hj => HE.out j (by rw [HN.out]; exact hj))
            exact ⟨by rw [this, sameB_self]; rfl, q, HW.out⟩
  · have hd : (((xs.length : Nat) : Int) == ((ys.length : Nat) : Int)) = false := by simp; omega
    have hd' : (((xs.length : Nat) : Int) != ((ys.length : Nat) : Int)) = true := by simp; omega
    have HF : Hid (sameB xs ys = false) := by
      refine hid ?_
      simp only [sameB, decide_eq_false_iff_not]
      rintro rfl
      exact hl rfl
    obtain ⟨ao, cap, rfl⟩ := ints_val ha
    obtain ⟨ao', cap', rfl⟩ := ints_val hb
    clear ha hb hl
    generalize xs.length = n at *
    generalize ys.length = m at *
    go_enter Try.func68, Try.ntmps68
    go_wp2
    go_ret
    exact ⟨by rw [HF.out]; rfl, 0, rfl⟩

theorem sameQ' (xs ys : List Int) (r : Bool) (hr : sameB xs ys = r) (v u : Value) (B C : Nat) (w : World) (ha : Ints w B v xs) (hb : Ints w C u ys) (hn : xs.length ≤ 1099511627776) (hm : ys.length ≤ 1099511627776) (q : Nat) :
    Calls Try.prog 68 #[v, u] (w.drewN q) fun e w' => e = .returned (.bool r) ∧ ∃ m, w' = w.drewN m :=
  (sameQ xs ys v u B C (w.drewN q) ha hb hn hm).mono fun _ _ h => ⟨by rw [h.1, hr], by obtain ⟨m, hm⟩ := h.2; exact ⟨q + m, by rw [hm, drewN_add]⟩⟩

set_option maxHeartbeats 800000 in
theorem equalQ (xs ys : List Int) (v u : Value) (B C : Nat) (w : World) (ha : Ints w B v xs) (hb : Ints w C u ys) (hn : xs.length ≤ 1099511627776) (hm : ys.length ≤ 1099511627776) :
    Calls Try.prog 70 #[v, u] w fun e w' => e = .returned (.bool (sameB xs ys)) ∧ ∃ q, w' = w.drewN q := by
  by_cases hl : xs.length = ys.length
  · rcases ha with ⟨rfl, ao, cap, rfl⟩ | ⟨hp, b, off, cap, rfl, hb', hc⟩
    · rcases hb with ⟨rfl, ao', cap', rfl⟩ | ⟨hp', _⟩
      · go_enter Try.func70, Try.ntmps70
        go_wp2
        refine wp_loop_rounds 1 ?_
        rw [rounds_succ]
        go_wp2
        go_ret
        exact ⟨rfl, 0, rfl⟩
      · simp at hl; omega
    · rcases hb with ⟨rfl, ao', cap', rfl⟩ | ⟨hp', b', off', cap', rfl, hb'', hc'⟩
      · simp at hl; subst hl; simp at hp
      · rw [← hl] at hc' ⊢
        obtain ⟨n, hnn⟩ : ∃ n, n = xs.length := ⟨_, rfl⟩
        rw [← hnn] at hp hc hc' hn ⊢
        have HN := hid hnn
        have HL := hid hl
        have HC := hid hc
        have HC' := hid hc'
        clear hnn hl hp' hm hc hc'
        go_enter Try.func70, Try.ntmps70
        go_wp2
        go_loopw [13] (fun i wr => ∃ k : Nat, k ≤ n ∧ i = .int .i64 k ∧ (∀ j, j < k → xs.getD j 0 = ys.getD j 0) ∧ ∃ q, wr = w.drewN q)
          (fun i _ => n - (intOf i).toNat)
        case atStart => exact ⟨0, Nat.zero_le _, rfl, fun j hj => by omega, 0, rfl⟩
        case round =>
          obtain ⟨k, hk, rfl, heq, q, hwr⟩ := hrel
          have HE := hid heq
          have HW := hid hwr
          clear heq hwr
          by_cases hlt : k < n
          · have h1 : wr.cell? ⟨b, off + k, none⟩ = some (.int .i64 (xs.getD k 0)) := by rw [HW.out]; exact HC.out k hlt
            have h2 : wr.cell? ⟨b', off' + k, none⟩ = some (.int .i64 (ys.getD k 0)) := by rw [HW.out]; exact HC'.out k hlt
            obtain ⟨x, hx⟩ : ∃ x, x = xs.getD k 0 := ⟨_, rfl⟩
            obtain ⟨y, hy⟩ : ∃ y, y = ys.getD k 0 := ⟨_, rfl⟩
            rw [← hx] at h1
            rw [← hy] at h2
            have HX := hid hx
            have HY := hid hy
            clear hx hy
            by_cases he : x = y
            · subst he
              go_wp2
              go_quiet (fail)
              go_wp2
              go_roundw
              case rel => exact ⟨k + 1, by omega, by go_num, fun j hj => by
                rcases Nat.lt_or_ge j k with h | h
                · exact HE.out j h
                · obtain rfl : j = k := by omega
                  rw [← HX.out, ← HY.out], _, by rw [HW.out]; exact drewN_add _ _ _⟩
              case measure => simp [intOf]; omega
            · have hb1 : (x == y) = false := by simpa using he
              have hb2 : (x != y) = true := by simpa using he
              have HF : Hid (sameB xs ys = false) := by
                refine hid ?_
                simp only [sameB, decide_eq_false_iff_not]
                rintro rfl
                exact he (HX.out.trans HY.out.symm)
              clear he
              go_wp2
              go_quiet (fail)
              go_wp2
              go_ret
              exact ⟨by rw [HF.out]; rfl, _, by rw [HW.out]; exact drewN_add _ _ _⟩
          · obtain rfl : k = n := by omega
            go_wp2
            go_ret
            have : xs = ys := list_eq_of HL.out (fun j hj => HE.out j (by rw [HN.out]; exact hj))
            exact ⟨by rw [this, sameB_self]; rfl, q, HW.out⟩
  · have hd : (((xs.length : Nat) : Int) == ((ys.length : Nat) : Int)) = false := by simp; omega
    have hd' : (((xs.length : Nat) : Int) != ((ys.length : Nat) : Int)) = true := by simp; omega
    have HF : Hid (sameB xs ys = false) := by
      refine hid ?_
      simp only [sameB, decide_eq_false_iff_not]
      rintro rfl
      exact hl rfl
    obtain ⟨ao, cap, rfl⟩ := ints_val ha
    obtain ⟨ao', cap', rfl⟩ := ints_val hb
    clear ha hb hl
    generalize xs.length = n at *
    generalize ys.length = m at *
    go_enter Try.func70, Try.ntmps70
    go_wp2
    go_ret
    exact ⟨by rw [HF.out]; rfl, 0, rfl⟩

theorem equalQ' (xs ys : List Int) (r : Bool) (hr : sameB xs ys = r) (v u : Value) (B C : Nat) (w : World) (ha : Ints w B v xs) (hb : Ints w C u ys) (hn : xs.length ≤ 1099511627776) (hm : ys.length ≤ 1099511627776) (q : Nat) :
    Calls Try.prog 70 #[v, u] (w.drewN q) fun e w' => e = .returned (.bool r) ∧ ∃ m, w' = w.drewN m :=
  (equalQ xs ys v u B C (w.drewN q) ha hb hn hm).mono fun _ _ h => ⟨by rw [h.1, hr], by obtain ⟨m, hm⟩ := h.2; exact ⟨q + m, by rw [hm, drewN_add]⟩⟩

set_option maxHeartbeats 800000 in
theorem equalFunc (a b : List (List Int)) (v u : Value) (B C : Nat) (w : World) (ha : ss.Rows w B v a) (hb : ss.Rows w C u b) (hn : a.length ≤ 1099511627776) (hm : b.length ≤ 1099511627776) (sa : Short a 1099511627776) (sb : Short b 1099511627776) :
    Calls Try.prog 69 #[v, u, .func (.func 70) #[] #[]] w fun e w' => e = .returned (.bool (sameR a b)) ∧ ∃ q, w' = w.drewN q := by
  have eg := enters_of Try.func70 (by kernel_rfl) rfl
  by_cases hl : a.length = b.length
  · rcases ha with ⟨rfl, ao, cap, rfl⟩ | ⟨hp, g, off, cap, V, rfl, hb', hc⟩
    · rcases hb with ⟨rfl, ao', cap', rfl⟩ | ⟨hp', _⟩
      · go_enter Try.func69, Try.ntmps69
        go_wp2
        refine wp_loop_rounds 1 ?_
        rw [rounds_succ]
        go_wp2
        go_ret
        exact ⟨rfl, 0, rfl⟩
      · simp at hl; omega
    · rcases hb with ⟨rfl, ao', cap', rfl⟩ | ⟨hp', g', off', cap', U, rfl, hb'', hc'⟩
      · simp at hl; subst hl; simp at hp
      · have HS' := hid sb
        rw [← hl] at hc' ⊢
        obtain ⟨n, hnn⟩ : ∃ n, n = a.length := ⟨_, rfl⟩
        rw [← hnn] at hp hc hc' hn ⊢
        have HN := hid hnn
        have HL := hid hl
        have HC := hid hc
        have HC' := hid hc'
        have HS := hid sa
        clear hnn hl hp' hm hc hc' sa sb
        go_enter Try.func69, Try.ntmps69
        go_wp2
        go_loopw [17] (fun i wr => ∃ k : Nat, k ≤ n ∧ i = .int .i64 k ∧ (∀ j, j < k → a.getD j [] = b.getD j []) ∧ ∃ q, wr = w.drewN q)
          (fun i _ => n - (intOf i).toNat)
        case atStart => exact ⟨0, Nat.zero_le _, rfl, fun j hj => by omega, 0, rfl⟩
        case round =>
          obtain ⟨k, hk, rfl, heq, q, hwr⟩ := hrel
          have HE := hid heq
          have HW := hid hwr
          clear heq hwr
          by_cases hlt : k < n
          · have h1 : wr.cell? ⟨g, off + k, none⟩ = some (V k) := by rw [HW.out]; exact (HC.out k hlt).1
            have h2 : wr.cell? ⟨g', off' + k, none⟩ = some (U k) := by rw [HW.out]; exact (HC'.out k hlt).1
            have HI1 : Hid (Ints wr B (V k) (a.getD k [])) := hid (by rw [HW.out]; exact (HC.out k hlt).2)
            have HI2 : Hid (Ints wr C (U k) (b.getD k [])) := hid (by rw [HW.out]; exact (HC'.out k hlt).2)
            have HQ := hid (fun r hr q => equalQ' (a.getD k []) (b.getD k []) r hr (V k) (U k) B C wr HI1.out HI2.out (HS.out k (by rw [← HN.out]; exact hlt)) (HS'.out k (by rw [← HL.out, ← HN.out]; exact hlt)) q)
            clear HI1 HI2
            generalize V k = x at *
            generalize U k = y at *
            by_cases he : a.getD k [] = b.getD k []
            · have HQ1 := hid (HQ.out true (by rw [he]; exact sameB_self _))
              have HX := hid he
              clear he HQ
              go_wp2_with fail
              refine (HQ1.out 0).mono ?_
              rintro e w1 ⟨rfl, nq, rfl⟩
              go_wp2
              go_roundw
              case rel => exact ⟨k + 1, by omega, by go_num, fun j hj => by
                rcases Nat.lt_or_ge j k with h | h
                · exact HE.out j h
                · obtain rfl : j = k := by omega
                  exact HX.out, _, by rw [HW.out]; exact drewN_add _ _ _⟩
              case measure => simp [intOf]; omega
            · have HQ1 := hid (HQ.out false (by unfold sameB; exact decide_eq_false he))
              have HF : Hid (sameR a b = false) := by
                refine hid ?_
                simp only [sameR, decide_eq_false_iff_not]
                rintro rfl
                exact he rfl
              clear he HQ
              go_wp2_with fail
              refine (HQ1.out 0).mono ?_
              rintro e w1 ⟨rfl, nq, rfl⟩
              go_wp2
              go_ret
              exact ⟨by rw [HF.out]; rfl, _, by rw [HW.out]; exact drewN_add _ _ _⟩
          · obtain rfl : k = n := by omega
            go_wp2
            go_ret
            have : a = b := rows_eq_of HL.out (fun j hj => HE.out j (by rw [HN.out]; exact hj))
            exact ⟨by rw [this, sameR_self]; rfl, q, HW.out⟩
  · have hd : (((a.length : Nat) : Int) == ((b.length : Nat) : Int)) = false := by simp; omega
    have hd' : (((a.length : Nat) : Int) != ((b.length : Nat) : Int)) = true := by simp; omega
    have HF : Hid (sameR a b = false) := by
      refine hid ?_
      simp only [sameR, decide_eq_false_iff_not]
      rintro rfl
      exact hl rfl
    obtain ⟨ao, cap, rfl⟩ := rows_val ha
    obtain ⟨ao', cap', rfl⟩ := rows_val hb
    clear ha hb hl sa sb
    generalize a.length = n at *
    generalize b.length = m at *
    go_enter Try.func69, Try.ntmps69
    go_wp2
    go_ret
    exact ⟨by rw [HF.out]; rfl, 0, rfl⟩

theorem sameRowsQ (a b : List (List Int)) (v u : Value) (B C : Nat) (w : World) (ha : ss.Rows w B v a) (hb : ss.Rows w C u b) (qa : Small a) (qb : Small b) :
    Calls Try.prog 44 #[v, u] w fun e w' => e = .returned (.bool (sameR a b)) ∧ ∃ q, w' = w.drewN q := by
  have HE := hid (equalFunc a b v u B C w ha hb (by have := qa.len; omega) (by have := qb.len; omega) qa.short qb.short)
  obtain ⟨ao, cap, rfl⟩ := rows_val ha
  obtain ⟨ao', cap', rfl⟩ := rows_val hb
  clear ha hb qa qb
  generalize a.length = n at *
  generalize b.length = m at *
  generalize sameR a b = r at *
  go_enter Try.func44, Try.ntmps44
  go_wp2_with fail
  refine HE.out.mono ?_
  rintro e w1 ⟨rfl, q1, rfl⟩
  go_wp2
  go_ret
  exact ⟨rfl, q1, rfl⟩

theorem sameN_1 {s p t q : Int} {a b : List (List Int)} (h : ¬ s = t) : sameN s p t q a b = false := by simp [sameN, h]
theorem sameN_2 {s p t q : Int} {a b : List (List Int)} (h : ¬ p = q) : sameN s p t q a b = false := by simp [sameN, h]
theorem sameN_3 {s p t q : Int} {a b : List (List Int)} (h : ¬ a = b) : sameN s p t q a b = false := by simp [sameN, sameR, h]

attribute [local go_sem] undef
end Go.Proofs.Ytnmnikpgjglonaa.nb
