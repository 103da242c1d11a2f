/-
  Lists and lists of lists compared: contracts of l00Same and slices.Equal (quiet), slices.EqualFunc, sameRows; SameNormal of both sides.
-/
import Derived.Test.YtglkchcfggclaaaNb
import Derived.Test.YtglkchcfggclaaaBv
namespace Go.Proofs.Ytglkchcfggclaaa.nb
open Go.RowKit Go.Proofs.Ytglkchcfggclaaa.sl Go.Proofs.Ytglkchcfggclaaa.br Go.Proofs.Ytglkchcfggclaaa.ss
set_option linter.unusedVariables false

set_option maxHeartbeats 800000 in
theorem sameQ (xs ys : List Int) (v u : Value) (B C : Nat) (w : World) (ha : Ints w B v xs) (hb : Ints w C u ys) (hn : xs.length ≤ 1099511627776) (hm : ys.length ≤ 1099511627776) :
    Calls Try.prog 21 #[v, u] w fun e w' => e = .returned (.bool (sameB xs ys)) ∧ ∃ q, w' = w.drewN q := by
  by_cases hl : xs.length = ys.length
  · rcases ha with ⟨rfl, ao, cap, rfl⟩ | ⟨hp, b, off, cap, rfl, hb', hc⟩
    · rcases hb with ⟨rfl, ao', cap', rfl⟩ | ⟨hp', _⟩
      · go_enter Try.func21, Try.ntmps21
        go_wp2
        refine wp_loop_rounds 1 ?_
        rw [rounds_succ]
        go_wp2
        go_ret
        exact ⟨rfl, 0, rfl⟩
      · simp at hl; omega
    · rcases hb with ⟨rfl, ao', cap', rfl⟩ | ⟨hp', b', off', cap', rfl, hb'', hc'⟩
      · simp at hl; subst hl; simp at hp
      · rw [← hl] at hc' ⊢
        obtain ⟨n, hnn⟩ : ∃ n, n = xs.length := ⟨_, rfl⟩
        rw [← hnn] at hp hc hc' hn ⊢
        have HN := hid hnn
        have HL := hid hl
        have HC := hid hc
        have HC' := hid hc'
        clear hnn hl hp' hm hc hc'
        go_enter Try.func21, Try.ntmps21
        go_wp2
        go_loopw [5] (fun i wr => ∃ k : Nat, k ≤ n ∧ i = .int .i64 k ∧ (∀ j, j < k → xs.getD j 0 = ys.getD j 0) ∧ ∃ q, wr = w.drewN q)
          (fun i _ => n - (intOf i).toNat)
        case atStart => exact ⟨0, Nat.zero_le _, rfl, fun j hj => by omega, 0, rfl⟩
        case round =>
          obtain ⟨k, hk, rfl, heq, q, hwr⟩ := hrel
          have HE := hid heq
          have HW := hid hwr
          clear heq hwr
          by_cases hlt : k < n
          · have h1 : wr.cell? ⟨b, off + k, none⟩ = some (.int .i64 (xs.getD k 0)) := by rw [HW.out]; exact HC.out k hlt
            have h2 : wr.cell? ⟨b', off' + k, none⟩ = some (.int .i64 (ys.getD k 0)) := by rw [HW.out]; exact HC'.out k hlt
            obtain ⟨x, hx⟩ : ∃ x, x = xs.getD k 0 := ⟨_, rfl⟩
            obtain ⟨y, hy⟩ : ∃ y, y = ys.getD k 0 := ⟨_, rfl⟩
            rw [← hx] at h1
            rw [← hy] at h2
            have HX := hid hx
            have HY := hid hy
            clear hx hy
            by_cases he : x = y
            · subst he
              go_wp2
              go_quiet (fail)
              go_wp2
              go_roundw
              case rel => exact ⟨k + 1, by omega, by go_num, fun j hj => by
                rcases Nat.lt_or_ge j k with h | h
                · exact HE.out j h
                · obtain rfl : j = k := by omega
                  rw [← HX.out, ← HY.out], _, by rw [HW.out]; exact drewN_add _ _ _⟩
              case measure => simp [intOf]; omega
            · have hb1 : (x == y) = false := by simpa using he
              have hb2 : (x != y) = true := by simpa using he
              have HF : Hid (sameB xs ys = false) := by
                refine hid ?_
                simp only [sameB, decide_eq_false_iff_not]
                rintro rfl
                exact he (HX.out.trans HY.out.symm)
              clear he
              go_wp2
              go_quiet (fail)
              go_wp2
              go_ret
              exact ⟨by rw [HF.out]; rfl, _, by rw [HW.out]; exact drewN_add _ _ _⟩
          · obtain rfl : k = n := by omega
            go_wp2
            go_ret
            have : xs = ys := list_eq_of HL.out (fun j hj => HE.out j (by rw [HN.out]; exact hj))
            exact ⟨by rw [this, sameB_self]; rfl, q, HW.out⟩
  · have hd : (((xs.length : Nat) : Int) == ((ys.length : Nat) : Int)) = false := by simp; omega
    have hd' : (((xs.length : Nat) : Int) != ((ys.length : Nat) : Int)) = true := by simp; omega
    have HF : Hid (sameB xs ys = false) := by
      refine hid ?_
      simp only [sameB, decide_eq_false_iff_not]
      rintro rfl
      exact hl rfl
    obtain ⟨ao, cap, rfl⟩ := ints_val ha
    obtain ⟨ao', cap', rfl⟩ := ints_val hb
    clear ha hb hl
    generalize xs.length = n at *
    generalize ys.length = m at *
    go_enter Try.func21, Try.ntmps21
    go_wp2
    go_ret
    exact ⟨by rw [HF.out]; rfl, 0, rfl⟩

theorem sameQ' (xs ys : List Int) (r : Bool) (hr : sameB xs ys = r) (v u : Value) (B C : Nat) (w : World) (ha : Ints w B v xs) (hb : Ints w C u ys) (hn : xs.length ≤ 1099511627776) (hm : ys.length ≤ 1099511627776) (q : Nat) :
    Calls Try.prog 21 #[v, u] (w.drewN q) fun e w' => e = .returned (.bool r) ∧ ∃ m, w' = w.drewN m :=
  (sameQ xs ys v u B C (w.drewN q) ha hb hn hm).mono fun _ _ h => ⟨by rw [h.1, hr], by obtain ⟨m, hm⟩ := h.2; exact ⟨q + m, by rw [hm, drewN_add]⟩⟩

set_option maxHeartbeats 800000 in
theorem equalQ (xs ys : List Int) (v u : Value) (B C : Nat) (w : World) (ha : Ints w B v xs) (hb : Ints w C u ys) (hn : xs.length ≤ 1099511627776) (hm : ys.length ≤ 1099511627776) :
    Calls Try.prog 32 #[v, u] w fun e w' => e = .returned (.bool (sameB xs ys)) ∧ ∃ q, w' = w.drewN q := by
  by_cases hl : xs.length = ys.length
  · rcases ha with ⟨rfl, ao, cap, rfl⟩ | ⟨hp, b, off, cap, rfl, hb', hc⟩
    · rcases hb with ⟨rfl, ao', cap', rfl⟩ | ⟨hp', _⟩
      · go_enter Try.func32, Try.ntmps32
        go_wp2
        refine wp_loop_rounds 1 ?_
        rw [rounds_succ]
        go_wp2
        go_ret
        exact ⟨rfl, 0, rfl⟩
      · simp at hl; omega
    · rcases hb with ⟨rfl, ao', cap', rfl⟩ | ⟨hp', b', off', cap', rfl, hb'', hc'⟩
      · simp at hl; subst hl; simp at hp
      · rw [← hl] at hc' ⊢
        obtain ⟨n, hnn⟩ : ∃ n, n = xs.length := ⟨_, rfl⟩
        rw [← hnn] at hp hc hc' hn ⊢
        have HN := hid hnn
        have HL := hid hl
        have HC := hid hc
        have HC' := hid hc'
        clear hnn hl hp' hm hc hc'
        go_enter Try.func32, Try.ntmps32
        go_wp2
        go_loopw [13] (fun i wr => ∃ k : Nat, k ≤ n ∧ i = .int .i64 k ∧ (∀ j, j < k → xs.getD j 0 = ys.getD j 0) ∧ ∃ q, wr = w.drewN q)
          (fun i _ => n - (intOf i).toNat)
        case atStart => exact ⟨0, Nat.zero_le _, rfl, fun j hj => by omega, 0, rfl⟩
        case round =>
          obtain ⟨k, hk, rfl, heq, q, hwr⟩ := hrel
          have HE := hid heq
          have HW := hid hwr
          clear heq hwr
          by_cases hlt : k < n
          · have h1 : wr.cell? ⟨b, off + k, none⟩ = some (.int .i64 (xs.getD k 0)) := by rw [HW.out]; exact HC.out k hlt
            have h2 : wr.cell? ⟨b', off' + k, none⟩ = some (.int .i64 (ys.getD k 0)) := by rw [HW.out]; exact HC'.out k hlt
            obtain ⟨x, hx⟩ : ∃ x, x = xs.getD k 0 := ⟨_, rfl⟩
            obtain ⟨y, hy⟩ : ∃ y, y = ys.getD k 0 := ⟨_, rfl⟩
            rw [← hx] at h1
            rw [← hy] at h2
            have HX := hid hx
            have HY := hid hy
            clear hx hy
            by_cases he : x = y
            · subst he
              go_wp2
              go_quiet (fail)
              go_wp2
              go_roundw
              case rel => exact ⟨k + 1, by omega, by go_num, fun j hj => by
                rcases Nat.lt_or_ge j k with h | h
                · exact HE.out j h
                · obtain rfl : j = k := by omega
                  rw [← HX.out, ← HY.out], _, by rw [HW.out]; exact drewN_add _ _ _⟩
              case measure => simp [intOf]; omega
            · have hb1 : (x == y) = false := by simpa using he
              have hb2 : (x != y) = true := by simpa using he
              have HF : Hid (sameB xs ys = false) := by
                refine hid ?_
                simp only [sameB, decide_eq_false_iff_not]
                rintro rfl
                exact he (HX.out.trans HY.out.symm)
              clear he
              go_wp2
              go_quiet (fail)
              go_wp2
              go_ret
              exact ⟨by rw [HF.out]; rfl, _, by rw [HW.out]; exact drewN_add _ _ _⟩
          · obtain rfl : k = n := by omega
            go_wp2
            go_ret
            have : xs = ys := list_eq_of HL.out (fun j hj => HE.out j (by rw [HN.out]; exact hj))
            exact ⟨by rw [this, sameB_self]; rfl, q, HW.out⟩
  · have hd : (((xs.length : Nat) : Int) == ((ys.length : Nat) : Int)) = false := by simp; omega
    have hd' : (((xs.length : Nat) : Int) != ((ys.length : Nat) : Int)) = true := by simp; omega
    have HF : Hid (sameB xs ys = false) := by
      refine hid ?_
      simp only [sameB, decide_eq_false_iff_not]
      rintro rfl
      exact hl rfl
    obtain ⟨ao, cap, rfl⟩ := ints_val ha
    obtain ⟨ao', cap', rfl⟩ := ints_val hb
    clear ha hb hl
    generalize xs.length = n at *
    generalize ys.length = m at *
    go_enter Try.func32, Try.ntmps32
    go_wp2
    go_ret
    exact ⟨by rw [HF.out]; rfl, 0, rfl⟩

theorem equalQ' (xs ys : List Int) (r : Bool) (hr : sameB xs ys = r) (v u : Value) (B C : Nat) (w : World) (ha : Ints w B v xs) (hb : Ints w C u ys) (hn : xs.length ≤ 1099511627776) (hm : ys.length ≤ 1099511627776) (q : Nat) :
    Calls Try.prog 32 #[v, u] (w.drewN q) fun e w' => e = .returned (.bool r) ∧ ∃ m, w' = w.drewN m :=
  (equalQ xs ys v u B C (w.drewN q) ha hb hn hm).mono fun _ _ h => ⟨by rw [h.1, hr], by obtain ⟨m, hm⟩ := h.2; exact ⟨q + m, by rw [hm, drewN_add]⟩⟩

theorem sameN_1 {s p t q : Int} {a b : List (List Int)} (h : ¬ s = t) : sameN s p t q a b = false := by simp [sameN, h]
theorem sameN_2 {s p t q : Int} {a b : List (List Int)} (h : ¬ p = q) : sameN s p t q a b = false := by simp [sameN, h]
theorem sameN_3 {s p t q : Int} {a b : List (List Int)} (h : ¬ a = b) : sameN s p t q a b = false := by simp [sameN, sameR, h]

attribute [local go_sem] undef
end Go.Proofs.Ytglkchcfggclaaa.nb
