/-
  Contracts of SameBraid, of the program and of its model.
-/
import Derived.Test.YtalcmicfjakgpacMp
namespace Go.Proofs.Ytalcmicfjakgpac.br
open Go.RowKit Go.Proofs.Ytalcmicfjakgpac.sl Go.Proofs.Ytalcmicfjakgpac.pm Go.Proofs.Ytalcmicfjakgpac.bw

theorem specSameI (xs ys : List Int) (v u : Value) (B C : Nat) (w : World) (ha : Ints w B v xs) (hb : Ints w C u ys) (hn : xs.length ≤ 1099511627776) (hm : ys.length ≤ 1099511627776) :
    Calls Try.prog 56 #[v, u] w fun e w' => e = .returned (.bool (sameB xs ys)) ∧ Below w.heap.size w w' := by
  by_cases hl : xs.length = ys.length
  · rcases ha with ⟨rfl, ao, cap, rfl⟩ | ⟨hp, b, off, cap, rfl, hb', hc⟩
    · rcases hb with ⟨rfl, ao', cap', rfl⟩ | ⟨hp', _⟩
      · go_enter Try.func56, Try.ntmps56
        go_wp2
        refine wp_loop_rounds 1 ?_
        rw [rounds_succ]
        go_wp2
        go_ret
        exact ⟨rfl, Below.refl _ _⟩
      · simp at hl; omega
    · rcases hb with ⟨rfl, ao', cap', rfl⟩ | ⟨hp', b', off', cap', rfl, hb'', hc'⟩
      · simp at hl; subst hl; simp at hp
      · rw [← hl] at hc' ⊢
        obtain ⟨n, hnn⟩ : ∃ n, n = xs.length := ⟨_, rfl⟩
        rw [← hnn] at hp hc hc' hn ⊢
        have HN := hid hnn
        have HL := hid hl
        clear hnn hl hp' hm
        go_enter Try.func56, Try.ntmps56
        go_wp2
        go_loopw [5] (fun i wr => ∃ k : Nat, k ≤ n ∧ i = .int .i64 k ∧ (∀ j, j < k → xs.getD j 0 = ys.getD j 0) ∧ Below w.heap.size w wr ∧ (∀ j, j < n → wr.cell? ⟨b, off + j, none⟩ = some (.int .i64 (xs.getD j 0))) ∧ (∀ j, j < n → wr.cell? ⟨b', off' + j, none⟩ = some (.int .i64 (ys.getD j 0))))
          (fun i _ => n - (intOf i).toNat)
        case atStart => exact ⟨0, Nat.zero_le _, rfl, fun j hj => by omega, Below.refl _ _, hc, hc'⟩
        case round =>
          obtain ⟨k, hk, rfl, heq, hbel, hcr, hcr'⟩ := hrel
          have HE := hid heq
          clear heq
          have HC := hid hcr
          have HC' := hid hcr'
          clear hcr hcr' hc hc'
          by_cases hlt : k < n
          · have h1 := HC.out k hlt
            have h2 := HC'.out k hlt
            obtain ⟨x, hx⟩ : ∃ x, x = xs.getD k 0 := ⟨_, rfl⟩
            obtain ⟨y, hy⟩ : ∃ y, y = ys.getD k 0 := ⟨_, rfl⟩
            rw [← hx] at h1
            rw [← hy] at h2
            have HX := hid hx
            have HY := hid hy
            clear hx hy
            by_cases he : x = y
            · subst he
              go_wp2
              go_quiet (fail)
              go_wp2
              go_roundw
              case rel => exact ⟨k + 1, by omega, by go_num, fun j hj => by
                rcases Nat.lt_or_ge j k with h | h
                · exact HE.out j h
                · obtain rfl : j = k := by omega
                  rw [← HX.out, ← HY.out], by repeat (first | exact hbel | apply Below.drew | (refine bdrewN ?_ _)), HC.out, HC'.out⟩
              case measure => simp [intOf]; omega
            · have hb1 : (x == y) = false := by simpa using he
              have hb2 : (x != y) = true := by simpa using he
              have HF : Hid (sameB xs ys = false) := by
                refine hid ?_
                simp only [sameB, decide_eq_false_iff_not]
                rintro rfl
                exact he (HX.out.trans HY.out.symm)
              clear he
              go_wp2
              go_quiet (fail)
              go_wp2
              go_ret
              exact ⟨by rw [HF.out]; rfl, by repeat (first | exact hbel | apply Below.drew | (refine bdrewN ?_ _))⟩
          · obtain rfl : k = n := by omega
            go_wp2
            go_ret
            have : xs = ys := list_eq_of HL.out (fun j hj => HE.out j (by rw [HN.out]; exact hj))
            exact ⟨by rw [this, sameB_self]; rfl, hbel⟩
  · have hd : (((xs.length : Nat) : Int) == ((ys.length : Nat) : Int)) = false := by simp; omega
    have hd' : (((xs.length : Nat) : Int) != ((ys.length : Nat) : Int)) = true := by simp; omega
    have HF : Hid (sameB xs ys = false) := by
      refine hid ?_
      simp only [sameB, decide_eq_false_iff_not]
      rintro rfl
      exact hl rfl
    obtain ⟨ao, cap, rfl⟩ : ∃ ao cap, v = .slice ao xs.length cap := by
      rcases ha with ⟨rfl, ao, cap, rfl⟩ | ⟨hp, b, off, cap, rfl, hb', hc⟩ <;> exact ⟨_, _, rfl⟩
    obtain ⟨ao', cap', rfl⟩ : ∃ ao cap, u = .slice ao ys.length cap := by
      rcases hb with ⟨rfl, ao, cap, rfl⟩ | ⟨hp, b, off, cap, rfl, hb', hc⟩ <;> exact ⟨_, _, rfl⟩
    clear ha hb hl
    generalize xs.length = n at *
    generalize ys.length = m at *
    go_enter Try.func56, Try.ntmps56
    go_wp2
    go_ret
    exact ⟨by rw [HF.out]; rfl, Below.refl _ _⟩


theorem implSameI (xs ys : List Int) (v u : Value) (B C : Nat) (w : World) (ha : Ints w B v xs) (hb : Ints w C u ys) (hn : xs.length ≤ 1099511627776) (hm : ys.length ≤ 1099511627776) :
    Calls Try.prog 57 #[v, u] w fun e w' => e = .returned (.bool (sameB xs ys)) ∧ Below w.heap.size w w' := by
  by_cases hl : xs.length = ys.length
  · rcases ha with ⟨rfl, ao, cap, rfl⟩ | ⟨hp, b, off, cap, rfl, hb', hc⟩
    · rcases hb with ⟨rfl, ao', cap', rfl⟩ | ⟨hp', _⟩
      · go_enter Try.func57, Try.ntmps57
        go_wp2
        refine wp_loop_rounds 1 ?_
        rw [rounds_succ]
        go_wp2
        go_ret
        exact ⟨rfl, Below.refl _ _⟩
      · simp at hl; omega
    · rcases hb with ⟨rfl, ao', cap', rfl⟩ | ⟨hp', b', off', cap', rfl, hb'', hc'⟩
      · simp at hl; subst hl; simp at hp
      · rw [← hl] at hc' ⊢
        obtain ⟨n, hnn⟩ : ∃ n, n = xs.length := ⟨_, rfl⟩
        rw [← hnn] at hp hc hc' hn ⊢
        have HN := hid hnn
        have HL := hid hl
        clear hnn hl hp' hm
        go_enter Try.func57, Try.ntmps57
        go_wp2
        go_loopw [13] (fun i wr => ∃ k : Nat, k ≤ n ∧ i = .int .i64 k ∧ (∀ j, j < k → xs.getD j 0 = ys.getD j 0) ∧ Below w.heap.size w wr ∧ (∀ j, j < n → wr.cell? ⟨b, off + j, none⟩ = some (.int .i64 (xs.getD j 0))) ∧ (∀ j, j < n → wr.cell? ⟨b', off' + j, none⟩ = some (.int .i64 (ys.getD j 0))))
          (fun i _ => n - (intOf i).toNat)
        case atStart => exact ⟨0, Nat.zero_le _, rfl, fun j hj => by omega, Below.refl _ _, hc, hc'⟩
        case round =>
          obtain ⟨k, hk, rfl, heq, hbel, hcr, hcr'⟩ := hrel
          have HE := hid heq
          clear heq
          have HC := hid hcr
          have HC' := hid hcr'
          clear hcr hcr' hc hc'
          by_cases hlt : k < n
          · have h1 := HC.out k hlt
            have h2 := HC'.out k hlt
            obtain ⟨x, hx⟩ : ∃ x, x = xs.getD k 0 := ⟨_, rfl⟩
            obtain ⟨y, hy⟩ : ∃ y, y = ys.getD k 0 := ⟨_, rfl⟩
            rw [← hx] at h1
            rw [← hy] at h2
            have HX := hid hx
            have HY := hid hy
            clear hx hy
            by_cases he : x = y
            · subst he
              go_wp2
              go_quiet (fail)
              go_wp2
              go_roundw
              case rel => exact ⟨k + 1, by omega, by go_num, fun j hj => by
                rcases Nat.lt_or_ge j k with h | h
                · exact HE.out j h
                · obtain rfl : j = k := by omega
                  rw [← HX.out, ← HY.out], by repeat (first | exact hbel | apply Below.drew | (refine bdrewN ?_ _)), HC.out, HC'.out⟩
              case measure => simp [intOf]; omega
            · have hb1 : (x == y) = false := by simpa using he
              have hb2 : (x != y) = true := by simpa using he
              have HF : Hid (sameB xs ys = false) := by
                refine hid ?_
                simp only [sameB, decide_eq_false_iff_not]
                rintro rfl
                exact he (HX.out.trans HY.out.symm)
              clear he
              go_wp2
              go_quiet (fail)
              go_wp2
              go_ret
              exact ⟨by rw [HF.out]; rfl, by repeat (first | exact hbel | apply Below.drew | (refine bdrewN ?_ _))⟩
          · obtain rfl : k = n := by omega
            go_wp2
            go_ret
            have : xs = ys := list_eq_of HL.out (fun j hj => HE.out j (by rw [HN.out]; exact hj))
            exact ⟨by rw [this, sameB_self]; rfl, hbel⟩
  · have hd : (((xs.length : Nat) : Int) == ((ys.length : Nat) : Int)) = false := by simp; omega
    have hd' : (((xs.length : Nat) : Int) != ((ys.length : Nat) : Int)) = true := by simp; omega
    have HF : Hid (sameB xs ys = false) := by
      refine hid ?_
      simp only [sameB, decide_eq_false_iff_not]
      rintro rfl
      exact hl rfl
    obtain ⟨ao, cap, rfl⟩ : ∃ ao cap, v = .slice ao xs.length cap := by
      rcases ha with ⟨rfl, ao, cap, rfl⟩ | ⟨hp, b, off, cap, rfl, hb', hc⟩ <;> exact ⟨_, _, rfl⟩
    obtain ⟨ao', cap', rfl⟩ : ∃ ao cap, u = .slice ao ys.length cap := by
      rcases hb with ⟨rfl, ao, cap, rfl⟩ | ⟨hp, b, off, cap, rfl, hb', hc⟩ <;> exact ⟨_, _, rfl⟩
    clear ha hb hl
    generalize xs.length = n at *
    generalize ys.length = m at *
    go_enter Try.func57, Try.ntmps57
    go_wp2
    go_ret
    exact ⟨by rw [HF.out]; rfl, Below.refl _ _⟩


theorem specSameB (s : Int) (xs : List Int) (t : Int) (ys : List Int) (v u : Value) (B C : Nat) (w : World) (ha : Ints w B v xs) (_hB : B ≤ w.heap.size) (hb : Ints w C u ys) (_hC : C ≤ w.heap.size) (hn : xs.length ≤ 1099511627776) (hm : ys.length ≤ 1099511627776) :
    Calls Try.prog 24 #[.agg #[.int .i64 s, v], .agg #[.int .i64 t, u]] w fun e w' => e = .returned (.bool (sameBr s t xs ys)) ∧ Below w.heap.size w w' := by
  obtain ⟨ao, cap, hv⟩ := ints_val ha
  obtain ⟨ao', cap', hu⟩ := ints_val hb
  obtain ⟨n, hnn⟩ : ∃ n, n = xs.length := ⟨_, rfl⟩
  obtain ⟨m, hmm⟩ : ∃ m, m = ys.length := ⟨_, rfl⟩
  rw [← hnn] at hv
  rw [← hmm] at hu
  subst hv hu
  have HA := hid ha
  have HB := hid hb
  clear ha hb hnn hmm
  by_cases h : s = t
  · subst h
    have HF : Hid (sameBr s s xs ys = sameB xs ys) := hid (by simp [sameBr])
    go_enter Try.func24, Try.ntmps24
    go_wp2_with fail
    refine (specSameI xs ys _ _ B C _ (ints_al (ints_al HA.out _) _) (ints_al (ints_al HB.out _) _) hn hm).mono ?_
    rintro e w1 ⟨rfl, b1⟩
    have HB1 := hid (box2 b1).2.2.1
    clear b1
    generalize sameB xs ys = q at *
    go_wp2
    go_ret
    exact ⟨by rw [HF.out]; rfl, HB1.out⟩
  · have HF : Hid (sameBr s t xs ys = false) := hid (by simp [sameBr, h])
    have hd1 : (s == t) = false := by simpa using h
    clear h
    go_enter Try.func24, Try.ntmps24
    go_wp2
    go_ret
    exact ⟨by rw [HF.out]; rfl, ((Below.refl w.heap.size w).alloc (Nat.le_refl _) _).alloc (by simp) _⟩

theorem implSameB (s : Int) (xs : List Int) (t : Int) (ys : List Int) (v u : Value) (B C : Nat) (w : World) (ha : Ints w B v xs) (_hB : B ≤ w.heap.size) (hb : Ints w C u ys) (_hC : C ≤ w.heap.size) (hn : xs.length ≤ 1099511627776) (hm : ys.length ≤ 1099511627776) :
    Calls Try.prog 25 #[.agg #[.int .i64 s, v], .agg #[.int .i64 t, u]] w fun e w' => e = .returned (.bool (sameBr s t xs ys)) ∧ Below w.heap.size w w' := by
  obtain ⟨ao, cap, hv⟩ := ints_val ha
  obtain ⟨ao', cap', hu⟩ := ints_val hb
  obtain ⟨n, hnn⟩ : ∃ n, n = xs.length := ⟨_, rfl⟩
  obtain ⟨m, hmm⟩ : ∃ m, m = ys.length := ⟨_, rfl⟩
  rw [← hnn] at hv
  rw [← hmm] at hu
  subst hv hu
  have HA := hid ha
  have HB := hid hb
  clear ha hb hnn hmm
  by_cases h : s = t
  · subst h
    have HF : Hid (sameBr s s xs ys = sameB xs ys) := hid (by simp [sameBr])
    go_enter Try.func25, Try.ntmps25
    go_wp2_with fail
    refine (implSameI xs ys _ _ B C _ (ints_al (ints_al HA.out _) _) (ints_al (ints_al HB.out _) _) hn hm).mono ?_
    rintro e w1 ⟨rfl, b1⟩
    have HB1 := hid (box2 b1).2.2.1
    clear b1
    generalize sameB xs ys = q at *
    go_wp2
    go_ret
    exact ⟨by rw [HF.out]; rfl, HB1.out⟩
  · have HF : Hid (sameBr s t xs ys = false) := hid (by simp [sameBr, h])
    have hd1 : (s == t) = false := by simpa using h
    clear h
    go_enter Try.func25, Try.ntmps25
    go_wp2
    go_ret
    exact ⟨by rw [HF.out]; rfl, ((Below.refl w.heap.size w).alloc (Nat.le_refl _) _).alloc (by simp) _⟩
end Go.Proofs.Ytalcmicfjakgpac.br
