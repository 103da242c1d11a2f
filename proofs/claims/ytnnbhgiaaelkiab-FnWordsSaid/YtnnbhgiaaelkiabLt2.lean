/-
  The lattice's law: contracts of its helpers a2Long, a2Same, a2Below and of the model's test.
-/
import Derived.Test.YtnnbhgiaaelkiabLt1
import Derived.BigQuiet
namespace Go.Proofs.Ytnnbhgiaaelkiab.lt
open Go.RowKit Go.Proofs.Ytnnbhgiaaelkiab.sl Go.Proofs.Ytnnbhgiaaelkiab.pm Go.Proofs.Ytnnbhgiaaelkiab.fn Go.Proofs.Ytnnbhgiaaelkiab.la Go.Proofs.Ytnnbhgiaaelkiab.mj Go.Proofs.Ytnnbhgiaaelkiab.sr

theorem long1 (n cap : Nat) (ao : Option Addr) (q : Bool) (hq : decide ((3000 : Int) < (n : Int)) = q) (w : World) :
    Calls Try.prog 22 #[.slice ao n cap, .slice none 0 0] w fun e w' => e = .returned (.bool q) ∧ w' = w := by
  cases q
  · go_enter Try.func22, Try.ntmps22
    go_wp2
    go_ret
    exact ⟨rfl, rfl⟩
  · go_enter Try.func22, Try.ntmps22
    go_wp2
    go_ret
    exact ⟨rfl, rfl⟩

theorem specValid (xs : List Int) (v : Value) (B : Nat) (w : World) (ha : sl.Ints w B v xs) (hB : B ≤ w.heap.size) (hn : xs.length ≤ 1099511627776) :
    Calls Try.prog 32 #[v] w fun e w' => e = .returned (.bool (pm.permB xs)) ∧ Below w.heap.size w w' := by
  have HA := hid ha
  clear ha
  go_enter Try.func32, Try.ntmps32
  go_wp2_with fail
  refine (pm.specOk xs v B w HA.out hB hn).mono ?_
  rintro e w1 ⟨rfl, hb⟩
  go_wp2
  go_ret
  exact ⟨rfl, hb⟩

theorem same2 (xs ys : List Int) (v u : Value) (B C : Nat) (w : World) (ha : Ints w B v xs) (hb : Ints w C u ys) (hn : xs.length ≤ 1099511627776) (hm : ys.length ≤ 1099511627776) :
    Calls Try.prog 28 #[v, u] w fun e w' => e = .returned (.bool (sameB xs ys)) ∧ Below w.heap.size w w' := by
  by_cases hl : xs.length = ys.length
  · rcases ha with ⟨rfl, ao, cap, rfl⟩ | ⟨hp, b, off, cap, rfl, hb', hc⟩
    · rcases hb with ⟨rfl, ao', cap', rfl⟩ | ⟨hp', _⟩
      · go_enter Try.func28, Try.ntmps28
        go_wp2
        refine wp_loop_rounds 1 ?_
        rw [rounds_succ]
        go_wp2
        go_ret
        exact ⟨rfl, Below.refl _ _⟩
      · simp at hl; omega
    · rcases hb with ⟨rfl, ao', cap', rfl⟩ | ⟨hp', b', off', cap', rfl, hb'', hc'⟩
      · simp at hl; subst hl; simp at hp
      · rw [← hl] at hc' ⊢
        obtain ⟨n, hnn⟩ : ∃ n, n = xs.length := ⟨_, rfl⟩
        rw [← hnn] at hp hc hc' hn ⊢
        have HN := hid hnn
        have HL := hid hl
        clear hnn hl hp' hm
        go_enter Try.func28, Try.ntmps28
        go_wp2
        go_loopw [5] (fun i wr => ∃ k : Nat, k ≤ n ∧ i = .int .i64 k ∧ (∀ j, j < k → xs.getD j 0 = ys.getD j 0) ∧ Below w.heap.size w wr ∧ (∀ j, j < n → wr.cell? ⟨b, off + j, none⟩ = some (.int .i64 (xs.getD j 0))) ∧ (∀ j, j < n → wr.cell? ⟨b', off' + j, none⟩ = some (.int .i64 (ys.getD j 0))))
          (fun i _ => n - (intOf i).toNat)
        case atStart => exact ⟨0, Nat.zero_le _, rfl, fun j hj => by omega, Below.refl _ _, hc, hc'⟩
        case round =>
          obtain ⟨k, hk, rfl, heq, hbel, hcr, hcr'⟩ := hrel
          have HE := hid heq
          clear heq
          have HC := hid hcr
          have HC' := hid hcr'
          clear hcr hcr' hc hc'
          by_cases hlt : k < n
          · have h1 := HC.out k hlt
            have h2 := HC'.out k hlt
            obtain ⟨x, hx⟩ : ∃ x, x = xs.getD k 0 := ⟨_, rfl⟩
            obtain ⟨y, hy⟩ : ∃ y, y = ys.getD k 0 := ⟨_, rfl⟩
            rw [← hx] at h1
            rw [← hy] at h2
            have HX := hid hx
            have HY := hid hy
            clear hx hy
            by_cases he : x = y
            · subst he
              go_wp2
              go_quiet (fail)
              go_wp2
              go_roundw
              case rel => exact ⟨k + 1, by omega, by go_num, fun j hj => by
                rcases Nat.lt_or_ge j k with h | h
                · exact HE.out j h
                · obtain rfl : j = k := by omega
                  rw [← HX.out, ← HY.out], by repeat (first | exact hbel | apply Below.drew | (refine bdrewN ?_ _)), HC.out, HC'.out⟩
              case measure => simp [intOf]; omega
            · have hb1 : (x == y) = false := by simpa using he
              have hb2 : (x != y) = true := by simpa using he
              have HF : Hid (sameB xs ys = false) := by
                refine hid ?_
                simp only [sameB, decide_eq_false_iff_not]
                rintro rfl
                exact he (HX.out.trans HY.out.symm)
              clear he
              go_wp2
              go_quiet (fail)
              go_wp2
              go_ret
              exact ⟨by rw [HF.out]; rfl, by repeat (first | exact hbel | apply Below.drew | (refine bdrewN ?_ _))⟩
          · obtain rfl : k = n := by omega
            go_wp2
            go_ret
            have : xs = ys := list_eq_of HL.out (fun j hj => HE.out j (by rw [HN.out]; exact hj))
            exact ⟨by rw [this, sameB_self]; rfl, hbel⟩
  · have hd : (((xs.length : Nat) : Int) == ((ys.length : Nat) : Int)) = false := by simp; omega
    have hd' : (((xs.length : Nat) : Int) != ((ys.length : Nat) : Int)) = true := by simp; omega
    have HF : Hid (sameB xs ys = false) := by
      refine hid ?_
      simp only [sameB, decide_eq_false_iff_not]
      rintro rfl
      exact hl rfl
    obtain ⟨ao, cap, rfl⟩ : ∃ ao cap, v = .slice ao xs.length cap := by
      rcases ha with ⟨rfl, ao, cap, rfl⟩ | ⟨hp, b, off, cap, rfl, hb', hc⟩ <;> exact ⟨_, _, rfl⟩
    obtain ⟨ao', cap', rfl⟩ : ∃ ao cap, u = .slice ao ys.length cap := by
      rcases hb with ⟨rfl, ao, cap, rfl⟩ | ⟨hp, b, off, cap, rfl, hb', hc⟩ <;> exact ⟨_, _, rfl⟩
    clear ha hb hl
    generalize xs.length = n at *
    generalize ys.length = m at *
    go_enter Try.func28, Try.ntmps28
    go_wp2
    go_ret
    exact ⟨by rw [HF.out]; rfl, Below.refl _ _⟩

theorem sameQ (xs ys : List Int) (q : Bool) (hq : xs = ys) (hq2 : q = true) (v u : Value) (B C : Nat) (w : World) (ha : Ints w B v xs) (hb : Ints w C u ys) (hn : xs.length ≤ 1099511627776) :
    Calls Try.prog 28 #[v, u] w fun e w' => e = .returned (.bool q) ∧ Below w.heap.size w w' := by
  subst hq
  subst hq2
  exact (same2 xs xs v u B C w ha hb hn hn).mono fun _ _ h => ⟨by rw [h.1, sameB_self], h.2⟩

/-! ### below -/
def badP (p q : List Int) (i j : Nat) : Bool := iv p i j && !iv q i j
theorem under_no {p q : List Int} (i j : Nat) (h : badP p q i j = true) : ¬ Under p q := by
  intro hu
  simp only [badP, Bool.and_eq_true, Bool.not_eq_true'] at h
  have := hu i j h.1
  rw [h.2] at this
  cases this
theorem under_yes {p q : List Int} (h : ∀ j, j < p.length → ∀ i, i < j → badP p q i j = false) : Under p q := by
  intro i j hi
  have h1 := iv_in hi
  have := h j h1.2 i h1.1
  simp only [badP, hi, Bool.true_and, Bool.not_eq_false'] at this
  exact this

set_option maxRecDepth 20000 in
set_option maxHeartbeats 800000 in
theorem below (p q : List Int) (v u : Value) (B C : Nat) (w : World) (ha : Ints w B v p) (hb : Ints w C u q) (hn : p.length ≤ 1000) (hl : p.length = q.length) :
    Calls Try.prog 33 #[v, u] w fun e w' => (∃ z : Bool, e = .returned (.bool z) ∧ (z = true ↔ Under p q)) ∧ Below w.heap.size w w' := by
  rcases ha with ⟨rfl, ao, cap, rfl⟩ | ⟨hp, b, off, cap, rfl, hb1, hc⟩
  · obtain ⟨ao', cap', rfl⟩ := ints_slice hb
    rw [← hl]
    clear hb
    go_enter Try.func33, Try.ntmps33
    go_wp2
    refine wp_loop_rounds 1 ?_
    rw [rounds_succ]
    go_wp2
    go_ret
    exact ⟨⟨true, rfl, by simp; exact under_yes (fun j hj => by simp at hj)⟩, Below.refl _ _⟩
  · rcases hb with ⟨rfl, ao', cap', rfl⟩ | ⟨hp', b', off', cap', rfl, hb2, hc'⟩
    · rw [List.length_nil] at hl; omega
    · rw [← hl] at hc' ⊢
      have hbw : b < w.heap.size := World.block_lt_of_cell? w _ (hc 0 hp)
      have hbw' : b' < w.heap.size := World.block_lt_of_cell? w _ (hc' 0 hp)
      obtain ⟨n, hnn⟩ : ∃ n, n = p.length := ⟨_, rfl⟩
      rw [← hnn] at hp hc hc' hn ⊢
      have HN := hid hnn
      have HL := hid hl
      have HC := hid hc
      have HC' := hid hc'
      clear hnn hp' hl hc hc'
      go_enter Try.func33, Try.ntmps33
      go_wp2
      go_loopw [5] (fun jv wr => ∃ j : Nat, j ≤ n ∧ jv = .int .i64 j ∧ (∀ j', j' < j → ∀ i, i < j' → badP p q i j' = false) ∧ Below w.heap.size w wr)
        (fun jv _ => n - (intOf jv).toNat)
      case atStart => exact ⟨0, Nat.zero_le _, rfl, fun j' h => by omega, Below.refl _ _⟩
      case round =>
        obtain ⟨j, hj, rfl, hg, hbel⟩ := hrel
        obtain ⟨wo, hwo⟩ : ∃ wo : World, wo = wr := ⟨_, rfl⟩
        subst hwo
        have HG := hid hg
        have HB := hid hbel
        clear hg hbel
        by_cases hjl : j < n
        · have hjI : (j : Int) < (n : Int) := by omega
          have hjd : decide ((j : Int) < (n : Int)) = true := decide_eq_true hjI
          go_wp2
          go_loopw [6] (fun iv' wx => ∃ i : Nat, i ≤ j ∧ iv' = .int .i64 i ∧ (∀ i', i' < i → badP p q i' j = false) ∧ Below w.heap.size w wx)
            (fun iv' _ => j - (intOf iv').toNat)
          case atStart => exact ⟨0, Nat.zero_le _, rfl, fun i' h => by omega, HB.out⟩
          case round =>
            obtain ⟨i, hi, rfl, hg2, hbel⟩ := hrel
            have HG2 := hid hg2
            have HB2 := hid hbel
            clear hg2 hbel HB
            by_cases hil : i < j
            · have hiI : (i : Int) < (j : Int) := by omega
              have hiN : (i : Int) < (n : Int) := by omega
              obtain ⟨x, hx⟩ : ∃ x, x = p.getD i 0 := ⟨_, rfl⟩
              obtain ⟨y, hy⟩ : ∃ y, y = p.getD j 0 := ⟨_, rfl⟩
              obtain ⟨x', hx'⟩ : ∃ x, x = q.getD i 0 := ⟨_, rfl⟩
              obtain ⟨y', hy'⟩ : ∃ y, y = q.getD j 0 := ⟨_, rfl⟩
              have a1 : wr.cell? ⟨b, off + i, none⟩ = some (.int .i64 x) := by rw [hx]; exact (HB2.out.cell (p := ⟨b, off + i, none⟩) hbw).trans (HC.out i (by omega))
              have a2 : wr.cell? ⟨b, off + j, none⟩ = some (.int .i64 y) := by rw [hy]; exact (HB2.out.cell (p := ⟨b, off + j, none⟩) hbw).trans (HC.out j hjl)
              have a3 : wr.cell? ⟨b', off' + i, none⟩ = some (.int .i64 x') := by rw [hx']; exact (HB2.out.cell (p := ⟨b', off' + i, none⟩) hbw').trans (HC'.out i (by omega))
              have a4 : wr.cell? ⟨b', off' + j, none⟩ = some (.int .i64 y') := by rw [hy']; exact (HB2.out.cell (p := ⟨b', off' + j, none⟩) hbw').trans (HC'.out j hjl)
              have HK : Hid (badP p q i j = (decide (y < x) && !decide (y' < x'))) := hid (by
                unfold badP iv
                rw [← hx, ← hy, ← hx', ← hy', ← HL.out, ← HN.out]
                simp [hil, hjl])
              clear hx hy hx' hy'
              have next : badP p q i j = false → ∀ i', i' < i + 1 → badP p q i' j = false := fun h i' hi' => by
                rcases Nat.lt_or_ge i' i with h1 | h1
                · exact HG2.out i' h1
                · obtain rfl : i' = i := by omega
                  exact h
              have HNx := hid next
              clear next
              by_cases hd : y < x
              · have hd1 : decide (y < x) = true := decide_eq_true hd
                by_cases he : x' ≤ y'
                · have he1 : decide (x' ≤ y') = true := decide_eq_true he
                  have he2 : decide (y' < x') = false := decide_eq_false (by omega)
                  have HF := hid (under_no i j (by rw [HK.out, hd1, he2]; rfl))
                  clear HK HNx
                  go_wp2
                  go_quiet (fail)
                  go_wp2
                  go_ret
                  exact ⟨⟨false, rfl, ⟨fun h => (by cases h), fun h => absurd h HF.out⟩⟩, bdrewN HB2.out _⟩
                · have he1 : decide (x' ≤ y') = false := decide_eq_false he
                  have he2 : decide (y' < x') = true := decide_eq_true (by omega)
                  have HF := hid (HNx.out (by rw [HK.out, hd1, he2]; rfl))
                  clear HK HNx
                  go_wp2
                  go_quiet (fail)
                  go_wp2
                  go_roundw
                  case rel => exact ⟨i + 1, by omega, by go_num, HF.out, bdrewN HB2.out _⟩
                  case measure => simp [intOf]; omega
              · have hd1 : decide (y < x) = false := decide_eq_false hd
                have HF := hid (HNx.out (by rw [HK.out, hd1]; rfl))
                clear HK HNx
                go_wp2
                go_quiet (fail)
                go_wp2
                go_roundw
                case rel => exact ⟨i + 1, by omega, by go_num, HF.out, bdrewN HB2.out _⟩
                case measure => simp [intOf]; omega
            · obtain rfl : i = j := by omega
              have HF : Hid (∀ j', j' < i + 1 → ∀ i', i' < j' → badP p q i' j' = false) := hid (fun j' h1 i' h2 => by
                rcases Nat.lt_or_ge j' i with h3 | h3
                · exact HG.out j' h3 i' h2
                · obtain rfl : j' = i := by omega
                  exact HG2.out i' h2)
              go_wp2
              go_roundw
              case rel => exact ⟨i + 1, by omega, by go_num, HF.out, HB2.out⟩
              case measure => simp [intOf]; omega
        · obtain rfl : j = n := by omega
          have HF : Hid (Under p q) := hid (under_yes (fun j' h => HG.out j' (by rw [HN.out]; exact h)))
          go_wp2
          go_ret
          exact ⟨⟨true, rfl, ⟨fun _ => HF.out, fun _ => rfl⟩⟩, HB.out⟩

theorem belowQ (p q : List Int) (h : Under p q) (v u : Value) (B C : Nat) (w : World) (ha : Ints w B v p) (hb : Ints w C u q) (hn : p.length ≤ 1000) (hl : p.length = q.length) :
    Calls Try.prog 33 #[v, u] w fun e w' => e = .returned (.bool true) ∧ Below w.heap.size w w' :=
  (below p q v u B C w ha hb hn hl).mono fun _ _ ⟨⟨z, he, hz⟩, hb⟩ => ⟨by rw [he, hz.2 h], hb⟩

end Go.Proofs.Ytnnbhgiaaelkiab.lt
