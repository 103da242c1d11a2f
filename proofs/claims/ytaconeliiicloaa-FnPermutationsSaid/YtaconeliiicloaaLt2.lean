/-
  The lattice's law: contracts of its helpers a2Long, a2Same, a2Below and of the model's test.
-/
import Derived.Test.YtaconeliiicloaaLt1
import Derived.BigQuiet
namespace Go.Proofs.Ytaconeliiicloaa.lt
open Go.RowKit Go.Proofs.Ytaconeliiicloaa.sl Go.Proofs.Ytaconeliiicloaa.pm Go.Proofs.Ytaconeliiicloaa.fn Go.Proofs.Ytaconeliiicloaa.la Go.Proofs.Ytaconeliiicloaa.mj Go.Proofs.Ytaconeliiicloaa.sr

theorem long1 (n cap : Nat) (ao : Option Addr) (q : Bool) (hq : decide ((3000 : Int) < (n : Int)) = q) (w : World) :
    Calls Try.prog 11 #[.slice ao n cap, .slice none 0 0] w fun e w' => e = .returned (.bool q) ∧ w' = w := by
  cases q
  · go_enter Try.func11, Try.ntmps11
    go_wp2
    go_ret
    exact ⟨rfl, rfl⟩
  · go_enter Try.func11, Try.ntmps11
    go_wp2
    go_ret
    exact ⟨rfl, rfl⟩

theorem same2 (xs ys : List Int) (v u : Value) (B C : Nat) (w : World) (ha : Ints w B v xs) (hb : Ints w C u ys) (hn : xs.length ≤ 1099511627776) (hm : ys.length ≤ 1099511627776) :
    Calls Try.prog 18 #[v, u] w fun e w' => e = .returned (.bool (sameB xs ys)) ∧ Below w.heap.size w w' := by
  by_cases hl : xs.length = ys.length
  · rcases ha with ⟨rfl, ao, cap, rfl⟩ | ⟨hp, b, off, cap, rfl, hb', hc⟩
    · rcases hb with ⟨rfl, ao', cap', rfl⟩ | ⟨hp', _⟩
      · go_enter Try.func18, Try.ntmps18
        go_wp2
        refine wp_loop_rounds 1 ?_
        rw [rounds_succ]
        go_wp2
        go_ret
        exact ⟨rfl, Below.refl _ _⟩
      · simp at hl; omega
    · rcases hb with ⟨rfl, ao', cap', rfl⟩ | ⟨hp', b', off', cap', rfl, hb'', hc'⟩
      · simp at hl; subst hl; simp at hp
      · rw [← hl] at hc' ⊢
        obtain ⟨n, hnn⟩ : ∃ n, n = xs.length := ⟨_, rfl⟩
        rw [← hnn] at hp hc hc' hn ⊢
        have HN := hid hnn
        have HL := hid hl
        clear hnn hl hp' hm
        go_enter Try.func18, Try.ntmps18
        go_wp2
        go_loopw [5] (fun i wr => ∃ k : Nat, k ≤ n ∧ i = .int .i64 k ∧ (∀ j, j < k → xs.getD j 0 = ys.getD j 0) ∧ Below w.heap.size w wr ∧ (∀ j, j < n → wr.cell? ⟨b, off + j, none⟩ = some (.int .i64 (xs.getD j 0))) ∧ (∀ j, j < n → wr.cell? ⟨b', off' + j, none⟩ = some (.int .i64 (ys.getD j 0))))
          (fun i _ => n - (intOf i).toNat)
        case atStart => exact ⟨0, Nat.zero_le _, rfl, fun j hj => by omega, Below.refl _ _, hc, hc'⟩
        case round =>
          obtain ⟨k, hk, rfl, heq, hbel, hcr, hcr'⟩ := hrel
          have HE := hid heq
          clear heq
          have HC := hid hcr
          have HC' := hid hcr'
          clear hcr hcr' hc hc'
          by_cases hlt : k < n
          · have h1 := HC.out k hlt
            have h2 := HC'.out k hlt
            obtain ⟨x, hx⟩ : ∃ x, x = xs.getD k 0 := ⟨_, rfl⟩
            obtain ⟨y, hy⟩ : ∃ y, y = ys.getD k 0 := ⟨_, rfl⟩
            rw [← hx] at h1
            rw [← hy] at h2
            have HX := hid hx
            have HY := hid hy
            clear hx hy
            by_cases he : x = y
            · subst he
              go_wp2
              go_quiet (fail)
              go_wp2
              go_roundw
              case rel => exact ⟨k + 1, by omega, by go_num, fun j hj => by
                rcases Nat.lt_or_ge j k with h | h
                · exact HE.out j h
                · obtain rfl : j = k := by omega
                  rw [← HX.out, ← HY.out], by repeat (first | exact hbel | apply Below.drew | (refine bdrewN ?_ _)), HC.out, HC'.out⟩
              case measure => simp [intOf]; omega
            · have hb1 : (x == y) = false := by simpa using he
              have hb2 : (x != y) = true := by simpa using he
              have HF : Hid (sameB xs ys = false) := by
                refine hid ?_
                simp only [sameB, decide_eq_false_iff_not]
                rintro rfl
                exact he (HX.out.trans HY.out.symm)
              clear he
              go_wp2
              go_quiet (fail)
              go_wp2
              go_ret
              exact ⟨by rw [HF.out]; rfl, by repeat (first | exact hbel | apply Below.drew | (refine bdrewN ?_ _))⟩
          · obtain rfl : k = n := by omega
            go_wp2
            go_ret
            have : xs = ys := list_eq_of HL.out (fun j hj => HE.out j (by rw [HN.out]; exact hj))
            exact ⟨by rw [this, sameB_self]; rfl, hbel⟩
  · have hd : (((xs.length : Nat) : Int) == ((ys.length : Nat) : Int)) = false := by simp; omega
    have hd' : (((xs.length : Nat) : Int) != ((ys.length : Nat) : Int)) = true := by simp; omega
    have HF : Hid (sameB xs ys = false) := by
      refine hid ?_
      simp only [sameB, decide_eq_false_iff_not]
      rintro rfl
      exact hl rfl
    obtain ⟨ao, cap, rfl⟩ : ∃ ao cap, v = .slice ao xs.length cap := by
      rcases ha with ⟨rfl, ao, cap, rfl⟩ | ⟨hp, b, off, cap, rfl, hb', hc⟩ <;> exact ⟨_, _, rfl⟩
    obtain ⟨ao', cap', rfl⟩ : ∃ ao cap, u = .slice ao ys.length cap := by
      rcases hb with ⟨rfl, ao, cap, rfl⟩ | ⟨hp, b, off, cap, rfl, hb', hc⟩ <;> exact ⟨_, _, rfl⟩
    clear ha hb hl
    generalize xs.length = n at *
    generalize ys.length = m at *
    go_enter Try.func18, Try.ntmps18
    go_wp2
    go_ret
    exact ⟨by rw [HF.out]; rfl, Below.refl _ _⟩

theorem sameQ (xs ys : List Int) (q : Bool) (hq : xs = ys) (hq2 : q = true) (v u : Value) (B C : Nat) (w : World) (ha : Ints w B v xs) (hb : Ints w C u ys) (hn : xs.length ≤ 1099511627776) :
    Calls Try.prog 18 #[v, u] w fun e w' => e = .returned (.bool q) ∧ Below w.heap.size w w' := by
  subst hq
  subst hq2
  exact (same2 xs xs v u B C w ha hb hn hn).mono fun _ _ h => ⟨by rw [h.1, sameB_self], h.2⟩

/-! ### below -/
def badP (p q : List Int) (i j : Nat) : Bool := iv p i j && !iv q i j
theorem under_no {p q : List Int} (i j : Nat) (h : badP p q i j = true) : ¬ Under p q := by
  intro hu
  simp only [badP, Bool.and_eq_true, Bool.not_eq_true'] at h
  have := hu i j h.1
  rw [h.2] at this
  cases this
theorem under_yes {p q : List Int} (h : ∀ j, j < p.length → ∀ i, i < j → badP p q i j = false) : Under p q := by
  intro i j hi
  have h1 := iv_in hi
  have := h j h1.2 i h1.1
  simp only [badP, hi, Bool.true_and, Bool.not_eq_false'] at this
  exact this

end Go.Proofs.Ytaconeliiicloaa.lt
