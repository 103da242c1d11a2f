/-
  The model's own test of a permutation: contracts of spec.l00Has and spec.l04Perm.
-/
import Derived.Test.YtbbnheiibkcgiaaComp
import Derived.Shelf.Abstract
namespace Go.Proofs.Ytbbnheiibkcgiaa.fn
open Go.RowKit Go.Proofs.Ytbbnheiibkcgiaa.sl Go.Proofs.Ytbbnheiibkcgiaa.pm

/-- The list holds the number. -/
def hasB (xs : List Int) (x : Int) : Bool := xs.contains x
theorem has_no (xs : List Int) (x : Int) (h : ∀ j, j < xs.length → xs.getD j 0 ≠ x) : hasB xs x = false := by
  cases hc : hasB xs x
  · rfl
  · simp only [hasB, List.contains_eq_mem, decide_eq_true_eq] at hc
    obtain ⟨j, hj, he⟩ := List.mem_iff_getElem.1 hc
    exact absurd (by simpa [List.getD, List.getElem?_eq_getElem hj] using he) (h j hj)
theorem has_yes (xs : List Int) (x : Int) (k : Nat) (hk : k < xs.length) (h : xs.getD k 0 = x) : hasB xs x = true := by
  simp only [hasB, List.contains_eq_mem, decide_eq_true_eq]
  rw [← h, show xs.getD k 0 = xs[k] from by simp [List.getD, List.getElem?_eq_getElem hk]]
  exact List.getElem_mem hk

theorem specHas (xs : List Int) (x : Int) (v : Value) (B : Nat) (w : World) (ha : Ints w B v xs) (hn : xs.length ≤ 1099511627776) :
    Calls Try.prog 42 #[v, .int .i64 x] w fun e w' => e = .returned (.bool (hasB xs x)) ∧ w' = w := by
  rcases ha with ⟨rfl, ao, cap, rfl⟩ | ⟨hp, b, off, cap, rfl, hb, hc⟩
  · go_enter Try.func42, Try.ntmps42
    go_wp2
    refine wp_loop_rounds 1 ?_
    rw [rounds_succ]
    go_wp2
    go_ret
    exact ⟨rfl, rfl⟩
  · obtain ⟨n, hnn⟩ : ∃ n, n = xs.length := ⟨_, rfl⟩
    rw [← hnn] at hp hc hn ⊢
    have HN := hid hnn
    have HC := hid hc
    clear hnn hc
    go_enter Try.func42, Try.ntmps42
    go_wp2
    go_loop [5] (fun i => ∃ k : Nat, k ≤ n ∧ i = .int .i64 k ∧ ∀ j, j < k → xs.getD j 0 ≠ x) (fun i => n - (intOf i).toNat)
    case atStart => exact ⟨0, Nat.zero_le _, rfl, fun j hj => by omega⟩
    case round =>
      obtain ⟨k, hk, rfl, hg⟩ := hrel
      have HG := hid hg
      clear hg
      by_cases hlt : k < n
      · have h1 := HC.out k hlt
        obtain ⟨y, hy⟩ : ∃ y, y = xs.getD k 0 := ⟨_, rfl⟩
        rw [← hy] at h1
        have HY := hid hy
        clear hy
        by_cases h0 : y = x
        · have HF : Hid (hasB xs x = true) := hid (has_yes xs x k (by rw [← HN.out]; exact hlt) (by rw [← HY.out]; exact h0))
          subst h0
          go_wp2
          go_ret
          exact ⟨by rw [HF.out]; rfl, rfl⟩
        · have hd : (y == x) = false := by simpa using h0
          have HL : Hid (xs.getD k 0 ≠ x) := hid (by rw [← HY.out]; exact h0)
          clear h0
          go_wp2
          go_round
          case rel => exact ⟨k + 1, by omega, by go_num, fun j hj => by
            rcases Nat.lt_or_ge j k with h | h
            · exact HG.out j h
            · obtain rfl : j = k := by omega
              exact HL.out⟩
          case measure => simp [intOf]; omega
      · obtain rfl : k = n := by omega
        have HF : Hid (hasB xs x = false) := hid (has_no xs x (fun j hj => HG.out j (by rw [HN.out]; exact hj)))
        go_wp2
        go_ret
        exact ⟨by rw [HF.out]; rfl, rfl⟩

theorem hasQ (xs : List Int) (x : Int) (q : Bool) (hq : hasB xs x = q) (v : Value) (B : Nat) (w : World) (ha : Ints w B v xs) (hn : xs.length ≤ 1099511627776) :
    Calls Try.prog 42 #[v, .int .i64 x] w fun e w' => e = .returned (.bool q) ∧ w' = w :=
  (specHas xs x v B w ha hn).mono fun _ _ h => ⟨by rw [h.1, hq], h.2⟩
theorem inQ (c lo hi : Int) (q : Bool) (hq : decide (lo ≤ c ∧ c ≤ hi) = q) (w : World) : Calls Try.prog 35 #[.int .i64 c, .int .i64 lo, .int .i64 hi] w fun e w' => e = .returned (.bool q) ∧ w' = w :=
  (specIn c lo hi w).mono fun _ _ h => ⟨by rw [h.1, hq], h.2.symm⟩

/-- The room of a slice is no less than its length. -/
def CapOk (v : Value) : Prop := ∀ ao n cap, v = .slice ao n cap → n ≤ cap ∧ cap ≤ 9223372036854775807
theorem capok_own {w : World} {lo hi : Nat} {v : Value} {xs : List Int} (o : Own w lo hi v xs) : CapOk v := by
  intro ao n cap e
  subst e
  rcases o.1.2 with ⟨h, _⟩ | ⟨g', cap', cur, hv, hb, hg, hc, hm, hs, ht⟩
  · cases h; exact ⟨Nat.le_refl _, by omega⟩
  · simp only [Value.slice.injEq] at hv
    obtain ⟨_, rfl, rfl⟩ := hv
    exact ⟨hc, hm⟩

/-- What was read of a slice can be read of its first part. -/
theorem ints_front {w : World} {B : Nat} {b off n : Nat} {xs : List Int} (hb : b < B) (hc : ∀ j, j < n → w.cell? ⟨b, off + j, none⟩ = some (.int .i64 (xs.getD j 0))) (hn : n = xs.length) (k cap' : Nat) (hk : k ≤ n) :
    Ints w B (.slice (some ⟨b, off, none⟩) k cap') (xs.take k) := by
  by_cases h0 : k = 0
  · subst h0; exact .inl ⟨by simp, _, _, rfl⟩
  · have hl : (xs.take k).length = k := by simp; omega
    refine .inr ⟨by omega, b, off, cap', by rw [hl], hb, fun j hj => ?_⟩
    rw [hl] at hj
    rw [hc j (by omega)]
    simp [List.getD, hj]

end Go.Proofs.Ytbbnheiibkcgiaa.fn
