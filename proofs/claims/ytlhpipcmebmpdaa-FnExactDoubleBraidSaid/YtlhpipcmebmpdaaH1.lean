/-
  The model's own test of a permutation: contracts of spec.l00Has and spec.l04Perm.
-/
import Derived.Test.YtlhpipcmebmpdaaComp
import Derived.Shelf.Abstract
namespace Go.Proofs.Ytlhpipcmebmpdaa.fn
open Go.RowKit Go.Proofs.Ytlhpipcmebmpdaa.sl Go.Proofs.Ytlhpipcmebmpdaa.pm

/-- The list holds the number. -/
def hasB (xs : List Int) (x : Int) : Bool := xs.contains x
theorem has_no (xs : List Int) (x : Int) (h : ∀ j, j < xs.length → xs.getD j 0 ≠ x) : hasB xs x = false := by
  cases hc : hasB xs x
  · rfl
  · simp only [hasB, List.contains_eq_mem, decide_eq_true_eq] at hc
    obtain ⟨j, hj, he⟩ := List.mem_iff_getElem.1 hc
    exact absurd (by simpa [List.getD, List.getElem?_eq_getElem hj] using he) (h j hj)
theorem has_yes (xs : List Int) (x : Int) (k : Nat) (hk : k < xs.length) (h : xs.getD k 0 = x) : hasB xs x = true := by
  simp only [hasB, List.contains_eq_mem, decide_eq_true_eq]
  rw [← h, show xs.getD k 0 = xs[k] from by simp [List.getD, List.getElem?_eq_getElem hk]]
  exact List.getElem_mem hk

theorem specHas (xs : List Int) (x : Int) (v : Value) (B : Nat) (w : World) (ha : Ints w B v xs) (hn : xs.length ≤ 1099511627776) :
    Calls Try.prog 151 #[v, .int .i64 x] w fun e w' => e = .returned (.bool (hasB xs x)) ∧ w' = w := by
  rcases ha with ⟨rfl, ao, cap, rfl⟩ | ⟨hp, b, off, cap, rfl, hb, hc⟩
  · go_enter Try.func151, Try.ntmps151
    go_wp2
    refine wp_loop_rounds 1 ?_
    rw [rounds_succ]
    go_wp2
    go_ret
    exact ⟨rfl, rfl⟩
  · obtain ⟨n, hnn⟩ : ∃ n, n = xs.length := ⟨_, rfl⟩
    rw [← hnn] at hp hc hn ⊢
    have HN := hid hnn
    have HC := hid hc
    clear hnn hc
    go_enter Try.func151, Try.ntmps151
    go_wp2
    go_loop [5] (fun i => ∃ k : Nat, k ≤ n ∧ i = .int .i64 k ∧ ∀ j, j < k → xs.getD j 0 ≠ x) (fun i => n - (intOf i).toNat)
    case atStart => exact ⟨0, Nat.zero_le _, rfl, fun j hj => by omega⟩
    case round =>
      obtain ⟨k, hk, rfl, hg⟩ := hrel
      have HG := hid hg
      clear hg
      by_cases hlt : k < n
      · have h1 := HC.out k hlt
        obtain ⟨y, hy⟩ : ∃ y, y = xs.getD k 0 := ⟨_, rfl⟩
        rw [← hy] at h1
        have HY := hid hy
        clear hy
        by_cases h0 : y = x
        · have HF : Hid (hasB xs x = true) := hid (has_yes xs x k (by rw [← HN.out]; exact hlt) (by rw [← HY.out]; exact h0))
          subst h0
          go_wp2
          go_ret
          exact ⟨by rw [HF.out]; rfl, rfl⟩
        · have hd : (y == x) = false := by simpa using h0
          have HL : Hid (xs.getD k 0 ≠ x) := hid (by rw [← HY.out]; exact h0)
          clear h0
          go_wp2
          go_round
          case rel => exact ⟨k + 1, by omega, by go_num, fun j hj => by
            rcases Nat.lt_or_ge j k with h | h
            · exact HG.out j h
            · obtain rfl : j = k := by omega
              exact HL.out⟩
          case measure => simp [intOf]; omega
      · obtain rfl : k = n := by omega
        have HF : Hid (hasB xs x = false) := hid (has_no xs x (fun j hj => HG.out j (by rw [HN.out]; exact hj)))
        go_wp2
        go_ret
        exact ⟨by rw [HF.out]; rfl, rfl⟩

theorem hasQ (xs : List Int) (x : Int) (q : Bool) (hq : hasB xs x = q) (v : Value) (B : Nat) (w : World) (ha : Ints w B v xs) (hn : xs.length ≤ 1099511627776) :
    Calls Try.prog 151 #[v, .int .i64 x] w fun e w' => e = .returned (.bool q) ∧ w' = w :=
  (specHas xs x v B w ha hn).mono fun _ _ h => ⟨by rw [h.1, hq], h.2⟩
theorem inQ (c lo hi : Int) (q : Bool) (hq : decide (lo ≤ c ∧ c ≤ hi) = q) (w : World) : Calls Try.prog 56 #[.int .i64 c, .int .i64 lo, .int .i64 hi] w fun e w' => e = .returned (.bool q) ∧ w' = w :=
  (specIn c lo hi w).mono fun _ _ h => ⟨by rw [h.1, hq], h.2.symm⟩

/-- The room of a slice is no less than its length. -/
def CapOk (v : Value) : Prop := ∀ ao n cap, v = .slice ao n cap → n ≤ cap ∧ cap ≤ 9223372036854775807
theorem capok_own {w : World} {lo hi : Nat} {v : Value} {xs : List Int} (o : Own w lo hi v xs) : CapOk v := by
  intro ao n cap e
  subst e
  rcases o.1.2 with ⟨h, _⟩ | ⟨g', cap', cur, hv, hb, hg, hc, hm, hs, ht⟩
  · cases h; exact ⟨Nat.le_refl _, by omega⟩
  · simp only [Value.slice.injEq] at hv
    obtain ⟨_, rfl, rfl⟩ := hv
    exact ⟨hc, hm⟩

/-- What was read of a slice can be read of its first part. -/
theorem ints_front {w : World} {B : Nat} {b off n : Nat} {xs : List Int} (hb : b < B) (hc : ∀ j, j < n → w.cell? ⟨b, off + j, none⟩ = some (.int .i64 (xs.getD j 0))) (hn : n = xs.length) (k cap' : Nat) (hk : k ≤ n) :
    Ints w B (.slice (some ⟨b, off, none⟩) k cap') (xs.take k) := by
  by_cases h0 : k = 0
  · subst h0; exact .inl ⟨by simp, _, _, rfl⟩
  · have hl : (xs.take k).length = k := by simp; omega
    refine .inr ⟨by omega, b, off, cap', by rw [hl], hb, fun j hj => ?_⟩
    rw [hl] at hj
    rw [hc j (by omega)]
    simp [List.getD, hj]

set_option maxRecDepth 20000 in
set_option maxHeartbeats 400000 in
theorem specPerm4 (xs : List Int) (v : Value) (B : Nat) (w : World) (ha : Ints w B v xs) (hn : xs.length ≤ 1099511627776) (hcap : CapOk v) :
    Calls Try.prog 125 #[v] w fun e w' => e = .returned (.bool (permB xs)) ∧ Below w.heap.size w w' := by
  rcases ha with ⟨rfl, ao, cap, rfl⟩ | ⟨hp, b, off, cap, rfl, hb, hc⟩
  · go_enter Try.func125, Try.ntmps125
    go_wp2
    refine wp_loop_rounds 1 ?_
    rw [rounds_succ]
    go_wp2
    go_ret
    exact ⟨rfl, Below.refl _ _⟩
  · obtain ⟨hcap1, hcap2⟩ := hcap _ _ _ rfl
    have hbw : b < w.heap.size := World.block_lt_of_cell? w _ (hc 0 hp)
    obtain ⟨n, hnn⟩ : ∃ n, n = xs.length := ⟨_, rfl⟩
    rw [← hnn] at hp hc hn hcap1 ⊢
    have HN := hid hnn
    have HC : Hid (∀ j, j < n → w.cell? ⟨b, off + j, none⟩ = some (.int .i64 (xs.getD j 0))) := hid hc
    clear hnn hc hcap
    go_enter Try.func125, Try.ntmps125
    go_wp2
    go_loopw [3] (fun i wr => ∃ k : Nat, k ≤ n ∧ i = .int .i64 k ∧ pm.Good xs k ∧ Below w.heap.size w wr) (fun i _ => n - (intOf i).toNat)
    case atStart => exact ⟨0, Nat.zero_le _, rfl, good_zero xs, Below.refl _ _⟩
    case round =>
      obtain ⟨k, hk, rfl, hgood, hbel⟩ := hrel
      have HG := hid hgood
      have HB := hid hbel
      have HCr : Hid (∀ j, j < n → wr.cell? ⟨b, off + j, none⟩ = some (.int .i64 (xs.getD j 0))) := hid (fun j hj => (HB.out.cell (p := ⟨b, off + j, none⟩) hbw).trans (HC.out j hj))
      clear hgood hbel
      have hwr : IntKind.i64.wrap ((n : Int) - 1) = (n : Int) - 1 := IntWalk.i64_in _ (by omega)
      by_cases hlt : k < n
      · have hx : wr.cell? ⟨b, off + k, none⟩ = some (.int .i64 (xs.getD k 0)) := HCr.out k hlt
        obtain ⟨x, hxx⟩ : ∃ x, x = xs.getD k 0 := ⟨_, rfl⟩
        rw [← hxx] at hx
        have HX := hid hxx
        clear hxx
        by_cases hr : 0 ≤ x ∧ x ≤ (n : Int) - 1
        · obtain ⟨m, rfl⟩ := Int.eq_ofNat_of_zero_le hr.1
          have hm : m < n := by omega
          have hd : decide ((0 : Int) ≤ (m : Int) ∧ (m : Int) ≤ (n : Int) - 1) = true := by simpa using hr
          have HI := hid (fun W => inQ (m : Int) 0 ((n : Int) - 1) true hd W)
          clear hr hd
          have HFr := hid (ints_front (w := wr) (B := wr.heap.size) (off := off) (World.block_lt_of_cell? wr _ hx) HCr.out HN.out k cap hk)
          have hlk : (xs.take k).length ≤ 1099511627776 := by simp; omega
          by_cases hs : seenB xs k m = true
          · have HF := hid (perm_twice xs k m (by rw [← HN.out]; exact hlt) HX.out.symm hs)
            have HQ : Hid (∀ W : World, Ints W wr.heap.size (.slice (some ⟨b, off, none⟩) k cap) (xs.take k) → Calls Try.prog 151 #[.slice (some ⟨b, off, none⟩) k cap, .int .i64 (m : Int)] W fun e w' => e = .returned (.bool true) ∧ w' = W) := hid (fun W hW => hasQ (xs.take k) m true hs _ _ W hW hlk)
            clear hs
            go_wp2
            go_quiet ((first | (go_at_call 56; exact Calls.quiet_of_same (HI.out _)) | (go_at_call 151; exact Calls.quiet_of_same (HQ.out _ HFr.out))))
            go_wp2
            go_ret
            exact ⟨by rw [HF.out]; rfl, bdrewN HB.out _⟩
          · have hs' : seenB xs k m = false := by simpa using hs
            have HS : Hid (pm.Good xs (k + 1)) := hid (good_step xs k m (by rw [← HN.out]; exact hlt) HG.out HX.out.symm (by rw [← HN.out]; exact hm) hs')
            have HQ : Hid (∀ W : World, Ints W wr.heap.size (.slice (some ⟨b, off, none⟩) k cap) (xs.take k) → Calls Try.prog 151 #[.slice (some ⟨b, off, none⟩) k cap, .int .i64 (m : Int)] W fun e w' => e = .returned (.bool false) ∧ w' = W) := hid (fun W hW => hasQ (xs.take k) m false hs' _ _ W hW hlk)
            clear hs hs'
            go_wp2
            go_quiet ((first | (go_at_call 56; exact Calls.quiet_of_same (HI.out _)) | (go_at_call 151; exact Calls.quiet_of_same (HQ.out _ HFr.out))))
            go_wp2
            go_roundw
            case rel => exact ⟨k + 1, by omega, by go_num, HS.out, bdrewN HB.out _⟩
            case measure => simp [intOf]; omega
        · have hd : decide ((0 : Int) ≤ x ∧ x ≤ (n : Int) - 1) = false := by simpa using hr
          have HI := hid (fun W => inQ x 0 ((n : Int) - 1) false hd W)
          have HF := hid (perm_range xs k (by rw [← HN.out]; exact hlt) (by rw [← HX.out, ← HN.out]; exact hr))
          clear hr hd
          go_wp2
          go_quiet ((go_at_call 56; exact Calls.quiet_of_same (HI.out _)))
          go_wp2
          go_ret
          exact ⟨by rw [HF.out]; rfl, bdrewN HB.out _⟩
      · obtain rfl : k = n := by omega
        by_cases h12 : k ≤ 12
        · have HF : Hid (permB xs = true) := hid (perm_good xs (by rw [← HN.out]; exact h12) (by rw [← HN.out]; exact HG.out))
          have hd : decide ((k : Int) ≤ 12) = true := by simp; omega
          go_wp2
          go_ret
          exact ⟨by rw [HF.out]; first | rfl | simp [hd], HB.out⟩
        · have HF : Hid (permB xs = false) := hid (perm_long xs (by rw [← HN.out]; omega))
          have hd : decide ((k : Int) ≤ 12) = false := by simp; omega
          go_wp2
          go_ret
          exact ⟨by rw [HF.out]; first | rfl | simp [hd], HB.out⟩

end Go.Proofs.Ytlhpipcmebmpdaa.fn
