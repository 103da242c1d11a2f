/-
  Valid braids: contracts of both tests, and of both comparisons.
-/
import Derived.Test.YtbbnheiibkcgiabDoorBr
import Derived.Shelf.Abstract
namespace Go.Proofs.YtbbnheiibkcgiabDoor.br
open Go.RowKit Go.Proofs.YtbbnheiibkcgiabDoor.sl Go.Proofs.YtbbnheiibkcgiabDoor.pm Go.Proofs.YtbbnheiibkcgiabDoor.bw

theorem quiet_in (c lo hi : Int) (q : Bool) (hq : decide (lo ≤ c ∧ c ≤ hi) = q) (w : World) : Calls Tryd.prog 16 #[.int .i64 c, .int .i64 lo, .int .i64 hi] w fun e w' => e = .returned (.bool q) ∧ w' = w :=
  (specIn c lo hi w).mono fun _ _ h => ⟨by rw [h.1, hq], h.2.symm⟩
/-- The first place at which p holds. -/
def idxOf (p : Int → Bool) (xs : List Int) : Int := if xs.any p = true then ((xs.findIdx p : Nat) : Int) else -1
theorem idx_no (p : Int → Bool) (xs : List Int) (h : ∀ j, j < xs.length → p (xs.getD j 0) = false) : xs.any p = false ∧ idxOf p xs = -1 := by
  have h1 : xs.any p = false := by
    rw [List.any_eq_false]
    intro x hx
    obtain ⟨j, hj, rfl⟩ := List.getElem_of_mem hx
    have := h j hj
    rw [show xs.getD j 0 = xs[j] from by simp [List.getD, List.getElem?_eq_getElem hj]] at this
    simp [this]
  exact ⟨h1, by rw [idxOf, h1]; rfl⟩
theorem idx_yes (p : Int → Bool) (xs : List Int) (k : Nat) (hk : k < xs.length) (h : ∀ j, j < k → p (xs.getD j 0) = false) (hp : p (xs.getD k 0) = true) : xs.any p = true ∧ idxOf p xs = (k : Int) := by
  have ek : xs.getD k 0 = xs[k] := by simp [List.getD, List.getElem?_eq_getElem hk]
  have h1 : xs.any p = true := by
    rw [List.any_eq_true]
    exact ⟨xs[k], List.getElem_mem hk, by rw [← ek]; exact hp⟩
  refine ⟨h1, ?_⟩
  rw [idxOf, if_pos h1, (List.findIdx_eq hk).2 ⟨by rw [← ek]; exact hp, fun j hj => ?_⟩]
  have := h j hj
  rwa [show xs.getD j 0 = xs[j] from by simp [List.getD, List.getElem?_eq_getElem (show j < xs.length by omega)]] at this

/-- slices.IndexFunc at a method value. -/
theorem idxFunc (p : Int → Bool) (g : Nat) (bd : Value) (xs : List Int) (v : Value) (B : Nat) (w : World) (ha : Ints w B v xs) (hB : B ≤ w.heap.size) (hn : xs.length ≤ 1099511627776)
    (eg : ∀ args w, (callFunc g args).run Tryd.prog w = .ok (.enter g args) w) (hp : ∀ (x : Int) (W : World), Calls Tryd.prog g #[bd, .int .i64 x] W fun e w' => e = .returned (.bool (p x)) ∧ Below W.heap.size W w') :
    Calls Tryd.prog 89 #[v, .func (.func g) #[bd] #[]] w fun e w' => e = .returned (.int .i64 (idxOf p xs)) ∧ Below w.heap.size w w' := by
  have HP := hid hp
  clear hp
  rcases ha with ⟨rfl, ao, cap, rfl⟩ | ⟨hp, b, off, cap, rfl, hb, hc⟩
  · have HF : Hid (idxOf p [] = -1) := hid rfl
    go_enter Tryd.func89, Tryd.ntmps89
    go_wp2
    refine wp_loop_rounds 1 ?_
    rw [rounds_succ]
    go_wp2
    go_ret
    exact ⟨by rw [HF.out]; rfl, Below.refl _ _⟩
  · obtain ⟨n, hnn⟩ : ∃ n, n = xs.length := ⟨_, rfl⟩
    rw [← hnn] at hp hc hn ⊢
    have HN := hid hnn
    have HC := hid hc
    clear hnn hc
    go_enter Tryd.func89, Tryd.ntmps89
    go_wp2
    go_loopw [8] (fun i wr => ∃ k : Nat, k ≤ n ∧ i = .int .i64 k ∧ (∀ j, j < k → p (xs.getD j 0) = false) ∧ Below w.heap.size w wr) (fun i _ => n - (intOf i).toNat)
    case atStart => exact ⟨0, Nat.zero_le _, rfl, fun j hj => by omega, Below.refl _ _⟩
    case round =>
      obtain ⟨k, hk, rfl, hg, hbel⟩ := hrel
      have HG := hid hg
      have HB := hid hbel
      clear hg hbel
      by_cases hlt : k < n
      · have h1 : wr.cell? ⟨b, off + k, none⟩ = some (.int .i64 (xs.getD k 0)) := (HB.out.cell (p := ⟨b, off + k, none⟩) (by show b < _; omega)).trans (HC.out k hlt)
        obtain ⟨x, hx⟩ : ∃ x, x = xs.getD k 0 := ⟨_, rfl⟩
        rw [← hx] at h1
        have HX := hid hx
        clear hx
        go_wp2_with fail
        refine (HP.out x wr).mono ?_
        rintro e w1 ⟨rfl, b1⟩
        have HB1 := hid (HB.out.trans (b1.mono HB.out.size))
        clear b1
        obtain ⟨q, hq⟩ : ∃ q, q = p x := ⟨_, rfl⟩
        rw [← hq]
        have HQ := hid hq
        clear hq
        cases q
        · go_wp2
          go_roundw
          case rel => exact ⟨k + 1, by omega, by go_num, fun j hj => by
            rcases Nat.lt_or_ge j k with h | h
            · exact HG.out j h
            · obtain rfl : j = k := by omega
              rw [← HX.out, ← HQ.out], HB1.out⟩
          case measure => simp [intOf]; omega
        · have HF := hid (idx_yes p xs k (by rw [← HN.out]; exact hlt) HG.out (by rw [← HX.out, ← HQ.out])).2
          go_wp2
          go_ret
          exact ⟨by rw [HF.out]; rfl, HB1.out⟩
      · obtain rfl : k = n := by omega
        have HF := hid (idx_no p xs (fun j hj => HG.out j (by rw [HN.out]; exact hj))).2
        go_wp2
        go_ret
        exact ⟨by rw [HF.out]; rfl, HB.out⟩

theorem idx_sign (p : Int → Bool) (xs : List Int) (h : xs.length ≤ 1099511627776) : decide (0 ≤ idxOf p xs) = xs.any p ∧ -1 ≤ idxOf p xs ∧ idxOf p xs ≤ 1099511627776 := by
  unfold idxOf
  by_cases h1 : xs.any p = true
  · rw [if_pos h1, h1]
    have := List.findIdx_le_length (p := p) (xs := xs)
    exact ⟨by simp, by omega, by omega⟩
  · rw [if_neg h1]
    have h2 : xs.any p = false := by simpa using h1
    rw [h2]
    exact ⟨by simp, by omega, by omega⟩
/-- slices.ContainsFunc at a method value. -/
theorem contFunc (p : Int → Bool) (g : Nat) (bd : Value) (xs : List Int) (v : Value) (B : Nat) (w : World) (ha : Ints w B v xs) (hB : B ≤ w.heap.size) (hn : xs.length ≤ 1099511627776)
    (eg : ∀ args w, (callFunc g args).run Tryd.prog w = .ok (.enter g args) w) (hp : ∀ (x : Int) (W : World), Calls Tryd.prog g #[bd, .int .i64 x] W fun e w' => e = .returned (.bool (p x)) ∧ Below W.heap.size W w') :
    Calls Tryd.prog 87 #[v, .func (.func g) #[bd] #[]] w fun e w' => e = .returned (.bool (xs.any p)) ∧ Below w.heap.size w w' := by
  have H := hid (idxFunc p g bd xs v B w ha hB hn eg hp)
  have hi := idx_sign p xs hn
  obtain ⟨q, hq⟩ : ∃ q, q = xs.any p := ⟨_, rfl⟩
  rw [← hq] at hi ⊢
  obtain ⟨ao, cap, hv⟩ := ints_val ha
  generalize xs.length = n at *
  subst hv
  clear ha hp eg hq
  generalize idxOf p xs = z at *
  obtain ⟨h1, h2, h3⟩ := hi
  have HQ := hid h1
  clear h1
  go_enter Tryd.func87, Tryd.ntmps87
  go_wp2_with fail
  refine H.out.mono ?_
  rintro e w1 ⟨rfl, b1⟩
  have B1 := hid b1
  clear b1
  go_wp2
  go_ret
  exact ⟨by rw [← HQ.out]; rfl, B1.out⟩

/-- slices.IndexFunc at a function that holds nothing. -/
theorem idxFunc0 (p : Int → Bool) (g : Nat) (xs : List Int) (v : Value) (B : Nat) (w : World) (ha : Ints w B v xs) (hB : B ≤ w.heap.size) (hn : xs.length ≤ 1099511627776)
    (eg : ∀ args w, (callFunc g args).run Tryd.prog w = .ok (.enter g args) w) (hp : ∀ (x : Int) (W : World), Calls Tryd.prog g #[.int .i64 x] W fun e w' => e = .returned (.bool (p x)) ∧ Below W.heap.size W w') :
    Calls Tryd.prog 89 #[v, .func (.func g) #[] #[]] w fun e w' => e = .returned (.int .i64 (idxOf p xs)) ∧ Below w.heap.size w w' := by
  have HP := hid hp
  clear hp
  rcases ha with ⟨rfl, ao, cap, rfl⟩ | ⟨hp, b, off, cap, rfl, hb, hc⟩
  · have HF : Hid (idxOf p [] = -1) := hid rfl
    go_enter Tryd.func89, Tryd.ntmps89
    go_wp2
    refine wp_loop_rounds 1 ?_
    rw [rounds_succ]
    go_wp2
    go_ret
    exact ⟨by rw [HF.out]; rfl, Below.refl _ _⟩
  · obtain ⟨n, hnn⟩ : ∃ n, n = xs.length := ⟨_, rfl⟩
    rw [← hnn] at hp hc hn ⊢
    have HN := hid hnn
    have HC := hid hc
    clear hnn hc
    go_enter Tryd.func89, Tryd.ntmps89
    go_wp2
    go_loopw [8] (fun i wr => ∃ k : Nat, k ≤ n ∧ i = .int .i64 k ∧ (∀ j, j < k → p (xs.getD j 0) = false) ∧ Below w.heap.size w wr) (fun i _ => n - (intOf i).toNat)
    case atStart => exact ⟨0, Nat.zero_le _, rfl, fun j hj => by omega, Below.refl _ _⟩
    case round =>
      obtain ⟨k, hk, rfl, hg, hbel⟩ := hrel
      have HG := hid hg
      have HB := hid hbel
      clear hg hbel
      by_cases hlt : k < n
      · have h1 : wr.cell? ⟨b, off + k, none⟩ = some (.int .i64 (xs.getD k 0)) := (HB.out.cell (p := ⟨b, off + k, none⟩) (by show b < _; omega)).trans (HC.out k hlt)
        obtain ⟨x, hx⟩ : ∃ x, x = xs.getD k 0 := ⟨_, rfl⟩
        rw [← hx] at h1
        have HX := hid hx
        clear hx
        go_wp2_with fail
        refine (HP.out x wr).mono ?_
        rintro e w1 ⟨rfl, b1⟩
        have HB1 := hid (HB.out.trans (b1.mono HB.out.size))
        clear b1
        obtain ⟨q, hq⟩ : ∃ q, q = p x := ⟨_, rfl⟩
        rw [← hq]
        have HQ := hid hq
        clear hq
        cases q
        · go_wp2
          go_roundw
          case rel => exact ⟨k + 1, by omega, by go_num, fun j hj => by
            rcases Nat.lt_or_ge j k with h | h
            · exact HG.out j h
            · obtain rfl : j = k := by omega
              rw [← HX.out, ← HQ.out], HB1.out⟩
          case measure => simp [intOf]; omega
        · have HF := hid (idx_yes p xs k (by rw [← HN.out]; exact hlt) HG.out (by rw [← HX.out, ← HQ.out])).2
          go_wp2
          go_ret
          exact ⟨by rw [HF.out]; rfl, HB1.out⟩
      · obtain rfl : k = n := by omega
        have HF := hid (idx_no p xs (fun j hj => HG.out j (by rw [HN.out]; exact hj))).2
        go_wp2
        go_ret
        exact ⟨by rw [HF.out]; rfl, HB.out⟩

/-- slices.ContainsFunc at a function that holds nothing. -/
theorem contFunc0 (p : Int → Bool) (g : Nat) (xs : List Int) (v : Value) (B : Nat) (w : World) (ha : Ints w B v xs) (hB : B ≤ w.heap.size) (hn : xs.length ≤ 1099511627776)
    (eg : ∀ args w, (callFunc g args).run Tryd.prog w = .ok (.enter g args) w) (hp : ∀ (x : Int) (W : World), Calls Tryd.prog g #[.int .i64 x] W fun e w' => e = .returned (.bool (p x)) ∧ Below W.heap.size W w') :
    Calls Tryd.prog 87 #[v, .func (.func g) #[] #[]] w fun e w' => e = .returned (.bool (xs.any p)) ∧ Below w.heap.size w w' := by
  have H := hid (idxFunc0 p g xs v B w ha hB hn eg hp)
  have hi := idx_sign p xs hn
  obtain ⟨q, hq⟩ : ∃ q, q = xs.any p := ⟨_, rfl⟩
  rw [← hq] at hi ⊢
  obtain ⟨ao, cap, hv⟩ := ints_val ha
  generalize xs.length = n at *
  subst hv
  clear ha hp eg hq
  generalize idxOf p xs = z at *
  obtain ⟨h1, h2, h3⟩ := hi
  have HQ := hid h1
  clear h1
  go_enter Tryd.func87, Tryd.ntmps87
  go_wp2_with fail
  refine H.out.mono ?_
  rintro e w1 ⟨rfl, b1⟩
  have B1 := hid b1
  clear b1
  go_wp2
  go_ret
  exact ⟨by rw [← HQ.out]; rfl, B1.out⟩

end Go.Proofs.YtbbnheiibkcgiabDoor.br
