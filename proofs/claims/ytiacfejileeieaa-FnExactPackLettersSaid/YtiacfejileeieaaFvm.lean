/-
  slices.ContainsFunc at a closure over one variable that is told for the list's own elements alone.
-/
import Derived.Test.YtiacfejileeieaaFv
namespace Go.Proofs.Ytiacfejileeieaa.fv
open Go.RowKit Go.Proofs.Ytiacfejileeieaa.sl Go.Proofs.Ytiacfejileeieaa.pm Go.Proofs.Ytiacfejileeieaa.bw Go.Proofs.Ytiacfejileeieaa.br
set_option linter.unusedVariables false

theorem mem_getD (xs : List Int) (k : Nat) (h : k < xs.length) : xs.getD k 0 ∈ xs := by
  rw [show xs.getD k 0 = xs[k] from by simp [List.getD, List.getElem?_eq_getElem h]]
  exact List.getElem_mem h
/-- slices.IndexFunc at a closure over one variable. -/
theorem idxFuncM (p : Int → Bool) (g : Nat) (cp : Value) (xs : List Int) (v : Value) (B : Nat) (w : World) (ha : Ints w B v xs) (hB : B ≤ w.heap.size) (hn : xs.length ≤ 1099511627776)
    (eg : ∀ args w, (callFunc g args).run Try.prog w = .ok (.enter g args) w) (hp : ∀ (x : Int), x ∈ xs → ∀ (W : World), Below w.heap.size w W → Calls Try.prog g #[.int .i64 x, cp] W fun e w' => e = .returned (.bool (p x)) ∧ Below W.heap.size W w') :
    Calls Try.prog 96 #[v, .func (.func g) #[] #[cp]] w fun e w' => e = .returned (.int .i64 (idxOf p xs)) ∧ Below w.heap.size w w' := by
  have HP := hid hp
  clear hp
  rcases ha with ⟨rfl, ao, cap, rfl⟩ | ⟨hp, b, off, cap, rfl, hb, hc⟩
  · have HF : Hid (idxOf p [] = -1) := hid rfl
    go_enter Try.func96, Try.ntmps96
    go_wp2
    refine wp_loop_rounds 1 ?_
    rw [rounds_succ]
    go_wp2
    go_ret
    exact ⟨by rw [HF.out]; rfl, Below.refl _ _⟩
  · obtain ⟨n, hnn⟩ : ∃ n, n = xs.length := ⟨_, rfl⟩
    rw [← hnn] at hp hc hn ⊢
    have HN := hid hnn
    have HC := hid hc
    clear hnn hc
    go_enter Try.func96, Try.ntmps96
    go_wp2
    go_loopw [8] (fun i wr => ∃ k : Nat, k ≤ n ∧ i = .int .i64 k ∧ (∀ j, j < k → p (xs.getD j 0) = false) ∧ Below w.heap.size w wr) (fun i _ => n - (intOf i).toNat)
    case atStart => exact ⟨0, Nat.zero_le _, rfl, fun j hj => by omega, Below.refl _ _⟩
    case round =>
      obtain ⟨k, hk, rfl, hg, hbel⟩ := hrel
      have HG := hid hg
      have HB := hid hbel
      clear hg hbel
      by_cases hlt : k < n
      · have h1 : wr.cell? ⟨b, off + k, none⟩ = some (.int .i64 (xs.getD k 0)) := (HB.out.cell (p := ⟨b, off + k, none⟩) (by show b < _; omega)).trans (HC.out k hlt)
        obtain ⟨x, hx⟩ : ∃ x, x = xs.getD k 0 := ⟨_, rfl⟩
        rw [← hx] at h1
        have HX := hid hx
        clear hx
        go_wp2_with fail
        refine (HP.out x (by rw [HX.out]; exact mem_getD xs k (by rw [← HN.out]; exact hlt)) wr HB.out).mono ?_
        rintro e w1 ⟨rfl, b1⟩
        have HB1 := hid (HB.out.trans (b1.mono HB.out.size))
        clear b1
        obtain ⟨q, hq⟩ : ∃ q, q = p x := ⟨_, rfl⟩
        rw [← hq]
        have HQ := hid hq
        clear hq
        cases q
        · go_wp2
          go_roundw
          case rel => exact ⟨k + 1, by omega, by go_num, fun j hj => by
            rcases Nat.lt_or_ge j k with h | h
            · exact HG.out j h
            · obtain rfl : j = k := by omega
              rw [← HX.out, ← HQ.out], HB1.out⟩
          case measure => simp [intOf]; omega
        · have HF := hid (idx_yes p xs k (by rw [← HN.out]; exact hlt) HG.out (by rw [← HX.out, ← HQ.out])).2
          go_wp2
          go_ret
          exact ⟨by rw [HF.out]; rfl, HB1.out⟩
      · obtain rfl : k = n := by omega
        have HF := hid (idx_no p xs (fun j hj => HG.out j (by rw [HN.out]; exact hj))).2
        go_wp2
        go_ret
        exact ⟨by rw [HF.out]; rfl, HB.out⟩

/-- slices.ContainsFunc at a closure over one variable. -/
theorem contFuncM (p : Int → Bool) (g : Nat) (cp : Value) (xs : List Int) (v : Value) (B : Nat) (w : World) (ha : Ints w B v xs) (hB : B ≤ w.heap.size) (hn : xs.length ≤ 1099511627776)
    (eg : ∀ args w, (callFunc g args).run Try.prog w = .ok (.enter g args) w) (hp : ∀ (x : Int), x ∈ xs → ∀ (W : World), Below w.heap.size w W → Calls Try.prog g #[.int .i64 x, cp] W fun e w' => e = .returned (.bool (p x)) ∧ Below W.heap.size W w') :
    Calls Try.prog 75 #[v, .func (.func g) #[] #[cp]] w fun e w' => e = .returned (.bool (xs.any p)) ∧ Below w.heap.size w w' := by
  have H := hid (idxFuncM p g cp xs v B w ha hB hn eg hp)
  have hi := idx_sign p xs hn
  obtain ⟨q, hq⟩ : ∃ q, q = xs.any p := ⟨_, rfl⟩
  rw [← hq] at hi ⊢
  obtain ⟨ao, cap, hv⟩ := ints_val ha
  generalize xs.length = n at *
  subst hv
  clear ha hp eg hq
  generalize idxOf p xs = z at *
  obtain ⟨h1, h2, h3⟩ := hi
  have HQ := hid h1
  clear h1
  go_enter Try.func75, Try.ntmps75
  go_wp2_with fail
  refine H.out.mono ?_
  rintro e w1 ⟨rfl, b1⟩
  have B1 := hid b1
  clear b1
  go_wp2
  go_ret
  exact ⟨by rw [← HQ.out]; rfl, B1.out⟩

end Go.Proofs.Ytiacfejileeieaa.fv
