/-
  Words of a free group: contracts of both tests.
-/
import Derived.Test.YtedajefapddekaaBv
namespace Go.Proofs.Ytedajefapddekaa.fv
open Go.RowKit Go.Proofs.Ytedajefapddekaa.sl Go.Proofs.Ytedajefapddekaa.pm Go.Proofs.Ytedajefapddekaa.bw Go.Proofs.Ytedajefapddekaa.br
set_option linter.unusedVariables false

/-- slices.IndexFunc at a closure over one variable. -/
theorem idxFuncC (p : Int → Bool) (g : Nat) (cp : Value) (xs : List Int) (v : Value) (B : Nat) (w : World) (ha : Ints w B v xs) (hB : B ≤ w.heap.size) (hn : xs.length ≤ 1099511627776)
    (eg : ∀ args w, (callFunc g args).run Try.prog w = .ok (.enter g args) w) (hp : ∀ (x : Int) (W : World), Below w.heap.size w W → Calls Try.prog g #[.int .i64 x, cp] W fun e w' => e = .returned (.bool (p x)) ∧ Below W.heap.size W w') :
    Calls Try.prog 128 #[v, .func (.func g) #[] #[cp]] w fun e w' => e = .returned (.int .i64 (idxOf p xs)) ∧ Below w.heap.size w w' := by
  have HP := hid hp
  clear hp
  rcases ha with ⟨rfl, ao, cap, rfl⟩ | ⟨hp, b, off, cap, rfl, hb, hc⟩
  · have HF : Hid (idxOf p [] = -1) := hid rfl
    go_enter Try.func128, Try.ntmps128
    go_wp2
    refine wp_loop_rounds 1 ?_
    rw [rounds_succ]
    go_wp2
    go_ret
    exact ⟨by rw [HF.out]; rfl, Below.refl _ _⟩
  · obtain ⟨n, hnn⟩ : ∃ n, n = xs.length := ⟨_, rfl⟩
    rw [← hnn] at hp hc hn ⊢
    have HN := hid hnn
    have HC := hid hc
    clear hnn hc
    go_enter Try.func128, Try.ntmps128
    go_wp2
    go_loopw [8] (fun i wr => ∃ k : Nat, k ≤ n ∧ i = .int .i64 k ∧ (∀ j, j < k → p (xs.getD j 0) = false) ∧ Below w.heap.size w wr) (fun i _ => n - (intOf i).toNat)
    case atStart => exact ⟨0, Nat.zero_le _, rfl, fun j hj => by omega, Below.refl _ _⟩
    case round =>
      obtain ⟨k, hk, rfl, hg, hbel⟩ := hrel
      have HG := hid hg
      have HB := hid hbel
      clear hg hbel
      by_cases hlt : k < n
      · have h1 : wr.cell? ⟨b, off + k, none⟩ = some (.int .i64 (xs.getD k 0)) := (HB.out.cell (p := ⟨b, off + k, none⟩) (by show b < _; omega)).trans (HC.out k hlt)
        obtain ⟨x, hx⟩ : ∃ x, x = xs.getD k 0 := ⟨_, rfl⟩
        rw [← hx] at h1
        have HX := hid hx
        clear hx
        go_wp2_with fail
        refine (HP.out x wr HB.out).mono ?_
        rintro e w1 ⟨rfl, b1⟩
        have HB1 := hid (HB.out.trans (b1.mono HB.out.size))
        clear b1
        obtain ⟨q, hq⟩ : ∃ q, q = p x := ⟨_, rfl⟩
        rw [← hq]
        have HQ := hid hq
        clear hq
        cases q
        · go_wp2
          go_roundw
          case rel => exact ⟨k + 1, by omega, by go_num, fun j hj => by
            rcases Nat.lt_or_ge j k with h | h
            · exact HG.out j h
            · obtain rfl : j = k := by omega
              rw [← HX.out, ← HQ.out], HB1.out⟩
          case measure => simp [intOf]; omega
        · have HF := hid (idx_yes p xs k (by rw [← HN.out]; exact hlt) HG.out (by rw [← HX.out, ← HQ.out])).2
          go_wp2
          go_ret
          exact ⟨by rw [HF.out]; rfl, HB1.out⟩
      · obtain rfl : k = n := by omega
        have HF := hid (idx_no p xs (fun j hj => HG.out j (by rw [HN.out]; exact hj))).2
        go_wp2
        go_ret
        exact ⟨by rw [HF.out]; rfl, HB.out⟩

/-- slices.ContainsFunc at a closure over one variable. -/
theorem contFuncC (p : Int → Bool) (g : Nat) (cp : Value) (xs : List Int) (v : Value) (B : Nat) (w : World) (ha : Ints w B v xs) (hB : B ≤ w.heap.size) (hn : xs.length ≤ 1099511627776)
    (eg : ∀ args w, (callFunc g args).run Try.prog w = .ok (.enter g args) w) (hp : ∀ (x : Int) (W : World), Below w.heap.size w W → Calls Try.prog g #[.int .i64 x, cp] W fun e w' => e = .returned (.bool (p x)) ∧ Below W.heap.size W w') :
    Calls Try.prog 102 #[v, .func (.func g) #[] #[cp]] w fun e w' => e = .returned (.bool (xs.any p)) ∧ Below w.heap.size w w' := by
  have H := hid (idxFuncC p g cp xs v B w ha hB hn eg hp)
  have hi := idx_sign p xs hn
  obtain ⟨q, hq⟩ : ∃ q, q = xs.any p := ⟨_, rfl⟩
  rw [← hq] at hi ⊢
  obtain ⟨ao, cap, hv⟩ := ints_val ha
  generalize xs.length = n at *
  subst hv
  clear ha hp eg hq
  generalize idxOf p xs = z at *
  obtain ⟨h1, h2, h3⟩ := hi
  have HQ := hid h1
  clear h1
  go_enter Try.func102, Try.ntmps102
  go_wp2_with fail
  refine H.out.mono ?_
  rintro e w1 ⟨rfl, b1⟩
  have B1 := hid b1
  clear b1
  go_wp2
  go_ret
  exact ⟨by rw [← HQ.out]; rfl, B1.out⟩

/-- A letter of n generators. -/
def gB (n x : Int) : Bool := decide (1 ≤ x ∧ x ≤ n) || decide (-n ≤ x ∧ x ≤ -1)
/-- A word in n generators. -/
def frB (n : Int) (xs : List Int) : Bool := decide (0 ≤ n ∧ n ≤ 12) && decide (xs.length ≤ 20000) && xs.all (gB n)
theorem fr_n {n : Int} {xs : List Int} (h : ¬ (0 ≤ n ∧ n ≤ 12)) : frB n xs = false := by simp [frB, h]
theorem fr_long {n : Int} {xs : List Int} (h : 20000 < xs.length) : frB n xs = false := by
  have : ¬ xs.length ≤ 20000 := by omega
  simp [frB, this]
theorem fr_all {n : Int} {xs : List Int} (h1 : 0 ≤ n ∧ n ≤ 12) (h2 : xs.length ≤ 20000) : frB n xs = xs.all (gB n) := by simp [frB, h1, h2]
theorem fr_parts {n : Int} {xs : List Int} (h : frB n xs = true) : 0 ≤ n ∧ n ≤ 12 ∧ xs.length ≤ 20000 ∧ ∀ j, j < xs.length → gB n (xs.getD j 0) = true := by
  simp only [frB, Bool.and_eq_true, decide_eq_true_eq, List.all_eq_true] at h
  refine ⟨h.1.1.1, h.1.1.2, h.1.2, fun j hj => ?_⟩
  exact h.2 (xs.getD j 0) (by rw [show xs.getD j 0 = xs[j] from by simp [List.getD, List.getElem?_eq_getElem hj]]; exact List.getElem_mem hj)
theorem g_parts {n x : Int} (h : gB n x = true) : x ≠ 0 ∧ -n ≤ x ∧ x ≤ n := by
  simp only [gB, Bool.or_eq_true, decide_eq_true_eq] at h; omega
theorem g_of {n x : Int} (h : x ≠ 0) (h1 : -n ≤ x) (h2 : x ≤ n) : gB n x = true := by
  simp only [gB, Bool.or_eq_true, decide_eq_true_eq]; omega
theorem gall_bad {n : Int} {xs : List Int} (k : Nat) (h : k < xs.length) (hb : gB n (xs.getD k 0) = false) : xs.all (gB n) = false := by
  rw [List.all_eq_false]
  refine ⟨xs.getD k 0, ?_, by rw [hb]; simp⟩
  rw [show xs.getD k 0 = xs[k] from by simp [List.getD, List.getElem?_eq_getElem h]]
  exact List.getElem_mem h
theorem gall_good {n : Int} {xs : List Int} (h : ∀ j, j < xs.length → gB n (xs.getD j 0) = true) : xs.all (gB n) = true := by
  rw [List.all_eq_true]
  intro x hx
  obtain ⟨j, hj, rfl⟩ := List.getElem_of_mem hx
  have := h j hj
  rwa [show xs.getD j 0 = xs[j] from by simp [List.getD, List.getElem?_eq_getElem hj]] at this

/-! ### the model -/
end Go.Proofs.Ytedajefapddekaa.fv
