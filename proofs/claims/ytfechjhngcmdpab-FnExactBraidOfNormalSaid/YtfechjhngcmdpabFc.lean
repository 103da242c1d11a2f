/-
  FreeCore: contracts of both sides.
-/
import Derived.Test.YtfechjhngcmdpabFr5
import Derived.Test.YtfechjhngcmdpabRed
import Derived.RegionTactic
import Derived.BigQuiet
namespace Go.Proofs.Ytfechjhngcmdpab.fr
open Go.RowKit Go.Proofs.Ytfechjhngcmdpab.sl Go.Proofs.Ytfechjhngcmdpab.pm Go.Proofs.Ytfechjhngcmdpab.bw Go.Proofs.Ytfechjhngcmdpab.br Go.Proofs.Ytfechjhngcmdpab.fv Go.Proofs.Ytfechjhngcmdpab.fn
set_option linter.unusedVariables false

/-! ### reduced words -/
def Reduced (r : List Int) : Prop := ∀ j, j + 1 < r.length → r.getD j 0 ≠ -(r.getD (j + 1) 0)
theorem red_sub (xs : List Int) : ∀ x ∈ redL xs, x ∈ xs := by
  refine snoc_ind (P := fun xs => ∀ x ∈ redL xs, x ∈ xs) (fun x hx => by cases hx) (fun xs y ih x hx => ?_) xs
  rw [redL_snoc] at hx
  unfold bw.push at hx
  split at hx
  · exact List.mem_append_left _ (ih x (List.dropLast_subset _ hx))
  · rcases List.mem_append.1 hx with h | h
    · exact List.mem_append_left _ (ih x h)
    · exact List.mem_append_right _ h
theorem red_reduced (xs : List Int) : Reduced (redL xs) := by
  refine snoc_ind (P := fun xs => Reduced (redL xs)) (fun j hj => by simp [redL] at hj) (fun xs y ih => ?_) xs
  show Reduced (redL (xs ++ [y]))
  rw [redL_snoc]
  generalize redL xs = st at *
  by_cases h0 : st.length = 0
  · have : st = [] := List.length_eq_zero_iff.1 h0
    subst this
    intro j hj
    simp [bw.push] at hj
  · obtain ⟨n, hn⟩ : ∃ n, st.length = n + 1 := ⟨st.length - 1, by omega⟩
    by_cases he : st.getD n 0 = -y
    · rw [push_pop st y n hn he]
      intro j hj
      simp only [List.length_take] at hj
      have h1 := ih j (by omega)
      have e1 : (st.take n).getD j 0 = st.getD j 0 := by simp [List.getD, show j < n by omega]
      have e2 : (st.take n).getD (j + 1) 0 = st.getD (j + 1) 0 := by simp [List.getD, show j + 1 < n by omega]
      rw [e1, e2]
      exact h1
    · rw [push_app st y n hn he]
      intro j hj
      simp only [List.length_append, List.length_cons, List.length_nil] at hj
      by_cases hj2 : j + 1 < st.length
      · have e1 : (st ++ [y]).getD j 0 = st.getD j 0 := by simp [List.getD, List.getElem?_append_left (show j < st.length by omega)]
        have e2 : (st ++ [y]).getD (j + 1) 0 = st.getD (j + 1) 0 := by simp [List.getD, List.getElem?_append_left hj2]
        rw [e1, e2]
        exact ih j hj2
      · obtain rfl : j = n := by omega
        have e1 : (st ++ [y]).getD j 0 = st.getD j 0 := by simp [List.getD, List.getElem?_append_left (show j < st.length by omega)]
        have e2 : (st ++ [y]).getD (j + 1) 0 = y := by rw [← hn]; simp [List.getD]
        rw [e1, e2]
        exact he
def NoZero (r : List Int) : Prop := ∀ j, j < r.length → r.getD j 0 ≠ 0
theorem red_nz {n : Int} {xs : List Int} (h : frB n xs = true) : NoZero (redL xs) := fun j hj => by
  have hm : (redL xs).getD j 0 ∈ redL xs := by
    rw [show (redL xs).getD j 0 = (redL xs)[j] from by simp [List.getD, List.getElem?_eq_getElem hj]]
    exact List.getElem_mem hj
  obtain ⟨i, hi, he⟩ := List.getElem_of_mem (red_sub xs _ hm)
  have h1 := (fr_parts h).2.2.2 i hi
  rw [show xs.getD i 0 = xs[i] from by simp [List.getD, List.getElem?_eq_getElem hi], he] at h1
  exact (g_parts h1).1

/-! ### the core -/
def firstNo (p : Nat → Bool) : Nat → Nat → Nat
  | 0, i => i
  | f + 1, i => if p i then firstNo p f (i + 1) else i
theorem firstNo_spec (p : Nat → Bool) (f : Nat) : ∀ i, i ≤ firstNo p f i ∧ firstNo p f i ≤ i + f ∧ (∀ j, i ≤ j → j < firstNo p f i → p j = true) ∧ (firstNo p f i < i + f → p (firstNo p f i) = false) := by
  induction f with
  | zero => intro i; exact ⟨Nat.le_refl _, Nat.le_refl _, fun j h1 h2 => by simp only [firstNo] at h2; omega, fun h => by simp only [firstNo] at h; omega⟩
  | succ f ih =>
    intro i
    unfold firstNo
    by_cases h : p i = true
    · rw [if_pos h]
      obtain ⟨h1, h2, h3, h4⟩ := ih (i + 1)
      refine ⟨by omega, by omega, fun j hj hj2 => ?_, fun hlt => h4 (by omega)⟩
      by_cases e : j = i
      · rw [e]; exact h
      · exact h3 j (by omega) hj2
    · rw [if_neg h]
      exact ⟨Nat.le_refl _, by omega, fun j h1 h2 => by omega, fun _ => by simpa using h⟩
/-- How many letters at the ends of a word cancel. -/
def coreN (r : List Int) : Nat := firstNo (fun i => decide (r.getD (r.length - 1 - i) 0 = -(r.getD i 0))) r.length 0
theorem core_canc (r : List Int) : Canc r r (coreN r) := by
  obtain ⟨_, h2, h3, h4⟩ := firstNo_spec (fun i => decide (r.getD (r.length - 1 - i) 0 = -(r.getD i 0))) r.length 0
  refine ⟨by unfold coreN; omega, by unfold coreN; omega, fun i hi => of_decide_eq_true (h3 i (Nat.zero_le _) hi), fun hlt _ => ?_⟩
  exact of_decide_eq_false (h4 (by unfold coreN at hlt; omega))
theorem canc_unique {r : List Int} {c k : Nat} (h1 : Canc r r c) (h2 : Canc r r k) : c = k := by
  rcases Nat.lt_trichotomy c k with h | h | h
  · exact absurd (h2.all c h) (h1.stop (by have := h2.lx; omega) (by have := h2.lx; omega))
  · exact h
  · exact absurd (h1.all k h) (h2.stop (by have := h1.lx; omega) (by have := h1.lx; omega))
/-- Where the model's loop ends, the letters that cancel end, too. -/
theorem core_end {r : List Int} {k : Nat} (hr : Reduced r) (hz : NoZero r) (h2 : 2 * k ≤ r.length) (ha : ∀ i, i < k → r.getD i 0 = -(r.getD (r.length - 1 - i) 0)) (hs : ¬ 2 * k + 1 < r.length ∨ r.getD k 0 ≠ -(r.getD (r.length - 1 - k) 0)) : k = coreN r := by
  refine canc_unique (r := r) ⟨by omega, by omega, fun i hi => by have := ha i hi; omega, fun hlt _ => ?_⟩ (core_canc r)
  rcases hs with hs | hs
  · by_cases h1 : r.length = 2 * k + 1
    · have e : r.length - 1 - k = k := by omega
      rw [e]
      have := hz k hlt
      omega
    · have e : r.length = 2 * k := by omega
      obtain ⟨m, rfl⟩ : ∃ m, k = m + 1 := ⟨k - 1, by omega⟩
      have e2 : r.length - 1 - (m + 1) = m := by omega
      rw [e2]
      exact hr m (by omega)
  · omega
theorem core_half {r : List Int} (hr : Reduced r) (hz : NoZero r) : 2 * coreN r ≤ r.length := by
  have hc := core_canc r
  by_cases h : 2 * coreN r ≤ r.length
  · exact h
  · exfalso
    have hlx := hc.lx
    by_cases he : r.length % 2 = 1
    · have h1 := hc.all (r.length / 2) (by omega)
      rw [show r.length - 1 - r.length / 2 = r.length / 2 by omega] at h1
      have := hz (r.length / 2) (by omega)
      omega
    · have h1 := hc.all (r.length / 2) (by omega)
      obtain ⟨m, hm⟩ : ∃ m, r.length / 2 = m + 1 := ⟨r.length / 2 - 1, by omega⟩
      rw [show r.length - 1 - r.length / 2 = m by omega, hm] at h1
      exact hr m (by omega) h1
def coA (r : List Int) : List Int := r.take (coreN r)
def coB (r : List Int) : List Int := (r.drop (coreN r)).take (r.length - coreN r - coreN r)
theorem coA_len (r : List Int) : (coA r).length = coreN r := by have := (core_canc r).lx; simp [coA]; omega
theorem coB_len (r : List Int) : (coB r).length = r.length - coreN r - coreN r := by simp [coB]
theorem coA_at (r : List Int) (j : Nat) (h : j < coreN r) : (coA r).getD j 0 = r.getD j 0 := by simp [coA, List.getD, h]
theorem coB_at (r : List Int) (j : Nat) (h : j < r.length - coreN r - coreN r) : (coB r).getD j 0 = r.getD (coreN r + j) 0 := by
  simp only [coB, List.getD, List.getElem?_take, List.getElem?_drop]
  rw [if_pos h]
def fcA (n : Int) (xs : List Int) : List Int := frW n xs (coA (redL xs))
def fcB (n : Int) (xs : List Int) : List Int := frW n xs (coB (redL xs))
/-- Both parts of a word that is laid in memory. -/
theorem parts {w : World} {B b off n cap : Nat} {r : List Int} (hn : n = r.length) (hb : b < B) (hc : ∀ j, j < r.length → w.cell? ⟨b, off + j, none⟩ = some (.int .i64 (r.getD j 0))) (hh : 2 * coreN r ≤ r.length) (cA cB o2 : Nat) (ho : o2 = if cap = coreN r then off else off + coreN r) (hcap : n ≤ cap) :
    Ints w B (.slice (some ⟨b, off, none⟩) (coreN r) cA) (coA r) ∧ Ints w B (.slice (some ⟨b, o2, none⟩) (n - coreN r - coreN r) cB) (coB r) := by
  constructor
  · by_cases h0 : coreN r = 0
    · refine .inl ⟨List.length_eq_zero_iff.1 (by rw [coA_len]; exact h0), _, _, by rw [h0]⟩
    · refine .inr ⟨by rw [coA_len]; omega, b, off, cA, by rw [coA_len], hb, fun j hj => ?_⟩
      rw [coA_len] at hj
      rw [coA_at r j hj]
      exact hc j (by omega)
  · by_cases h0 : n - coreN r - coreN r = 0
    · refine .inl ⟨List.length_eq_zero_iff.1 (by rw [coB_len, ← hn]; exact h0), _, _, by rw [h0]⟩
    · refine .inr ⟨by rw [coB_len, ← hn]; omega, b, o2, cB, by rw [coB_len, ← hn], hb, fun j hj => ?_⟩
      rw [coB_len] at hj
      rw [coB_at r j hj, ho, if_neg (by omega), Nat.add_assoc]
      exact hc _ (by omega)

theorem own0 (xs : List Int) (v : Value) (B : Nat) (w : World) (ha : Ints w B v xs) (hnil : NilOk v) (hn : xs.length ≤ 1099511627776) :
    Calls Try.prog 73 #[v] w fun e w' => ∃ v', e = .returned v' ∧ sl.Own w' w.heap.size w'.heap.size v' xs ∧ Below w.heap.size w w' := by
  go_enter Try.func73, Try.ntmps73
  go_wp2_with (at_builtin; refine wp_appendAll rfl _ _ rfl w.heap.size _ _ [] (Own.built w #[] rfl) rfl v xs B (ints_al ha _) hnil rfl (by simp) (by simp; omega) ?_; intro v' w1 o1 c1)
  go_ret
  refine ⟨v', rfl, by simpa using o1, ?_⟩
  exact ((Below.refl w.heap.size w).alloc (Nat.le_refl _) (.cells #[] 2)).trans (c1.below (B := w.heap.size) (by omega) (by simp))
/-! ### FreeCore -/
theorem own_none (w : World) (lo hi : Nat) (h : hi ≤ w.heap.size) : sl.Own w lo hi (.slice none 0 0) [] :=
  And.intro (Own.nil w lo).1 (And.intro (fun g hg => by simp [Value.ownBlock] at hg) h)
theorem fc_no {n : Int} {xs : List Int} (h : frB n xs = false) : fcA n xs = [] ∧ fcB n xs = [] := ⟨frW_no h, frW_no h⟩
theorem fc_yes {n : Int} {xs : List Int} (h : frB n xs = true) : fcA n xs = coA (redL xs) ∧ fcB n xs = coB (redL xs) := ⟨frW_yes h, frW_yes h⟩
theorem fcA_len (n : Int) (xs : List Int) : (fcA n xs).length ≤ 20000 := frW_len n xs _ (by have := redL_len xs; have := (core_canc (redL xs)).lx; rw [coA_len]; omega)
theorem fcB_len (n : Int) (xs : List Int) : (fcB n xs).length ≤ 20000 := frW_len n xs _ (by have := redL_len xs; rw [coB_len]; omega)

end Go.Proofs.Ytfechjhngcmdpab.fr
