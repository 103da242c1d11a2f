/-
  FreeCore: contracts of both sides.
-/
import Derived.Test.YtkpilmcaeemfmaaFr5
import Derived.Test.YtkpilmcaeemfmaaRed
import Derived.RegionTactic
import Derived.BigQuiet
namespace Go.Proofs.Ytkpilmcaeemfmaa.fr
open Go.RowKit Go.Proofs.Ytkpilmcaeemfmaa.sl Go.Proofs.Ytkpilmcaeemfmaa.pm Go.Proofs.Ytkpilmcaeemfmaa.bw Go.Proofs.Ytkpilmcaeemfmaa.br Go.Proofs.Ytkpilmcaeemfmaa.fv Go.Proofs.Ytkpilmcaeemfmaa.fn
set_option linter.unusedVariables false

/-! ### reduced words -/
def Reduced (r : List Int) : Prop := ∀ j, j + 1 < r.length → r.getD j 0 ≠ -(r.getD (j + 1) 0)
theorem red_sub (xs : List Int) : ∀ x ∈ redL xs, x ∈ xs := by
  refine snoc_ind (P := fun xs => ∀ x ∈ redL xs, x ∈ xs) (fun x hx => by cases hx) (fun xs y ih x hx => ?_) xs
  rw [redL_snoc] at hx
  unfold bw.push at hx
  split at hx
  · exact List.mem_append_left _ (ih x (List.dropLast_subset _ hx))
  · rcases List.mem_append.1 hx with h | h
    · exact List.mem_append_left _ (ih x h)
    · exact List.mem_append_right _ h
theorem red_reduced (xs : List Int) : Reduced (redL xs) := by
  refine snoc_ind (P := fun xs => Reduced (redL xs)) (fun j hj => by simp [redL] at hj) (fun xs y ih => ?_) xs
  show Reduced (redL (xs ++ [y]))
  rw [redL_snoc]
  generalize redL xs = st at *
  by_cases h0 : st.length = 0
  · have : st = [] := List.length_eq_zero_iff.1 h0
    subst this
    intro j hj
    simp [bw.push] at hj
  · obtain ⟨n, hn⟩ : ∃ n, st.length = n + 1 := ⟨st.length - 1, by omega⟩
    by_cases he : st.getD n 0 = -y
    · rw [push_pop st y n hn he]
      intro j hj
      simp only [List.length_take] at hj
      have h1 := ih j (by omega)
      have e1 : (st.take n).getD j 0 = st.getD j 0 := by simp [List.getD, show j < n by omega]
      have e2 : (st.take n).getD (j + 1) 0 = st.getD (j + 1) 0 := by simp [List.getD, show j + 1 < n by omega]
      rw [e1, e2]
      exact h1
    · rw [push_app st y n hn he]
      intro j hj
      simp only [List.length_append, List.length_cons, List.length_nil] at hj
      by_cases hj2 : j + 1 < st.length
      · have e1 : (st ++ [y]).getD j 0 = st.getD j 0 := by simp [List.getD, List.getElem?_append_left (show j < st.length by omega)]
        have e2 : (st ++ [y]).getD (j + 1) 0 = st.getD (j + 1) 0 := by simp [List.getD, List.getElem?_append_left hj2]
        rw [e1, e2]
        exact ih j hj2
      · obtain rfl : j = n := by omega
        have e1 : (st ++ [y]).getD j 0 = st.getD j 0 := by simp [List.getD, List.getElem?_append_left (show j < st.length by omega)]
        have e2 : (st ++ [y]).getD (j + 1) 0 = y := by rw [← hn]; simp [List.getD]
        rw [e1, e2]
        exact he
def NoZero (r : List Int) : Prop := ∀ j, j < r.length → r.getD j 0 ≠ 0
theorem red_nz {n : Int} {xs : List Int} (h : frB n xs = true) : NoZero (redL xs) := fun j hj => by
  have hm : (redL xs).getD j 0 ∈ redL xs := by
    rw [show (redL xs).getD j 0 = (redL xs)[j] from by simp [List.getD, List.getElem?_eq_getElem hj]]
    exact List.getElem_mem hj
  obtain ⟨i, hi, he⟩ := List.getElem_of_mem (red_sub xs _ hm)
  have h1 := (fr_parts h).2.2.2 i hi
  rw [show xs.getD i 0 = xs[i] from by simp [List.getD, List.getElem?_eq_getElem hi], he] at h1
  exact (g_parts h1).1

/-! ### the core -/
def firstNo (p : Nat → Bool) : Nat → Nat → Nat
  | 0, i => i
  | f + 1, i => if p i then firstNo p f (i + 1) else i
theorem firstNo_spec (p : Nat → Bool) (f : Nat) : ∀ i, i ≤ firstNo p f i ∧ firstNo p f i ≤ i + f ∧ (∀ j, i ≤ j → j < firstNo p f i → p j = true) ∧ (firstNo p f i < i + f → p (firstNo p f i) = false) := by
  induction f with
  | zero => intro i; exact ⟨Nat.le_refl _, Nat.le_refl _, fun j h1 h2 => by simp only [firstNo] at h2; omega, fun h => by simp only [firstNo] at h; omega⟩
  | succ f ih =>
    intro i
    unfold firstNo
    by_cases h : p i = true
    · rw [if_pos h]
      obtain ⟨h1, h2, h3, h4⟩ := ih (i + 1)
      refine ⟨by omega, by omega, fun j hj hj2 => ?_, fun hlt => h4 (by omega)⟩
      by_cases e : j = i
      · rw [e]; exact h
      · exact h3 j (by omega) hj2
    · rw [if_neg h]
      exact ⟨Nat.le_refl _, by omega, fun j h1 h2 => by omega, fun _ => by simpa using h⟩
/-- How many letters at the ends of a word cancel. -/
def coreN (r : List Int) : Nat := firstNo (fun i => decide (r.getD (r.length - 1 - i) 0 = -(r.getD i 0))) r.length 0
theorem core_canc (r : List Int) : Canc r r (coreN r) := by
  obtain ⟨_, h2, h3, h4⟩ := firstNo_spec (fun i => decide (r.getD (r.length - 1 - i) 0 = -(r.getD i 0))) r.length 0
  refine ⟨by unfold coreN; omega, by unfold coreN; omega, fun i hi => of_decide_eq_true (h3 i (Nat.zero_le _) hi), fun hlt _ => ?_⟩
  exact of_decide_eq_false (h4 (by unfold coreN at hlt; omega))
theorem canc_unique {r : List Int} {c k : Nat} (h1 : Canc r r c) (h2 : Canc r r k) : c = k := by
  rcases Nat.lt_trichotomy c k with h | h | h
  · exact absurd (h2.all c h) (h1.stop (by have := h2.lx; omega) (by have := h2.lx; omega))
  · exact h
  · exact absurd (h1.all k h) (h2.stop (by have := h1.lx; omega) (by have := h1.lx; omega))
/-- Where the model's loop ends, the letters that cancel end, too. -/
theorem core_end {r : List Int} {k : Nat} (hr : Reduced r) (hz : NoZero r) (h2 : 2 * k ≤ r.length) (ha : ∀ i, i < k → r.getD i 0 = -(r.getD (r.length - 1 - i) 0)) (hs : ¬ 2 * k + 1 < r.length ∨ r.getD k 0 ≠ -(r.getD (r.length - 1 - k) 0)) : k = coreN r := by
  refine canc_unique (r := r) ⟨by omega, by omega, fun i hi => by have := ha i hi; omega, fun hlt _ => ?_⟩ (core_canc r)
  rcases hs with hs | hs
  · by_cases h1 : r.length = 2 * k + 1
    · have e : r.length - 1 - k = k := by omega
      rw [e]
      have := hz k hlt
      omega
    · have e : r.length = 2 * k := by omega
      obtain ⟨m, rfl⟩ : ∃ m, k = m + 1 := ⟨k - 1, by omega⟩
      have e2 : r.length - 1 - (m + 1) = m := by omega
      rw [e2]
      exact hr m (by omega)
  · omega
theorem core_half {r : List Int} (hr : Reduced r) (hz : NoZero r) : 2 * coreN r ≤ r.length := by
  have hc := core_canc r
  by_cases h : 2 * coreN r ≤ r.length
  · exact h
  · exfalso
    have hlx := hc.lx
    by_cases he : r.length % 2 = 1
    · have h1 := hc.all (r.length / 2) (by omega)
      rw [show r.length - 1 - r.length / 2 = r.length / 2 by omega] at h1
      have := hz (r.length / 2) (by omega)
      omega
    · have h1 := hc.all (r.length / 2) (by omega)
      obtain ⟨m, hm⟩ : ∃ m, r.length / 2 = m + 1 := ⟨r.length / 2 - 1, by omega⟩
      rw [show r.length - 1 - r.length / 2 = m by omega, hm] at h1
      exact hr m (by omega) h1
def coA (r : List Int) : List Int := r.take (coreN r)
def coB (r : List Int) : List Int := (r.drop (coreN r)).take (r.length - coreN r - coreN r)
theorem coA_len (r : List Int) : (coA r).length = coreN r := by have := (core_canc r).lx; simp [coA]; omega
theorem coB_len (r : List Int) : (coB r).length = r.length - coreN r - coreN r := by simp [coB]
theorem coA_at (r : List Int) (j : Nat) (h : j < coreN r) : (coA r).getD j 0 = r.getD j 0 := by simp [coA, List.getD, h]
theorem coB_at (r : List Int) (j : Nat) (h : j < r.length - coreN r - coreN r) : (coB r).getD j 0 = r.getD (coreN r + j) 0 := by
  simp only [coB, List.getD, List.getElem?_take, List.getElem?_drop]
  rw [if_pos h]
def fcA (n : Int) (xs : List Int) : List Int := frW n xs (coA (redL xs))
def fcB (n : Int) (xs : List Int) : List Int := frW n xs (coB (redL xs))
/-- Both parts of a word that is laid in memory. -/
theorem parts {w : World} {B b off n cap : Nat} {r : List Int} (hn : n = r.length) (hb : b < B) (hc : ∀ j, j < r.length → w.cell? ⟨b, off + j, none⟩ = some (.int .i64 (r.getD j 0))) (hh : 2 * coreN r ≤ r.length) (cA cB o2 : Nat) (ho : o2 = if cap = coreN r then off else off + coreN r) (hcap : n ≤ cap) :
    Ints w B (.slice (some ⟨b, off, none⟩) (coreN r) cA) (coA r) ∧ Ints w B (.slice (some ⟨b, o2, none⟩) (n - coreN r - coreN r) cB) (coB r) := by
  constructor
  · by_cases h0 : coreN r = 0
    · refine .inl ⟨List.length_eq_zero_iff.1 (by rw [coA_len]; exact h0), _, _, by rw [h0]⟩
    · refine .inr ⟨by rw [coA_len]; omega, b, off, cA, by rw [coA_len], hb, fun j hj => ?_⟩
      rw [coA_len] at hj
      rw [coA_at r j hj]
      exact hc j (by omega)
  · by_cases h0 : n - coreN r - coreN r = 0
    · refine .inl ⟨List.length_eq_zero_iff.1 (by rw [coB_len, ← hn]; exact h0), _, _, by rw [h0]⟩
    · refine .inr ⟨by rw [coB_len, ← hn]; omega, b, o2, cB, by rw [coB_len, ← hn], hb, fun j hj => ?_⟩
      rw [coB_len] at hj
      rw [coB_at r j hj, ho, if_neg (by omega), Nat.add_assoc]
      exact hc _ (by omega)

theorem own0 (xs : List Int) (v : Value) (B : Nat) (w : World) (ha : Ints w B v xs) (hnil : NilOk v) (hn : xs.length ≤ 1099511627776) :
    Calls Try.prog 133 #[v] w fun e w' => ∃ v', e = .returned v' ∧ sl.Own w' w.heap.size w'.heap.size v' xs ∧ Below w.heap.size w w' := by
  go_enter Try.func133, Try.ntmps133
  go_wp2_with (at_builtin; refine wp_appendAll rfl _ _ rfl w.heap.size _ _ [] (Own.built w #[] rfl) rfl v xs B (ints_al ha _) hnil rfl (by simp) (by simp; omega) ?_; intro v' w1 o1 c1)
  go_ret
  refine ⟨v', rfl, by simpa using o1, ?_⟩
  exact ((Below.refl w.heap.size w).alloc (Nat.le_refl _) (.cells #[] 2)).trans (c1.below (B := w.heap.size) (by omega) (by simp))
set_option maxHeartbeats 1600000 in
theorem specCore (r : List Int) (v : Value) (lo : Nat) (w : World) (ho : sl.Own w lo w.heap.size v r) (hr : Reduced r) (hz : NoZero r) (hn : r.length ≤ 1000000) (hs : Small r) :
    Calls Try.prog 154 #[v] w fun e w' => ∃ vA vB m, e = .returned (.tuple #[vA, vB]) ∧ w.heap.size ≤ m ∧ sl.Own w' w.heap.size m vA (coA r) ∧ sl.Own w' m w'.heap.size vB (coB r) ∧ Below w.heap.size w w' := by
  have hvv : (v = .slice none 0 0 ∧ r = []) ∨ ∃ g cap, v = .slice (some ⟨g, 0, none⟩) r.length cap ∧ r.length ≤ cap ∧ cap ≤ 9223372036854775807 ∧ g < w.heap.size := by
    rcases ho.1.2 with ⟨h1, h2⟩ | ⟨g, c, cur, h1, h2, h3, h4, h5, _⟩
    · exact .inl ⟨h1, List.length_eq_zero_iff.1 h2⟩
    · exact .inr ⟨g, c, h1, h4, by unfold maxLen at h5; omega, ho.2.1 g (by rw [h1]; rfl)⟩
  rcases hvv with ⟨rfl, rfl⟩ | ⟨g, cap, rfl, hc1, hc2, hgw⟩
  · have hA : coA [] = [] := rfl
    have hB : coB [] = [] := rfl
    rw [hA, hB]
    have HBd : Hid (Below w.heap.size w w.drew) := hid (Below.refl _ _).drew
    clear ho hr hz hs
    go_enter Try.func154, Try.ntmps154
    go_wp2
    refine wp_loop_rounds 1 ?_
    rw [rounds_succ]
    go_wp2
    go_quiet (fail)
    have HBd : Hid (Below w.heap.size w (w.drewN nq).drew) := hid (bdrewN (Below.refl _ _) nq).drew
    go_wp2_with fail
    go_region_with (first
      | (go_at_call 133
         have hchk := HOa
         refine (own0 [] (.slice none 0 0) 0 Wx (.inl ⟨rfl, _, _, rfl⟩) (fun _ _ h => by cases h; exact ⟨rfl, rfl⟩) (by simp)).mono ?_
         rintro e Wy ⟨vB, rfl, oB, bB⟩
         have HOb := hid oB
         have HOa2 := hid (HOa.out.chg (Chg.ofBelow (lo := 0) bB) (.inr (.inr (Nat.zero_le _))))
         have hzB := bB.size
         have HBy := hid (HBx.out.trans (bB.mono HBx.out.size))
         clear oB bB HOa HBx)
      | (go_at_call 133
         refine (own0 [] (.slice none 0 0) 0 _ (.inl ⟨rfl, _, _, rfl⟩) (fun _ _ h => by cases h; exact ⟨rfl, rfl⟩) (by simp)).mono ?_
         rintro e Wx ⟨vA, rfl, oA, bA⟩
         have HOa := hid oA
         have HBx : Hid (Below w.heap.size w Wx) := hid (HBd.out.trans (bA.mono HBd.out.size))
         have hzA := bA.size
         have hzx : w.heap.size ≤ Wx.heap.size := HBx.out.size
         clear oA bA))
    all_goals (try go_wp2)
    all_goals
      go_ret2
      exact ⟨vA, vB, Wx.heap.size, rfl, hzx, HOa2.out, HOb.out, HBy.out⟩
  · have HI := hid ho.ints
    have HO := hid ho
    have HE := hid (fun k h2 ha hst => core_end (r := r) (k := k) hr hz h2 ha hst)
    have HS := hid hs
    obtain ⟨n, hnn⟩ : ∃ n, n = r.length := ⟨_, rfl⟩
    rw [← hnn] at hn hc1 ⊢
    have HN := hid hnn
    rw [← hnn] at HO
    clear ho hr hz hs hnn HI
    go_enter Try.func154, Try.ntmps154
    go_wp2
    go_loopw [4] (fun i wr => ∃ k : Nat, 2 * k ≤ n ∧ i = .int .i64 k ∧ (∀ j, j < k → r.getD j 0 = -(r.getD (n - 1 - j) 0)) ∧ ∃ q, wr = w.drewN q) (fun i _ => n - (intOf i).toNat)
    case atStart => exact ⟨0, by omega, rfl, fun j hj => by omega, 0, rfl⟩
    case round =>
      obtain ⟨k, h2k, rfl, hg, q, rfl⟩ := hrel
      have HG := hid hg
      clear hg
      have hw1 : IntKind.i64.wrap (2 * (k : Int)) = 2 * (k : Int) := IntWalk.i64_in _ (by omega)
      have hw2 : IntKind.i64.wrap (2 * (k : Int) + 1) = 2 * (k : Int) + 1 := IntWalk.i64_in _ (by omega)
      by_cases hlt : 2 * k + 1 < n
      · have hltI : 2 * (k : Int) + 1 < (n : Int) := by omega
        have hd1 : decide (2 * (k : Int) + 1 < (n : Int)) = true := decide_eq_true hltI
        have c1 := (HO.out.at' k (by rw [← HN.out]; omega)).1
        have c2 := (HO.out.at' (n - 1 - k) (by rw [← HN.out]; omega)).1
        have hy := HS.out (n - 1 - k) (by rw [← HN.out]; omega)
        have hi1 : IntKind.i64.wrap ((n : Int) - 1) = (n : Int) - 1 := IntWalk.i64_in _ (by omega)
        have hi2 : IntKind.i64.wrap ((n : Int) - 1 - (k : Int)) = ((n - 1 - k : Nat) : Int) := by rw [IntWalk.i64_in _ (by omega)]; omega
        have hi3 : (k : Int) < (n : Int) := by omega
        have hi4 : ((n - 1 - k : Nat) : Int) < (n : Int) := by omega
        have hi5 : n - 1 - k < n := by omega
        obtain ⟨x, hxx⟩ : ∃ x, x = r.getD k 0 := ⟨_, rfl⟩
        obtain ⟨y, hyy⟩ : ∃ y, y = r.getD (n - 1 - k) 0 := ⟨_, rfl⟩
        rw [← hxx] at c1
        rw [← hyy] at c2 hy
        have hwy : IntKind.i64.wrap (-y) = -y := IntWalk.i64_in _ (by omega)
        have HXX := hid hxx
        have HYY := hid hyy
        clear hxx hyy
        by_cases he : x = -y
        · have HEq := hid he
          have he1 : (x == -y) = true := beq_iff_eq.2 he
          have he2 : decide (x = -y) = true := decide_eq_true he
          subst he
          go_wp2
          go_quiet (fail)
          go_wp2
          go_roundw
          case rel => exact ⟨k + 1, by omega, by go_num, fun j hj => by
            rcases Nat.lt_or_ge j k with h | h
            · exact HG.out j h
            · obtain rfl : j = k := by omega
              rw [← HXX.out, ← HYY.out], q + nq, by simp [World.drewN]⟩
          case measure => simp [intOf]; omega
        · have he1 : (x == -y) = false := beq_eq_false_iff_ne.2 he
          have he2 : decide (x = -y) = false := decide_eq_false he
          have HCe : Hid (k = coreN r) := hid (HE.out k (by rw [← HN.out]; omega) (by rw [← HN.out]; exact HG.out) (.inr (by rw [← HN.out, ← HXX.out, ← HYY.out]; exact he)))
          clear he HE HG HS
          go_wp2
          go_quiet (fail)
          obtain ⟨c, hcc⟩ : ∃ c, c = k := ⟨_, rfl⟩
          subst hcc
          have hg2 : g < (w.drewN (q + nq + 1)).heap.size := hgw
          have HBd : Hid (Below w.heap.size w (w.drewN (q + nq + 1))) := hid (bdrewN (Below.refl _ _) _)

          have hwq : IntKind.i64.wrap ((n : Int) - (c : Int)) = ((n - c : Nat) : Int) := by rw [IntWalk.i64_in _ (by omega)]; omega
          have hq0 : (0 : Int) ≤ ((n - c : Nat) : Int) := by omega
          have hq1 : ((n - c : Nat) : Int) ≤ (cap : Int) := by omega
          have hq2 : (c : Int) ≤ ((n - c : Nat) : Int) := by omega
          have hq3 : (0 : Int) ≤ (c : Int) := by omega
          have hq4 : (c : Int) ≤ (cap : Int) := by omega
          have hq5 : c ≤ n - c := by omega
          have hq6 : n - c ≤ cap := by omega
          obtain ⟨o2, ho2⟩ : ∃ o2 : Nat, o2 = if cap = c then 0 else 0 + c := ⟨_, rfl⟩
          have hofa : (if cap = c then (some ⟨g, 0, none⟩ : Option Addr) else some ⟨g, c, none⟩) = some ⟨g, o2, none⟩ := by rw [ho2]; split <;> simp
          have hpt := parts (w := (w.drewN (q + nq + 1))) (B := (w.drewN (q + nq + 1)).heap.size) (b := g) (off := 0) (n := n) (cap := cap) (r := r) HN.out hg2 (fun j hj => by rw [Nat.zero_add]; exact (HO.out.at' j hj).1) (by rw [← HCe.out, ← HN.out]; omega) cap (cap - c) o2 (by rw [← HCe.out]; exact ho2) (by omega)
          rw [← HCe.out] at hpt
          have HIa := hid hpt.1
          have HIb0 := hid hpt.2
          clear hpt ho2
          have HLa : Hid ((coA r).length ≤ 1000000) := hid (by rw [coA_len, ← HCe.out]; omega)
          have HLb : Hid ((coB r).length ≤ 1000000) := hid (by rw [coB_len, ← HN.out]; omega)
          have HAl : Hid (c = (coA r).length) := hid (by rw [coA_len]; exact HCe.out)
          go_wp2_with fail
          go_region_with (first
            | (go_at_call_of 133 (Value.slice (some ⟨g, o2, none⟩) (n - c - c) (cap - c))
               refine (own0 (coB r) _ _ Wx HIb.out (fun _ _ h => by cases h) (by have := HLb.out; omega)).mono ?_
               rintro e Wy ⟨vB, rfl, oB, bB⟩
               have HOb := hid oB
               have HOa2 := hid (HOa.out.chg (Chg.ofBelow (lo := 0) bB) (.inr (.inr (Nat.zero_le _))))
               have hzB := bB.size
               have HBy := hid (HBx.out.trans (bB.mono HBx.out.size))
               clear oB bB HOa HBx)
            | (go_at_call_of 133 (Value.slice (some ⟨g, 0, none⟩) c cap)
               refine (own0 (coA r) _ _ _ HIa.out (fun _ _ h => by cases h) (by have := HLa.out; omega)).mono ?_
               rintro e Wx ⟨vA, rfl, oA, bA⟩
               have HOa := hid oA
               have HIb := hid (HIb0.out.chg (Chg.ofBelow (lo := 0) bA) (.inr (Nat.zero_le _)))
               have HBx : Hid (Below w.heap.size w Wx) := hid (HBd.out.trans (bA.mono HBd.out.size))
               have hzA := bA.size
               have hzx : w.heap.size ≤ Wx.heap.size := HBx.out.size
               clear oA bA))
          all_goals (try go_wp2)
          all_goals
            go_ret2
            exact ⟨vA, vB, Wx.heap.size, rfl, hzx, HOa2.out.lo (by first | exact Nat.le_refl _ | (show w.heap.size ≤ w.heap.size; omega)), HOb.out, HBy.out⟩
      · have hd1 : decide (2 * (k : Int) + 1 < (n : Int)) = false := decide_eq_false (by omega)
        have hltI : ¬ 2 * (k : Int) + 1 < (n : Int) := by omega
        have HCe : Hid (k = coreN r) := hid (HE.out k (by rw [← HN.out]; omega) (by rw [← HN.out]; exact HG.out) (.inl (by rw [← HN.out]; exact hlt)))
        clear HE HG HS
        go_wp2
        go_quiet (fail)
        obtain ⟨c, hcc⟩ : ∃ c, c = k := ⟨_, rfl⟩
        subst hcc
        have hg2 : g < (w.drewN (q + nq + 1)).heap.size := hgw
        have HBd : Hid (Below w.heap.size w (w.drewN (q + nq + 1))) := hid (bdrewN (Below.refl _ _) _)

        have hwq : IntKind.i64.wrap ((n : Int) - (c : Int)) = ((n - c : Nat) : Int) := by rw [IntWalk.i64_in _ (by omega)]; omega
        have hq0 : (0 : Int) ≤ ((n - c : Nat) : Int) := by omega
        have hq1 : ((n - c : Nat) : Int) ≤ (cap : Int) := by omega
        have hq2 : (c : Int) ≤ ((n - c : Nat) : Int) := by omega
        have hq3 : (0 : Int) ≤ (c : Int) := by omega
        have hq4 : (c : Int) ≤ (cap : Int) := by omega
        have hq5 : c ≤ n - c := by omega
        have hq6 : n - c ≤ cap := by omega
        obtain ⟨o2, ho2⟩ : ∃ o2 : Nat, o2 = if cap = c then 0 else 0 + c := ⟨_, rfl⟩
        have hofa : (if cap = c then (some ⟨g, 0, none⟩ : Option Addr) else some ⟨g, c, none⟩) = some ⟨g, o2, none⟩ := by rw [ho2]; split <;> simp
        have hpt := parts (w := (w.drewN (q + nq + 1))) (B := (w.drewN (q + nq + 1)).heap.size) (b := g) (off := 0) (n := n) (cap := cap) (r := r) HN.out hg2 (fun j hj => by rw [Nat.zero_add]; exact (HO.out.at' j hj).1) (by rw [← HCe.out, ← HN.out]; omega) cap (cap - c) o2 (by rw [← HCe.out]; exact ho2) (by omega)
        rw [← HCe.out] at hpt
        have HIa := hid hpt.1
        have HIb0 := hid hpt.2
        clear hpt ho2
        have HLa : Hid ((coA r).length ≤ 1000000) := hid (by rw [coA_len, ← HCe.out]; omega)
        have HLb : Hid ((coB r).length ≤ 1000000) := hid (by rw [coB_len, ← HN.out]; omega)
        go_wp2_with fail
        go_region_with (first
          | (go_at_call_of 133 (Value.slice (some ⟨g, o2, none⟩) (n - c - c) (cap - c))
             refine (own0 (coB r) _ _ Wx HIb.out (fun _ _ h => by cases h) (by have := HLb.out; omega)).mono ?_
             rintro e Wy ⟨vB, rfl, oB, bB⟩
             have HOb := hid oB
             have HOa2 := hid (HOa.out.chg (Chg.ofBelow (lo := 0) bB) (.inr (.inr (Nat.zero_le _))))
             have hzB := bB.size
             have HBy := hid (HBx.out.trans (bB.mono HBx.out.size))
             clear oB bB HOa HBx)
          | (go_at_call_of 133 (Value.slice (some ⟨g, 0, none⟩) c cap)
             refine (own0 (coA r) _ _ _ HIa.out (fun _ _ h => by cases h) (by have := HLa.out; omega)).mono ?_
             rintro e Wx ⟨vA, rfl, oA, bA⟩
             have HOa := hid oA
             have HIb := hid (HIb0.out.chg (Chg.ofBelow (lo := 0) bA) (.inr (Nat.zero_le _)))
             have HBx : Hid (Below w.heap.size w Wx) := hid (HBd.out.trans (bA.mono HBd.out.size))
             have hzA := bA.size
             have hzx : w.heap.size ≤ Wx.heap.size := HBx.out.size
             clear oA bA))
        all_goals (try go_wp2)
        all_goals
          go_ret2
          exact ⟨vA, vB, Wx.heap.size, rfl, hzx, HOa2.out.lo (by first | exact Nat.le_refl _ | (show w.heap.size ≤ w.heap.size; omega)), HOb.out, HBy.out⟩
/-! ### FreeCore -/
theorem own_none (w : World) (lo hi : Nat) (h : hi ≤ w.heap.size) : sl.Own w lo hi (.slice none 0 0) [] :=
  And.intro (Own.nil w lo).1 (And.intro (fun g hg => by simp [Value.ownBlock] at hg) h)
theorem fc_no {n : Int} {xs : List Int} (h : frB n xs = false) : fcA n xs = [] ∧ fcB n xs = [] := ⟨frW_no h, frW_no h⟩
theorem fc_yes {n : Int} {xs : List Int} (h : frB n xs = true) : fcA n xs = coA (redL xs) ∧ fcB n xs = coB (redL xs) := ⟨frW_yes h, frW_yes h⟩
theorem fcA_len (n : Int) (xs : List Int) : (fcA n xs).length ≤ 20000 := frW_len n xs _ (by have := redL_len xs; have := (core_canc (redL xs)).lx; rw [coA_len]; omega)
theorem fcB_len (n : Int) (xs : List Int) : (fcB n xs).length ≤ 20000 := frW_len n xs _ (by have := redL_len xs; rw [coB_len]; omega)

set_option maxHeartbeats 1600000 in
theorem implFreeCore (n : Int) (xs : List Int) (v : Value) (B : Nat) (w : World) (ha : Ints w B v xs) (hB : B ≤ w.heap.size) (hn : xs.length ≤ 1099511627776) (hcap : CapOk v) :
    Calls Try.prog 156 #[.int .i64 n, v] w fun e w' => ∃ vA vB m, e = .returned (.tuple #[vA, vB, .bool (frB n xs)]) ∧ w.heap.size ≤ m ∧ sl.Own w' w.heap.size m vA (fcA n xs) ∧ sl.Own w' m w'.heap.size vB (fcB n xs) ∧ Below w.heap.size w w' := by
  have HV := hid (implFree n xs v B w ha hB hn)
  obtain ⟨ao, cap0, hv⟩ := ints_val ha
  have hcp := hcap ao xs.length cap0 hv
  cases h : frB n xs
  · have HW := hid (fc_no h)
    rw [HW.out.1, HW.out.2]
    rw [h] at HV
    clear ha h hcp
    generalize xs.length = l at *
    subst hv
    go_enter Try.func156, Try.ntmps156
    go_wp2_with fail
    refine HV.out.mono ?_
    rintro e w1 ⟨rfl, b1⟩
    have HB1 := hid b1
    have hz1 := b1.size
    clear b1
    go_wp2
    refine bodyPost_ret (v := .tuple #[.slice none 0 0, .slice none 0 0, .bool false]) (by simp [results, Try.results156, go_sem]) rfl ⟨_, _, w.heap.size, rfl, Nat.le_refl _, own_none _ _ _ hz1, own_none _ _ _ (Nat.le_refl _), HB1.out⟩
  · have HW := hid (fc_yes h)
    have hs := fr_small h
    have hl := (fr_parts h).2.2.1
    have hnz := red_nz h
    rw [HW.out.1, HW.out.2]
    rw [h] at HV
    have HR : Hid (∀ W : World, Ints W B v xs → B ≤ W.heap.size → Calls Try.prog 86 #[v] W fun e w' => ∃ v', e = .returned v' ∧ sl.Own w' W.heap.size w'.heap.size v' (redL xs) ∧ Below W.heap.size W w') := hid (fun W i l => reduced xs v B W i l ⟨ao, cap0, hv, hcp.1, hcp.2⟩ (by omega) hs)
    have hrl : (redL xs).length ≤ 1000000 := by have := redL_len xs; omega
    have hrs := small_red hs
    have hrr := red_reduced xs
    have HA := hid ha
    clear ha hs h HW hcp
    generalize redL xs = r at *
    have HCt : Hid (∀ (W : World) (u : Value), sl.Own W w.heap.size W.heap.size u r → Calls Try.prog 152 #[u, u, .func (.func 153) #[] #[]] W fun e w' => ∃ c : Nat, e = .returned (.int .i64 (c : Int)) ∧ Canc r r c ∧ ∃ q, w' = W.drewN q) := hid (fun W u ow => count r r u u _ _ W ow.ints ow.ints (Nat.le_refl _) (Nat.le_refl _) hrl hrl hrs)
    have hhalf := core_half hrr hnz
    clear hrs hrr hnz
    generalize xs.length = l at *
    subst hv
    go_enter Try.func156, Try.ntmps156
    go_wp2_with fail
    refine HV.out.mono ?_
    rintro e w1 ⟨rfl, b1⟩
    have HB1 := hid b1
    have hz1 := b1.size
    have HA1 := hid (HA.out.chg (Chg.ofBelow (lo := 0) b1) (.inr (Nat.zero_le _)))
    clear b1
    go_wp2_with fail
    refine (HR.out w1 HA1.out (by omega)).mono ?_
    rintro e w2 ⟨v2, rfl, o2, b2⟩
    have HO := hid (o2.lo (lo' := w.heap.size) hz1)
    have HB2 := hid (HB1.out.trans (b2.mono hz1))
    have hvv : (v2 = .slice none 0 0 ∧ r = []) ∨ ∃ g cap, v2 = .slice (some ⟨g, 0, none⟩) r.length cap ∧ r.length ≤ cap ∧ cap ≤ 9223372036854775807 ∧ g < w2.heap.size := by
      rcases o2.1.2 with ⟨h1, h2⟩ | ⟨g, c, cur, h1, h2, h3, h4, h5, _⟩
      · exact .inl ⟨h1, List.length_eq_zero_iff.1 h2⟩
      · exact .inr ⟨g, c, h1, h4, by unfold maxLen at h5; omega, o2.2.1 g (by rw [h1]; rfl)⟩
    clear o2 b2
    go_wp2_with fail
    refine (HCt.out w2 v2 HO.out).mono ?_
    rintro e w3 ⟨c, rfl, hcc, q, rfl⟩
    have hce : c = coreN r := canc_unique hcc (core_canc r)
    clear hcc
    rcases hvv with ⟨rfl, hr0⟩ | ⟨g, cap, rfl, hc1, hc2, hgw⟩
    · subst hr0
      have hc0 : c = 0 := by rw [hce]; rfl
      subst hc0
      have hA : coA [] = [] := rfl
      have hB' : coB [] = [] := rfl
      have hw0 : IntKind.i64.wrap 0 = 0 := by decide
      have HAB : Hid (coA [] = ([] : List Int) ∧ coB [] = ([] : List Int)) := hid ⟨rfl, rfl⟩
      have HBd : Hid (Below w.heap.size w (w2.drewN (q + 1))) := hid (bdrewN HB2.out _)
      clear hA hB' hce hhalf HO hrl
      go_wp2_with fail
      go_region_with (first
        | (go_at_call 136
           have hchk := HOa
           refine (clone [] (.slice none 0 0) 0 Wx (.inl ⟨rfl, _, _, rfl⟩) (fun _ _ h => by cases h; exact ⟨rfl, rfl⟩) (by simp)).mono ?_
           rintro e Wy ⟨vB, rfl, oB, bB⟩
           have HOb := hid oB
           have HOa2 := hid (HOa.out.chg (Chg.ofBelow (lo := 0) bB) (.inr (.inr (Nat.zero_le _))))
           have hzB := bB.size
           have HBy := hid (HBx.out.trans (bB.mono HBx.out.size))
           clear oB bB HOa HBx)
        | (go_at_call 136
           refine (clone [] (.slice none 0 0) 0 _ (.inl ⟨rfl, _, _, rfl⟩) (fun _ _ h => by cases h; exact ⟨rfl, rfl⟩) (by simp)).mono ?_
           rintro e Wx ⟨vA, rfl, oA, bA⟩
           have HOa := hid oA
           have HBx : Hid (Below w.heap.size w Wx) := hid (HBd.out.trans (bA.mono HBd.out.size))
           have hzA := bA.size
           have hzx : w.heap.size ≤ Wx.heap.size := HBx.out.size
           clear oA bA))
      all_goals (try go_wp2)
      all_goals
        refine bodyPost_ret (v := .tuple #[vA, vB, .bool true]) (by simp [results, Try.results156, go_sem]) rfl ⟨vA, vB, Wx.heap.size, rfl, hzx, ?_, ?_, HBy.out⟩
        · rw [HAB.out.1]; exact HOa2.out.lo (by show w.heap.size ≤ w2.heap.size; exact HB2.out.size)
        · rw [HAB.out.2]; exact HOb.out
    · obtain ⟨n, hnn⟩ : ∃ n, n = r.length := ⟨_, rfl⟩
      rw [← hnn] at hc1 hrl hhalf ⊢
      have HN := hid hnn
      have HCe := hid hce
      rw [← hnn] at HO
      rw [← hce] at hhalf
      have hg2 : g < (w2.drewN (q + 1)).heap.size := hgw
      have HBd : Hid (Below w.heap.size w (w2.drewN (q + 1))) := hid (bdrewN HB2.out _)
      clear hnn hce

      have hwq : IntKind.i64.wrap ((n : Int) - (c : Int)) = ((n - c : Nat) : Int) := by rw [IntWalk.i64_in _ (by omega)]; omega
      have hq0 : (0 : Int) ≤ ((n - c : Nat) : Int) := by omega
      have hq1 : ((n - c : Nat) : Int) ≤ (cap : Int) := by omega
      have hq2 : (c : Int) ≤ ((n - c : Nat) : Int) := by omega
      have hq3 : (0 : Int) ≤ (c : Int) := by omega
      have hq4 : (c : Int) ≤ (cap : Int) := by omega
      have hq5 : c ≤ n - c := by omega
      have hq6 : n - c ≤ cap := by omega
      obtain ⟨o2, ho2⟩ : ∃ o2 : Nat, o2 = if cap = c then 0 else 0 + c := ⟨_, rfl⟩
      have hofa : (if cap = c then (some ⟨g, 0, none⟩ : Option Addr) else some ⟨g, c, none⟩) = some ⟨g, o2, none⟩ := by rw [ho2]; split <;> simp
      have hpt := parts (w := (w2.drewN (q + 1))) (B := (w2.drewN (q + 1)).heap.size) (b := g) (off := 0) (n := n) (cap := cap) (r := r) HN.out hg2 (fun j hj => by rw [Nat.zero_add]; exact (HO.out.at' j hj).1) (by rw [← HCe.out, ← HN.out]; omega) cap (cap - c) o2 (by rw [← HCe.out]; exact ho2) (by omega)
      rw [← HCe.out] at hpt
      have HIa := hid hpt.1
      have HIb0 := hid hpt.2
      clear hpt ho2
      have HLa : Hid ((coA r).length ≤ 1000000) := hid (by rw [coA_len, ← HCe.out]; omega)
      have HLb : Hid ((coB r).length ≤ 1000000) := hid (by rw [coB_len, ← HN.out]; omega)
      go_wp2_with fail
      go_region_with (first
        | (go_at_call_of 136 (Value.slice (some ⟨g, o2, none⟩) (n - c - c) (cap - c))
           refine (clone (coB r) _ _ Wx HIb.out (fun _ _ h => by cases h) (by have := HLb.out; omega)).mono ?_
           rintro e Wy ⟨vB, rfl, oB, bB⟩
           have HOb := hid oB
           have HOa2 := hid (HOa.out.chg (Chg.ofBelow (lo := 0) bB) (.inr (.inr (Nat.zero_le _))))
           have hzB := bB.size
           have HBy := hid (HBx.out.trans (bB.mono HBx.out.size))
           clear oB bB HOa HBx)
        | (go_at_call_of 136 (Value.slice (some ⟨g, 0, none⟩) c cap)
           refine (clone (coA r) _ _ _ HIa.out (fun _ _ h => by cases h) (by have := HLa.out; omega)).mono ?_
           rintro e Wx ⟨vA, rfl, oA, bA⟩
           have HOa := hid oA
           have HIb := hid (HIb0.out.chg (Chg.ofBelow (lo := 0) bA) (.inr (Nat.zero_le _)))
           have HBx : Hid (Below w.heap.size w Wx) := hid (HBd.out.trans (bA.mono HBd.out.size))
           have hzA := bA.size
           have hzx : w.heap.size ≤ Wx.heap.size := HBx.out.size
           clear oA bA))
      all_goals (try go_wp2)
      all_goals
        refine bodyPost_ret (v := .tuple #[vA, vB, .bool true]) (by simp [results, Try.results156, go_sem]) rfl ⟨vA, vB, Wx.heap.size, rfl, hzx, ?_, ?_, HBy.out⟩
        · exact HOa2.out.lo (by show w.heap.size ≤ w2.heap.size; exact HB2.out.size)
        · exact HOb.out
end Go.Proofs.Ytkpilmcaeemfmaa.fr
