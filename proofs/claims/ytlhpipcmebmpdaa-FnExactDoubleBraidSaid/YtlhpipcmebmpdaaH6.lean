/-
  The word of a permutation braid: contracts of the model's word and of the program's letters.
-/
import Derived.Test.YtlhpipcmebmpdaaH3
import Derived.Test.YtlhpipcmebmpdaaRed
namespace Go.Proofs.Ytlhpipcmebmpdaa.fn
open Go.RowKit Go.Proofs.Ytlhpipcmebmpdaa.sl Go.Proofs.Ytlhpipcmebmpdaa.pm

theorem own4 (xs : List Int) (v : Value) (B : Nat) (w : World) (ha : Ints w B v xs) (hnil : NilOk v) (hn : xs.length ≤ 1099511627776) :
    Calls Try.prog 77 #[v] w fun e w' => ∃ v', e = .returned v' ∧ Own w' w.heap.size w'.heap.size v' xs ∧ Below w.heap.size w w' := by
  have ha2 : Ints (w.alloc (.cells #[] 2)) B v xs := ha.chg (Chg.ofBelow (lo := 0) ((Below.refl w.heap.size w).alloc (Nat.le_refl _) _)) (.inr (Nat.zero_le _))
  go_enter Try.func77, Try.ntmps77
  go_wp2_with (at_builtin; refine wp_appendAll rfl _ _ rfl w.heap.size _ _ [] (Own.built w #[] rfl) rfl v xs B ha2 hnil rfl (by simp) (by simp; omega) ?_; intro v' w1 o1 c1)
  go_ret
  refine ⟨v', rfl, by simpa using o1, ?_⟩
  exact ((Below.refl w.heap.size w).alloc (Nat.le_refl _) (.cells #[] 2)).trans (c1.below (B := w.heap.size) (by omega) (by simp))

theorem specBefore (p : List Int) (k : Nat) (v : Value) (B : Nat) (w : World) (ha : Ints w B v p) (hB : B ≤ w.heap.size) (hnil : NilOk v) (hn : p.length ≤ 1099511627776) (hk : k + 1 < p.length) :
    Calls Try.prog 129 #[.int .i64 ((k : Int) + 1), v] w fun e w' => ∃ v', e = .returned v' ∧ Own w' w.heap.size w'.heap.size v' (swapAt p k) ∧ Below w.heap.size w w' := by
  have HA := hid ha
  have HNL := hid hnil
  rcases ha with ⟨rfl, ao, cap, rfl⟩ | ⟨hp, b, off, cap, rfl, hb', hc⟩
  · simp at hk
  · have HC : Hid (∀ j, j < p.length → w.cell? ⟨b, off + j, none⟩ = some (.int .i64 (p.getD j 0))) := hid hc
    clear hc hnil
    go_enter Try.func129, Try.ntmps129
    go_wp2_with fail
    refine (own4 p _ _ w HA.out HNL.out hn).mono ?_
    rintro e w1 ⟨v1, rfl, o1, b1⟩
    obtain ⟨g, c1, rfl, hg1, hg2⟩ := own_slice o1 hp
    have HO := hid o1
    have HB := hid b1
    have hz := b1.size
    clear o1 b1 HA HNL
    obtain ⟨n, hnn⟩ : ∃ n, n = p.length := ⟨_, rfl⟩
    have HN := hid hnn
    have e1 : w1.cell? ⟨b, off + (k + 1), none⟩ = some (.int .i64 (p.getD (k + 1) 0)) := (HB.out.cell (p := ⟨b, off + (k + 1), none⟩) (by show b < _; omega)).trans (HC.out (k + 1) hk)
    have e0 : w1.cell? ⟨b, off + k, none⟩ = some (.int .i64 (p.getD k 0)) := (HB.out.cell (p := ⟨b, off + k, none⟩) (by show b < _; omega)).trans (HC.out k (by omega))
    have q0 := (HO.out.at' k (by omega)).1
    have q1 := (HO.out.at' (k + 1) (by omega)).1
    have f0 := (HO.out.at' k (by omega)).2
    have f1 := (HO.out.at' (k + 1) (by omega)).2
    have SW := hid (swapWorld HO.out k)
    have hbg : b ≠ g := by omega
    rw [← hnn] at hk hn ⊢
    generalize p.getD k 0 = x at *
    generalize p.getD (k + 1) 0 = y at *
    clear hnn
    go_wp2
    go_ret
    exact ⟨_, rfl, by have h := SW.out.1; rw [← HN.out] at h; exact h.hi (by simp) (by simp), (HB.out.setCell (by simpa using hg1) _).setCell (by simpa using hg1) _⟩

def upW (ws : List Int) : List Int := ws.map (· + 1)
theorem upW_len (ws : List Int) : (upW ws).length = ws.length := by simp [upW]
theorem upW_snoc (ws : List Int) (k : Int) : upW (ws ++ [k]) = upW ws ++ [k + 1] := by simp [upW]

/-! ### the program's letters -/
theorem redF_small (f : Nat) (p : List Int) : ∀ x ∈ redF f p, 0 ≤ x ∧ x ≤ (p.length : Int) := by
  induction f generalizing p with
  | zero => simp [redF]
  | succ f ih =>
    unfold redF
    cases hf : firstDesc p with
    | none => simp
    | some k =>
      have hk : k < p.length - 1 := by
        have := List.mem_of_find?_eq_some hf
        simpa using this
      intro x hx
      simp only [List.mem_cons] at hx
      rcases hx with rfl | hx
      · omega
      · have := ih (swapAt p k) x hx
        rw [swap_len] at this
        exact this
theorem redP_small (p : List Int) (h : permB p = true) : ∀ j, j < (redP p).length → 0 ≤ (redP p).getD j 0 ∧ (redP p).getD j 0 ≤ 1099511627776 := by
  intro j hj
  have hm : (redP p).getD j 0 ∈ redP p := by
    rw [show (redP p).getD j 0 = (redP p)[j] from by simp [List.getD, List.getElem?_eq_getElem hj]]
    exact List.getElem_mem hj
  have e : redP p = redF (inv p) p := by rw [redP, if_pos h]; rfl
  rw [e] at hm
  have h1 := redF_small (inv p) p _ hm
  have h2 := perm_len h
  rw [e]
  omega

end Go.Proofs.Ytlhpipcmebmpdaa.fn
