/-
  The word of a permutation braid: contracts of the model's word and of the program's letters.
-/
import Derived.Test.YtedajefapddekaaH3
import Derived.Test.YtedajefapddekaaRed
namespace Go.Proofs.Ytedajefapddekaa.fn
open Go.RowKit Go.Proofs.Ytedajefapddekaa.sl Go.Proofs.Ytedajefapddekaa.pm

theorem own4 (xs : List Int) (v : Value) (B : Nat) (w : World) (ha : Ints w B v xs) (hnil : NilOk v) (hn : xs.length ≤ 1099511627776) :
    Calls Try.prog 101 #[v] w fun e w' => ∃ v', e = .returned v' ∧ Own w' w.heap.size w'.heap.size v' xs ∧ Below w.heap.size w w' := by
  have ha2 : Ints (w.alloc (.cells #[] 2)) B v xs := ha.chg (Chg.ofBelow (lo := 0) ((Below.refl w.heap.size w).alloc (Nat.le_refl _) _)) (.inr (Nat.zero_le _))
  go_enter Try.func101, Try.ntmps101
  go_wp2_with (at_builtin; refine wp_appendAll rfl _ _ rfl w.heap.size _ _ [] (Own.built w #[] rfl) rfl v xs B ha2 hnil rfl (by simp) (by simp; omega) ?_; intro v' w1 o1 c1)
  go_ret
  refine ⟨v', rfl, by simpa using o1, ?_⟩
  exact ((Below.refl w.heap.size w).alloc (Nat.le_refl _) (.cells #[] 2)).trans (c1.below (B := w.heap.size) (by omega) (by simp))

def upW (ws : List Int) : List Int := ws.map (· + 1)
theorem upW_len (ws : List Int) : (upW ws).length = ws.length := by simp [upW]
theorem upW_snoc (ws : List Int) (k : Int) : upW (ws ++ [k]) = upW ws ++ [k + 1] := by simp [upW]

/-! ### the program's letters -/
theorem redF_small (f : Nat) (p : List Int) : ∀ x ∈ redF f p, 0 ≤ x ∧ x ≤ (p.length : Int) := by
  induction f generalizing p with
  | zero => simp [redF]
  | succ f ih =>
    unfold redF
    cases hf : firstDesc p with
    | none => simp
    | some k =>
      have hk : k < p.length - 1 := by
        have := List.mem_of_find?_eq_some hf
        simpa using this
      intro x hx
      simp only [List.mem_cons] at hx
      rcases hx with rfl | hx
      · omega
      · have := ih (swapAt p k) x hx
        rw [swap_len] at this
        exact this
theorem redP_small (p : List Int) (h : permB p = true) : ∀ j, j < (redP p).length → 0 ≤ (redP p).getD j 0 ∧ (redP p).getD j 0 ≤ 1099511627776 := by
  intro j hj
  have hm : (redP p).getD j 0 ∈ redP p := by
    rw [show (redP p).getD j 0 = (redP p)[j] from by simp [List.getD, List.getElem?_eq_getElem hj]]
    exact List.getElem_mem hj
  have e : redP p = redF (inv p) p := by rw [redP, if_pos h]; rfl
  rw [e] at hm
  have h1 := redF_small (inv p) p _ hm
  have h2 := perm_len h
  rw [e]
  omega

end Go.Proofs.Ytedajefapddekaa.fn
