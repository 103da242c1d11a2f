/-
  Contracts of slices.Clone and of ReducedWord, of the program and of its model.
-/
import Derived.Test.YtedajefapddekaaWd
import Derived.WalkSpells
namespace Go.Proofs.Ytedajefapddekaa.fn
open Go.RowKit Go.Proofs.Ytedajefapddekaa.sl Go.Proofs.Ytedajefapddekaa.pm

theorem clone (p : List Int) (v : Value) (B : Nat) (w : World) (ha : Ints w B v p) (hnil : NilOk v) (hn : p.length ≤ 1048576) :
    Calls Try.prog 106 #[v] w fun e w' => ∃ v', e = .returned v' ∧ Own w' w.heap.size w'.heap.size v' p ∧ Below w.heap.size w w' := by
  have HA2 : Hid (Ints (w.alloc (.cells #[] 2)) B v p) := hid (ha.chg (Chg.ofBelow (lo := 0) ((Below.refl w.heap.size w).alloc (Nat.le_refl _) _)) (.inr (Nat.zero_le _)))
  have HE := hid (built1 w)
  obtain ⟨ao, cap, hv⟩ := ints_slice ha
  have HP := hid ha
  clear ha
  obtain ⟨n, hnn⟩ : ∃ n, n = p.length := ⟨_, rfl⟩
  rw [← hnn] at hv hn
  subst hv
  have HN := hid hnn
  clear hnn
  have hq := Lib.run_eql_slice_nil (P := Try.prog) w 30 2 ao n cap 0 0 Try.underlying30
  cases ao with
  | none =>
    obtain ⟨rfl, rfl⟩ := hnil _ _ rfl
    have hp : p = [] := List.length_eq_zero_iff.1 HN.out.symm
    go_enter Try.func106, Try.ntmps106
    go_wp2
    go_ret
    exact ⟨_, rfl, by rw [hp]; exact Own.nil _ _, Below.refl _ _⟩
  | some ad =>
    go_enter Try.func106, Try.ntmps106
    go_wp2_with (at_builtin; refine wp_appendAll rfl _ _ rfl w.heap.size (w.heap.size + 1) (.slice (some ⟨w.heap.size, 0, none⟩) 0 0) [] HE.out rfl (.slice (some ad) n cap) p B HA2.out hnil rfl (by simp) (by simp; rw [← HN.out]; omega) ?_; intro v1 w1 hown1 hchg1)
    rw [List.nil_append] at hown1
    have HO1 := hid hown1
    have HB1 : Hid (Below w.heap.size w w1) := hid (((Below.refl w.heap.size w).alloc (Nat.le_refl _) _).trans (hchg1.below (Nat.le_refl _) (by simp)))
    clear hown1 hchg1
    go_wp2
    go_ret
    exact ⟨_, rfl, HO1.out, HB1.out⟩

def redP (p : List Int) : List Int := if permB p = true then redW p else []
theorem redP_len (p : List Int) : (redP p).length ≤ 144 := by
  unfold redP
  split
  · rename_i h
    have h1 := perm_len h
    have h2 := inv_le p
    have h3 := red_len (inv p) p
    have h4 : p.length * p.length ≤ 12 * 12 := Nat.mul_le_mul h1 h1
    unfold redW
    omega
  · simp

theorem descL_nil (p : List Int) : descL p = [] ↔ NoDesc p (p.length - 1) := by
  rw [descL, desc_filter, List.map_eq_nil_iff, List.filter_eq_nil_iff]
  constructor
  · intro h j hj
    have := h j (by simpa using hj)
    simpa [isDesc] using this
  · intro h j hj
    have := h j (by simpa using hj)
    simpa [isDesc] using this
theorem descL_cons (p : List Int) (x : Int) (r : List Int) (h : descL p = x :: r) : ∃ k : Nat, x = (k : Int) ∧ k + 1 < p.length ∧ NoDesc p k ∧ p.getD (k + 1) 0 < p.getD k 0 := by
  have h1 := desc_first p
  rw [h] at h1
  cases hf : firstDesc p with
  | none => rw [hf] at h1; simp at h1
  | some k =>
    rw [hf] at h1
    simp only [List.head?_cons, Option.map_some, Option.some.injEq] at h1
    unfold firstDesc at hf
    have h2 := List.find?_some hf
    have h3 := List.mem_of_find?_eq_some hf
    simp only [List.mem_range] at h3
    refine ⟨k, h1, by omega, ?_, of_decide_eq_true h2⟩
    intro j hj
    have e : p.length - 1 = j + (p.length - 1 - j - 1) + 1 := by omega
    intro hd
    have hb : isDesc p j = true := decide_eq_true hd
    rw [List.find?_range_eq_some] at hf
    have := hf.2.2 j hj
    simp [hb] at this

end Go.Proofs.Ytedajefapddekaa.fn
