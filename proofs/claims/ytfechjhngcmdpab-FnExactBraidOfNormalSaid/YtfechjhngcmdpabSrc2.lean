/-
  Drawn permutations: contracts of l02Size, l02Draw and A2Permutations.
-/
import Derived.Test.YtfechjhngcmdpabSrc1
import Derived.Test.YtfechjhngcmdpabRvs
import Derived.Test.YtfechjhngcmdpabH5
namespace Go.Proofs.Ytfechjhngcmdpab.sr
open Go.RowKit Go.Proofs.Ytfechjhngcmdpab.sl Go.Proofs.Ytfechjhngcmdpab.pm Go.Proofs.Ytfechjhngcmdpab.fn

theorem chg_far {g lo hi : Nat} {a b c : World} (h : Chg g (g + 1) a b) (k : Chg lo hi b c) (hlo : a.heap.size ≤ lo) : Chg g (g + 1) a c :=
  ⟨k.os.trans h.os, k.tape.trans h.tape, k.output.trans h.output, Nat.le_trans h.size k.size, fun j hj hj' => (k.block j (Nat.lt_of_lt_of_le hj h.size) (by omega)).trans (h.block j hj hj')⟩
theorem Src.chg {w w' : World} {g n m lo hi : Nat} {v : Value} (h : Src w g v n m) (c : Chg lo hi w w') (hg : g < lo) : Src w' g v n m := by
  obtain ⟨hg0, hby, h0, ⟨k, hk, h1⟩, ⟨s, hs, h2⟩, f1, f2⟩ := h
  have hb := c.block g hg0 (by omega)
  have hc : ∀ o, w'.cell? ⟨g, o, none⟩ = w.cell? ⟨g, o, none⟩ := fun o => World.cell?_of_block (w := w) (w' := w') (a := ⟨g, o, none⟩) hb
  have hf : ∀ o, w'.frozen? ⟨g, o, none⟩ = w.frozen? ⟨g, o, none⟩ := fun o => by unfold World.frozen?; simp only [hb]
  exact ⟨Nat.lt_of_lt_of_le hg0 c.size, hby.chg c (.inl (by omega)), (hc 0).trans h0, ⟨k, hk, (hc 1).trans h1⟩, ⟨s, hs, (hc 2).trans h2⟩, (hf 1).trans f1, (hf 2).trans f2⟩

/-! ### permutations in plain words -/
theorem permB_mk (xs : List Int) (h1 : xs.length ≤ 12) (h2 : Places xs.length xs) (h3 : ∀ i j, i < xs.length → j < xs.length → xs.getD i 0 = xs.getD j 0 → i = j) : permB xs = true := by
  simp only [permB, Bool.and_eq_true, decide_eq_true_eq, List.all_eq_true]
  refine ⟨⟨h1, fun x hx => ?_⟩, ?_⟩
  · obtain ⟨j, hj, he⟩ := mem_at hx
    obtain ⟨m, hm, hml⟩ := h2 j hj
    simp only [inR, decide_eq_true_eq]
    omega
  · rw [List.Nodup, List.pairwise_iff_getElem]
    intro i j hi hj hij he
    have := h3 i j hi hj (by simpa [List.getD, List.getElem?_eq_getElem hi, List.getElem?_eq_getElem hj] using he)
    omega
def exch (xs : List Int) (i k : Nat) : List Int := (xs.set i (xs.getD k 0)).set k (xs.getD i 0)
theorem exch_len (xs : List Int) (i k : Nat) : (exch xs i k).length = xs.length := by simp [exch]
theorem exch_at (xs : List Int) (i k t : Nat) (ht : t < xs.length) : (exch xs i k).getD t 0 = xs.getD (if t = k then i else if t = i then k else t) 0 := by
  rw [exch, getD_put _ _ _ _ (by simpa using ht), getD_put _ _ _ _ ht]
  by_cases h1 : t = k
  · rw [if_pos h1, if_pos h1]
  · rw [if_neg h1, if_neg h1]
    by_cases h2 : t = i
    · rw [if_pos h2, if_pos h2]
    · rw [if_neg h2, if_neg h2]
theorem exch_perm (xs : List Int) (i k : Nat) (hi : i < xs.length) (hk : k < xs.length) (h : permB xs = true) : permB (exch xs i k) = true := by
  have hs : ∀ t, t < xs.length → (if t = k then i else if t = i then k else t) < xs.length := fun t ht => by split <;> (try split) <;> omega
  refine permB_mk _ (by rw [exch_len]; exact perm_len h) ?_ ?_
  · rw [exch_len]
    intro t ht
    rw [exch_len] at ht
    rw [exch_at xs i k t ht]
    exact perm_places h _ (hs t ht)
  · intro a b ha hb he
    rw [exch_len] at ha hb
    rw [exch_at xs i k a ha, exch_at xs i k b hb] at he
    have := nodup_at (perm_nodup h) _ _ (hs a ha) (hs b hb) he
    revert this
    split <;> split <;> (try split) <;> (try split) <;> omega
theorem ids_perm (n : Nat) (h : n ≤ 12) : permB (ids n) = true := by
  have hat : ∀ j, j < n → (ids n).getD j 0 = (j : Int) := fun j hj => by simp [ids, List.getD, hj]
  refine permB_mk _ (by rw [ids_len]; exact h) ?_ ?_
  · rw [ids_len]
    intro j hj
    rw [ids_len] at hj
    exact ⟨j, hat j hj, hj⟩
  · intro i j hi hj he
    rw [ids_len] at hi hj
    rw [hat i hi, hat j hj] at he
    omega

end Go.Proofs.Ytfechjhngcmdpab.sr
