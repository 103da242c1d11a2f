/-
  Contracts of both tests of a permutation: spec.l02Ok and impl.ValidPermutation answer permB of the list and write nothing that was there.
-/
import Derived.Test.YtedajefapddekaaSl
namespace Go.Proofs.Ytedajefapddekaa.pm
open Go.RowKit Go.Proofs.Ytedajefapddekaa.sl

def inR (n : Nat) (x : Int) : Bool := decide (0 ≤ x ∧ x ≤ (n : Int) - 1)
def permB (xs : List Int) : Bool := decide (xs.length ≤ 12) && xs.all (inR xs.length) && decide xs.Nodup

/-- The first k elements are in range and differ. -/
def Good (xs : List Int) (k : Nat) : Prop := (∀ x ∈ xs.take k, inR xs.length x = true) ∧ (xs.take k).Nodup
/-- j is among the first k elements. -/
def seenB (xs : List Int) (k j : Nat) : Bool := (xs.take k).contains (j : Int)

theorem good_zero (xs : List Int) : Good xs 0 := by simp [Good]
theorem seen_zero (xs : List Int) (j : Nat) : seenB xs 0 j = false := by simp [seenB]
theorem take_one (xs : List Int) (k : Nat) (h : k < xs.length) : xs.take (k + 1) = xs.take k ++ [xs.getD k 0] := by
  rw [List.take_succ_eq_append_getElem h]; simp [List.getD, List.getElem?_eq_getElem h]
theorem seen_step (xs : List Int) (k j m : Nat) (h : k < xs.length) (hm : xs.getD k 0 = (m : Int)) : seenB xs (k + 1) j = (seenB xs k j || decide (j = m)) := by
  unfold seenB
  rw [take_one xs k h, hm]
  simp only [List.contains_eq_mem, List.mem_append, List.mem_singleton, Bool.decide_or]
  congr 1
  simp [Int.ofNat_inj]
theorem good_step (xs : List Int) (k m : Nat) (h : k < xs.length) (g : Good xs k) (hm : xs.getD k 0 = (m : Int)) (hr : m < xs.length) (hs : seenB xs k m = false) : Good xs (k + 1) := by
  obtain ⟨g1, g2⟩ := g
  unfold seenB at hs
  have hs' : (m : Int) ∉ xs.take k := by simpa using hs
  refine ⟨?_, ?_⟩
  · intro x hx
    rw [take_one xs k h, hm] at hx
    rcases List.mem_append.1 hx with hx | hx
    · exact g1 x hx
    · obtain rfl : x = (m : Int) := by simpa using hx
      simp [inR]; omega
  · rw [take_one xs k h, hm, List.nodup_append]
    refine ⟨g2, by simp, ?_⟩
    intro a ha b hb
    obtain rfl : b = (m : Int) := by simpa using hb
    rintro rfl
    exact hs' ha
theorem perm_long (xs : List Int) (h : 12 < xs.length) : permB xs = false := by
  have : ¬ xs.length ≤ 12 := by omega
  simp [permB, this]
theorem perm_range (xs : List Int) (k : Nat) (h : k < xs.length) (hr : ¬ (0 ≤ xs.getD k 0 ∧ xs.getD k 0 ≤ (xs.length : Int) - 1)) : permB xs = false := by
  have : xs.all (inR xs.length) = false := by
    rw [List.all_eq_false]
    refine ⟨xs.getD k 0, ?_, by simpa [inR] using hr⟩
    rw [show xs.getD k 0 = xs[k] from by simp [List.getD, List.getElem?_eq_getElem h]]
    exact List.getElem_mem h
  simp [permB, this]
theorem perm_twice (xs : List Int) (k m : Nat) (h : k < xs.length) (hm : xs.getD k 0 = (m : Int)) (hs : seenB xs k m = true) : permB xs = false := by
  have : ¬ xs.Nodup := by
    intro hn
    have h1 := hn.sublist (List.take_sublist (k + 1) xs)
    rw [take_one xs k h, hm, List.nodup_append] at h1
    have h2 : (m : Int) ∈ xs.take k := by simpa [seenB] using hs
    exact h1.2.2 _ h2 _ (by simp) rfl
  simp [permB, this]
theorem perm_good (xs : List Int) (h : xs.length ≤ 12) (g : Good xs xs.length) : permB xs = true := by
  obtain ⟨g1, g2⟩ := g
  rw [List.take_length] at g1 g2
  have : xs.all (inR xs.length) = true := List.all_eq_true.2 g1
  simp [permB, this, h, g2]

/-- A row of bools in a block of the call's own. -/
def Bools (w : World) (b n : Nat) (f : Nat → Bool) : Prop := b < w.heap.size ∧ ∀ j, j < n → w.cell? ⟨b, j, none⟩ = some (.bool (f j)) ∧ w.frozen? ⟨b, j, none⟩ = false
theorem Bools.set {w : World} {b n m : Nat} {f g : Nat → Bool} (h : Bools w b n f) (hm : m < n) (hg : ∀ j, g j = (f j || decide (j = m))) : Bools (w.setCell ⟨b, m, none⟩ (.bool true)) b n g := by
  refine ⟨by simpa using h.1, fun j hj => ⟨?_, (World.frozen?_setCell _ _ _ _).trans (h.2 j hj).2⟩⟩
  rw [hg j]
  by_cases hjm : j = m
  · subst hjm
    rw [World.cell?_setCell_same _ _ _ (h.2 j hj).1]; simp
  · rw [World.cell?_setCell_other _ _ _ _ (by simp), (h.2 j hj).1]; simp [hjm]
theorem Bools.drew {w : World} {b n : Nat} {f : Nat → Bool} (h : Bools w b n f) (k : Nat) : Bools (w.drewN k) b n f := h

theorem infoB : (Try.prog.info? 4).map (fun i => (i.zero, i.size, i.bytes)) = some (some (.bool false), 1, 1) := by kernel_rfl

theorem specIn (c lo hi : Int) (w : World) : Calls Try.prog 53 #[.int .i64 c, .int .i64 lo, .int .i64 hi] w fun e w' => e = .returned (.bool (decide (lo ≤ c ∧ c ≤ hi))) ∧ w = w' := by
  by_cases h1 : lo ≤ c <;> by_cases h2 : c ≤ hi <;>
    (go_enter Try.func53, Try.ntmps53
     go_wp2
     go_ret
     exact ⟨by simp [h1, h2], rfl⟩)

theorem within64 (c lo hi : Int) (w : World) : Calls Try.prog 60 #[.int .i64 c, .int .i64 lo, .int .i64 hi] w fun e w' => e = .returned (.bool (decide (lo ≤ c ∧ c ≤ hi))) ∧ w = w' := by
  by_cases h1 : lo ≤ c <;> by_cases h2 : c ≤ hi <;>
    (go_enter Try.func60, Try.ntmps60
     go_wp2
     go_ret
     exact ⟨by simp [h1, h2], rfl⟩)

theorem bools_made {w w1 : World} {g n : Nat} (h : w1.ownsRow w.heap.size 4 1 (.slice (some ⟨g, 0, none⟩) n n) n (madeCells (Value.bool false).cells (n * 1)).toList) (xs : List Int) : Bools w1 g n (seenB xs 0) := by
  refine ⟨(h.lt g rfl).2, fun j hj => ⟨?_, h.frozenAt j⟩⟩
  rw [h.cellAt j (by omega), seen_zero]
  simp [madeCells, Value.cells, hj, Nat.mod_one]

end Go.Proofs.Ytedajefapddekaa.pm
