/-
  Braids, handles and needles as arguments of laws: the helpers' contracts in one form.
-/
import Derived.Test.YtbbnheiibkcgiabDoorBr
import Derived.Test.YtbbnheiibkcgiabDoorBv
import Derived.Test.YtbbnheiibkcgiabDoorSs2
namespace Go.Proofs.YtbbnheiibkcgiabDoor.l5
open Go.Proofs.YtbbnheiibkcgiabDoor.sl in
/-- A list whose capacity fits, too. -/
structure IntsC (w : World) (B : Nat) (v : Value) (xs : List Int) : Prop where
  ints : Ints w B v xs
  cap : ∀ ao n c, v = .slice ao n c → n ≤ c ∧ c ≤ 9223372036854775807
open Go.Proofs.YtbbnheiibkcgiabDoor.sl in
theorem IntsC.chg {w w' : World} {B lo hi : Nat} {v : Value} {xs : List Int} (h : IntsC w B v xs) (c : Chg lo hi w w') (h1 : B ≤ lo ∨ hi ≤ lo) : IntsC w' B v xs := ⟨h.ints.chg c h1, h.cap⟩
theorem IntsC.mono {w : World} {B B' : Nat} {v : Value} {xs : List Int} (h : IntsC w B v xs) (hB : B ≤ B') : IntsC w B' v xs := ⟨h.ints.mono hB, h.cap⟩
end Go.Proofs.YtbbnheiibkcgiabDoor.l5
namespace Go.Proofs.YtbbnheiibkcgiabDoor.sl
theorem Own.c {w : World} {lo hi : Nat} {v : Value} {xs : List Int} (o : Own w lo hi v xs) : l5.IntsC w hi v xs := by
  refine ⟨o.ints, fun ao n c hv => ?_⟩
  subst hv
  rcases o.1.2 with ⟨h1, h2⟩ | ⟨g, c2, cur, h1, h2, h3, h4, h5, _⟩
  · cases h1; omega
  · cases h1; unfold maxLen at h5; omega
end Go.Proofs.YtbbnheiibkcgiabDoor.sl
namespace Go.Proofs.YtbbnheiibkcgiabDoor.l5
open Go.RowKit Go.Proofs.YtbbnheiibkcgiabDoor.sl Go.Proofs.YtbbnheiibkcgiabDoor.br
set_option linter.unusedVariables false

/-- An argument's list; its numbers fit. -/
structure IntsIn (w : World) (v : Value) (xs : List Int) : Prop where
  rd : Ints w w.heap.size v xs
  len : xs.length ≤ 9223372036854775807
  short : True
  wf : ∀ n ∈ xs, (Lit.int .i64 n).wf = true
theorem ints_open {H : Type} {enc : TypeId × Value → H} {P : Program} {w : World} {base : Nat} {held : Bool} {t e : TypeId} {fuel : Nat} {v : Value} {x : DataW H × List MemPlace}
    (ht : P.underlying t = some (.slice e)) (he : P.underlying e = some (.int .i64)) (ce : P.cellsOf e = 1)
    (h : DataW.trod enc P w base (fun _ => true) held fuel t [v] = some x) : ∃ xs, IntsIn w v xs := by
  rcases Go.ChangeShapes.open_ints ht he ce h with ⟨hcs, _⟩ | ⟨a, l, c, zs, hcs, _, hl, hm, hz, _, hcell, hwz⟩
  · simp only [List.cons.injEq, and_true] at hcs
    subst hcs
    exact ⟨[], .inl ⟨rfl, _, _, rfl⟩, by simp, trivial, by simp⟩
  · simp only [List.cons.injEq, and_true] at hcs
    subst hcs
    simp only [if_true] at hz
    unfold maxLen at hm
    have hlen : (zs.take l).length = l := by simp; omega
    refine ⟨zs.take l, ?_, by rw [hlen]; omega, trivial, fun n hn => hwz n (List.mem_of_mem_take hn)⟩
    by_cases h0 : l = 0
    · subst h0; exact .inl ⟨by simp, _, _, rfl⟩
    · obtain ⟨b, off, spot⟩ := a
      have hc := hcell 0 (by omega)
      have hspot : spot = none := by simpa [Addr.add] using World.cell?_spot hc
      subst hspot
      refine .inr ⟨by omega, b, off, c, by rw [hlen], ?_, fun j hj => ?_⟩
      · have := World.block_lt_of_cell? w _ hc
        simpa [Addr.add] using this
      · rw [hlen] at hj
        have h1 := hcell j (by omega)
        rw [Addr.add_lit] at h1
        rw [h1]
        simp [List.getD, hj]

/-- A list that a law looks at. -/
structure Small (xs : List Int) : Prop where
  len : xs.length ≤ 1048576
theorem szL_pos {n : Nat} {left : Int} (h0 : 0 ≤ left) : szL left n = -1 ∨ 0 ≤ szL left n := by unfold szL; split <;> omega
theorem szL_bound {n : Nat} {left : Int} (h0 : 0 ≤ left) (h : 0 ≤ szL left n) : szL left n ≤ left ∧ (n : Int) ≤ left := by unfold szL at h ⊢; split at h <;> (split <;> omega)
theorem small_of {left : Int} {xs : List Int} (h0 : 0 ≤ left) (h1 : left ≤ 1048576) (h : 0 ≤ szL left xs.length) : Small xs := ⟨by have := szL_bound h0 h; omega⟩
theorem rval {w : World} {lo hi : Nat} {v : Value} {xs : List Int} (h : Own w lo hi v xs) : ∃ ao ln cp, v = .slice ao ln cp := by
  obtain ⟨ao, cp, hv⟩ := own_val h
  exact ⟨ao, _, cp, hv⟩
end Go.Proofs.YtbbnheiibkcgiabDoor.l5
