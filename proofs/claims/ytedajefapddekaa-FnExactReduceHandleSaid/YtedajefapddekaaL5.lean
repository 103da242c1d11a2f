/-
  Braids, handles and needles as arguments of laws: the helpers' contracts in one form.
-/
import Derived.Test.YtedajefapddekaaBr
import Derived.Test.YtedajefapddekaaBv
import Derived.Test.YtedajefapddekaaSs2
namespace Go.Proofs.Ytedajefapddekaa.l5
open Go.Proofs.Ytedajefapddekaa.sl in
/-- A list whose capacity fits, too. -/
structure IntsC (w : World) (B : Nat) (v : Value) (xs : List Int) : Prop where
  ints : Ints w B v xs
  cap : ∀ ao n c, v = .slice ao n c → n ≤ c ∧ c ≤ 9223372036854775807
open Go.Proofs.Ytedajefapddekaa.sl in
theorem IntsC.chg {w w' : World} {B lo hi : Nat} {v : Value} {xs : List Int} (h : IntsC w B v xs) (c : Chg lo hi w w') (h1 : B ≤ lo ∨ hi ≤ lo) : IntsC w' B v xs := ⟨h.ints.chg c h1, h.cap⟩
theorem IntsC.mono {w : World} {B B' : Nat} {v : Value} {xs : List Int} (h : IntsC w B v xs) (hB : B ≤ B') : IntsC w B' v xs := ⟨h.ints.mono hB, h.cap⟩
end Go.Proofs.Ytedajefapddekaa.l5
namespace Go.Proofs.Ytedajefapddekaa.sl
theorem Own.c {w : World} {lo hi : Nat} {v : Value} {xs : List Int} (o : Own w lo hi v xs) : l5.IntsC w hi v xs := by
  refine ⟨o.ints, fun ao n c hv => ?_⟩
  subst hv
  rcases o.1.2 with ⟨h1, h2⟩ | ⟨g, c2, cur, h1, h2, h3, h4, h5, _⟩
  · cases h1; omega
  · cases h1; unfold maxLen at h5; omega
end Go.Proofs.Ytedajefapddekaa.sl
namespace Go.Proofs.Ytedajefapddekaa.l5
open Go.RowKit Go.Proofs.Ytedajefapddekaa.sl Go.Proofs.Ytedajefapddekaa.br
set_option linter.unusedVariables false

/-- An argument's list; its numbers fit. -/
structure IntsIn (w : World) (v : Value) (xs : List Int) : Prop where
  rd : Ints w w.heap.size v xs
  len : xs.length ≤ 9223372036854775807
  short : True
  wf : ∀ n ∈ xs, (Lit.int .i64 n).wf = true
theorem ints_open {H : Type} {enc : TypeId × Value → H} {P : Program} {w : World} {base : Nat} {held : Bool} {t e : TypeId} {fuel : Nat} {v : Value} {x : DataW H × List MemPlace}
    (ht : P.underlying t = some (.slice e)) (he : P.underlying e = some (.int .i64)) (ce : P.cellsOf e = 1)
    (h : DataW.trod enc P w base (fun _ => true) held fuel t [v] = some x) : ∃ xs, IntsIn w v xs := by
  rcases Go.ChangeShapes.open_ints ht he ce h with ⟨hcs, _⟩ | ⟨a, l, c, zs, hcs, _, hl, hm, hz, _, hcell, hwz⟩
  · simp only [List.cons.injEq, and_true] at hcs
    subst hcs
    exact ⟨[], .inl ⟨rfl, _, _, rfl⟩, by simp, trivial, by simp⟩
  · simp only [List.cons.injEq, and_true] at hcs
    subst hcs
    simp only [if_true] at hz
    unfold maxLen at hm
    have hlen : (zs.take l).length = l := by simp; omega
    refine ⟨zs.take l, ?_, by rw [hlen]; omega, trivial, fun n hn => hwz n (List.mem_of_mem_take hn)⟩
    by_cases h0 : l = 0
    · subst h0; exact .inl ⟨by simp, _, _, rfl⟩
    · obtain ⟨b, off, spot⟩ := a
      have hc := hcell 0 (by omega)
      have hspot : spot = none := by simpa [Addr.add] using World.cell?_spot hc
      subst hspot
      refine .inr ⟨by omega, b, off, c, by rw [hlen], ?_, fun j hj => ?_⟩
      · have := World.block_lt_of_cell? w _ hc
        simpa [Addr.add] using this
      · rw [hlen] at hj
        have h1 := hcell j (by omega)
        rw [Addr.add_lit] at h1
        rw [h1]
        simp [List.getD, hj]

/-- A list that a law looks at. -/
structure Small (xs : List Int) : Prop where
  len : xs.length ≤ 1048576
theorem szL_pos {n : Nat} {left : Int} (h0 : 0 ≤ left) : szL left n = -1 ∨ 0 ≤ szL left n := by unfold szL; split <;> omega
theorem szL_bound {n : Nat} {left : Int} (h0 : 0 ≤ left) (h : 0 ≤ szL left n) : szL left n ≤ left ∧ (n : Int) ≤ left := by unfold szL at h ⊢; split at h <;> (split <;> omega)
theorem small_of {left : Int} {xs : List Int} (h0 : 0 ≤ left) (h1 : left ≤ 1048576) (h : 0 ≤ szL left xs.length) : Small xs := ⟨by have := szL_bound h0 h; omega⟩
theorem rval {w : World} {lo hi : Nat} {v : Value} {xs : List Int} (h : Own w lo hi v xs) : ∃ ao ln cp, v = .slice ao ln cp := by
  obtain ⟨ao, cp, hv⟩ := own_val h
  exact ⟨ao, _, cp, hv⟩
theorem szRb (s : Int) (xs : List Int) (f : Value) (B : Nat) (left : Int) (w : World) (ha : Ints w B f xs) (hn : xs.length ≤ 9223372036854775807) (hs : True) (h0 : 0 ≤ left) (h1 : left ≤ 1048576) :
    Calls Try.prog 27 #[.agg #[.int .i64 s, f], .int .i64 left] w fun e w' => e = .returned (.int .i64 (szL left xs.length)) ∧ Below w.heap.size w w' := by
  obtain ⟨ao, cap, rfl⟩ := ints_val ha
  exact szB s ao xs.length cap left w hn h0 h1
theorem toR (s : Int) (xs : List Int) (f : Value) (B : Nat) (w : World) (ha : Ints w B f xs) (hB : B ≤ w.heap.size) (hq : Small xs) :
    Calls Try.prog 29 #[.agg #[.int .i64 s, f]] w fun e w' => ∃ f', e = .returned (.agg #[.int .i64 s, f']) ∧ Own w' w.heap.size w'.heap.size f' xs ∧ Below w.heap.size w w' :=
  (toB s xs f B w ha hB (by have := hq.len; omega)).mono fun _ _ ⟨ao, cap, h1, h2, h3⟩ => ⟨.slice ao xs.length cap, h1, h2, h3⟩
theorem eqRS (s : Int) (xs : List Int) (f g : Value) (B C : Nat) (w : World) (ha : IntsC w B f xs) (hb : IntsC w C g xs) (hq : Small xs) :
    Calls Try.prog 32 #[.agg #[.int .i64 s, f], .agg #[.int .i64 s, g]] w fun e w' => e = .returned (.bool true) ∧ Below w.heap.size w w' :=
  eqBS s xs f g B C w ha.ints hb.ints (by have := hq.len; omega)
theorem toH (a c : Int) (w : World) :
    Calls Try.prog 41 #[.agg #[.int .i64 a, .int .i64 c]] w fun e w' => e = .returned (.agg #[.int .i64 a, .int .i64 c]) ∧ Below w.heap.size w w' := by
  go_enter Try.func41, Try.ntmps41
  go_wp2
  refine bodyPost_ret (v := .agg #[.int .i64 a, .int .i64 c]) (by simp [results, Try.results41, go_sem]) rfl ⟨rfl, ?_⟩
  repeat (first | exact Below.refl _ _ | refine Below.setCell ?_ (by simp) _ | refine Below.alloc ?_ (by simp; try omega) _)
end Go.Proofs.Ytedajefapddekaa.l5
