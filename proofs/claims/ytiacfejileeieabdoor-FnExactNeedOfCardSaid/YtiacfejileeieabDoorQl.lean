/-
  A drawn region whose last operation stands behind all others (a store of what they reckoned): the others in the order of the text, in every world that differs by draws and new blocks; inside a round, too.
-/
import Derived.Lib.QuietBelowIn
import Derived.Sort.BigQuietIn
import Derived.OwnWalkIn
namespace Go.Proofs.YtiacfejileeieabDoor.ql
open Go Go.Sort
variable {F : Fence} {n : Nat} {P : Program} {C : World → Prop}

/-- No operation of the list is deferred, none has a guard. -/
def plainB (l : List Oper) : Bool := l.all fun o => (match o.op with | .defer _ => false | _ => true) && o.guard.isNone
/-- Operation m comes up when all others have, and not before. -/
def lastB (md : Region.Mode) (ops : Array Oper) (m : Nat) : Nat → Array Bool → Bool
  | 0, _ => false
  | 1, L => (Region.ready md ops L == [m]) && (Region.ready md ops (L.setIfInBounds m true)).isEmpty
  | f + 2, L => !(Region.ready md ops L).isEmpty && (Region.ready md ops L).all fun i => i != m && lastB md ops m (f + 1) (L.setIfInBounds i true)

theorem wanted_free {o : Oper} (h : o.guard.isNone = true) (f : Nat → Option Bool) : Region.wanted o f = true := by
  cases hg : o.guard with
  | none => simp [Region.wanted, hg]
  | some g => rw [hg] at h; cases h

theorem plain_wp {o : Oper} {a : Act} {K : Act → Prop} {K' : Act → World → Prop} {Q' : Exit → Act → World → Prop} {w : World} (hd : ∀ c, o.op ≠ .defer c) (hw : C w)
    (h : ∀ a w', C w' → K a → K' a w') (ha : o.askedIn F P a C) (hh : o.quietIn F n P a C K) : o.wpIn F n P a w K' Q' := by
  obtain ⟨v, hv, hk⟩ := hh
  have hu := hv w hw
  refine ⟨ha w hw, ?_⟩
  rw [Oper.semAt_plain F _ _ hd]
  revert hu
  unfold Oper.quietAtIn
  cases (execOp a.eval o).run P w with
  | halt x w' => intro hu; exact hu.elim
  | ok x w' =>
    cases x with
    | value u => rintro ⟨rfl, rfl⟩; exact h _ _ hw hk
    | skip => rintro ⟨rfl, rfl⟩; exact h _ _ hw hk
    | enter f args =>
      rintro ⟨rfl, hr, hc⟩
      refine ⟨hr, hc.mono ?_⟩
      rintro e w2 ⟨rfl, hw2⟩
      exact h _ _ hw2 hk
    | _ => intro hu; exact hu.elim

variable {md : Region.Mode} {l : List Oper} {o : Oper}
theorem get_front {i : Nat} (h : i ≠ l.length) : l.toArray[i]? = (l ++ [o]).toArray[i]? := by
  simp only [List.getElem?_toArray]
  rcases Nat.lt_trichotomy i l.length with h1 | h1 | h1
  · rw [List.getElem?_append_left h1]
  · exact absurd h1 h
  · rw [List.getElem?_eq_none (by omega), List.getElem?_eq_none (by simp; omega)]
theorem ready_front {L : Array Bool} {j : Nat} (hj : j ∈ Region.ready md (l ++ [o]).toArray L) (h : j ≠ l.length) : j ∈ Region.ready md l.toArray L := by
  obtain ⟨h0, o', ho, ha⟩ := mem_ready.1 hj
  exact mem_ready.2 ⟨h0, o', by rw [get_front (o := o) h]; exact ho, ha⟩

theorem any_last {Q : Act → Prop} {Q' : Exit → Act → World → Prop} (hp : plainB l = true) (hQ : ∀ a w, C w → Q a → wpOpIn F n P (l ++ [o]).toArray Q' l.length (fun a w => Q' .normal a w) a w) :
    ∀ (f : Nat) (L : Array Bool) (a : Act) (w : World), C w → lastB md (l ++ [o]).toArray l.length (f + 1) L = true → wpAnyQIn F n P md l.toArray C Q f L a → wpAnyIn F n P md (l ++ [o]).toArray Q' (f + 1) L a w := by
  intro f
  induction f with
  | zero =>
    intro L a w hc hl hq
    simp only [lastB, Bool.and_eq_true, beq_iff_eq, List.isEmpty_iff] at hl
    obtain ⟨h1, h2⟩ := hl
    refine ⟨fun h => absurd (h1.symm.trans h) (by simp), fun i hi => ?_⟩
    rw [h1, List.mem_singleton] at hi
    subst hi
    exact wpOpIn_mono (fun a w h => ⟨h2, h⟩) (hQ a w hc hq.2)
  | succ f ih =>
    intro L a w hc hl hq
    simp only [lastB, Bool.and_eq_true, Bool.not_eq_true', List.all_eq_true, bne_iff_ne] at hl
    obtain ⟨h1, h2⟩ := hl
    refine ⟨fun h => absurd h1 (by simp [h]), fun i hi => ?_⟩
    obtain ⟨hne, hsub⟩ := h2 i hi
    have hqi := hq.2 i (ready_front hi hne)
    obtain ⟨o', ho⟩ : ∃ o', l.toArray[i]? = some o' := by
      obtain ⟨_, o', ho, _⟩ := mem_ready.1 (ready_front (o := o) hi hne)
      exact ⟨o', ho⟩
    have hmem : o' ∈ l := by
      rw [List.getElem?_toArray] at ho
      exact List.mem_of_getElem? ho
    have hpl := List.all_eq_true.1 hp o' hmem
    rw [Bool.and_eq_true] at hpl
    have hd : ∀ c, o'.op ≠ .defer c := fun c e => by rw [e] at hpl; cases hpl.1
    unfold qOpIn at hqi
    simp only [ho] at hqi
    unfold wpOpIn
    rw [← get_front (o := o) hne, ho]
    simp only [wanted_free hpl.2, if_true] at hqi ⊢
    exact plain_wp hd hc (fun a w hw hk => ih _ a w hw hsub hk) hqi.1 hqi.2

/-- The region, its last operation apart. -/
theorem region_last {id : Nat} {Q' : Exit → Act → World → Prop} {a : Act} {w : World} (l : List Oper) (o : Oper) (hm : P.follows .mixedOrders = true) (hp : plainB l = true) (hs : Region.noSelect l.toArray = true)
    (hx : Region.lexFrom .any l.toArray l.length 0 (Array.replicate (l.length + 1) false) = true) (hl : lastB .any (l ++ [o]).toArray l.length (l.length + 1) (Array.replicate (l.length + 1) false) = true)
    (h : wpQuietIn F n P l.toArray (fun w' => ∃ p : Regrown, w' = grow (redrawn w p.d) p.os) (fun a' => ∀ w', (∃ p : Regrown, w' = grow (redrawn w p.d) p.os) → wpOpIn F n P (l ++ [o]).toArray Q' l.length (fun a w => Q' .normal a w) a' w') l a) :
    (Code.region id (l ++ [o]).toArray true).wpIn F n P Q' a w := by
  refine wpIn_region_any hm ?_
  rw [show (l ++ [o]).toArray.size = l.length + 1 by simp]
  refine any_last (Q := fun a' => ∀ w', (∃ p : Regrown, w' = grow (redrawn w p.d) p.os) → wpOpIn F n P (l ++ [o]).toArray Q' l.length (fun a w => Q' .normal a w) a' w') (C := fun w' => ∃ p : Regrown, w' = grow (redrawn w p.d) p.os) hp (fun a w hw hq => hq w hw) _ _ _ _ ⟨⟨w.drawn + 1, #[]⟩, by rw [grow_empty]; rfl⟩ hl ?_
  exact wpAnyQIn_lex hs l 0 _ a (by simp) hx h
end Go.Proofs.YtiacfejileeieabDoor.ql
