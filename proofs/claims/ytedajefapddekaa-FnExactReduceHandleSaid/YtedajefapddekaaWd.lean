/-
  Copies of slices, exchanges of neighbours, and contracts of ReducedWord, of the program and of its model.
-/
import Derived.Test.YtedajefapddekaaDesc
import Derived.Laws.AppendOwnNone
import Derived.RegionTactic
import Derived.ChangeAlike
namespace Go.Proofs.Ytedajefapddekaa.fn
open Go.RowKit Go.Proofs.Ytedajefapddekaa.sl Go.Proofs.Ytedajefapddekaa.pm

def NilOk (v : Value) : Prop := ∀ n cap, v = .slice none n cap → n = 0 ∧ cap = 0
theorem nilok_own {w : World} {lo hi : Nat} {v : Value} {xs : List Int} (o : Own w lo hi v xs) : NilOk v := by
  intro n cap hv
  rcases o.1.2 with ⟨h, _⟩ | ⟨g, c, cur, h, _⟩
  · rw [h] at hv; cases hv; exact ⟨rfl, rfl⟩
  · rw [h] at hv; cases hv

/-- append(out, src...), out the call's own: it may grow. -/
theorem wp_appendAll {ops : Array Oper} {rest : List Oper} {o : Oper} {a : Act} {Q : Exit → Act → World → Prop} {w : World} (hgd : o.guard = none) (s x : Operand)
    (hop : o.op = .call { callee := .builtin .append, args := #[s, x], argTypes := #[30, 30] })
    (lo hi : Nat) (v : Value) (xs : List Int) (ho : Own w lo hi v xs) (hs : a.eval s = v) (u : Value) (ys : List Int) (C : Nat) (hu : Ints w C u ys) (hnil : NilOk u) (hx : a.eval x = u) (hlo : lo ≤ w.heap.size) (hn : xs.length + ys.length ≤ 1099511627776)
    (hK : ∀ v' w', Own w' lo w'.heap.size v' (xs ++ ys) → Chg lo hi w w' → wpList Try.prog ops Q rest (a.put o.dst v') w') : wpList Try.prog ops Q (o :: rest) a w := by
  obtain ⟨i0, hi', hz0, hz1, hz2⟩ := info_parts info64
  have main : ∀ (ad : Addr) (cap : Nat), u = .slice (some ad) ys.length cap → (∀ j, j < ys.length → w.cell? (ad.add j) = some (.int .i64 (ys.getD j 0))) → wpList Try.prog ops Q (o :: rest) a w := by
    intro ad cap hu' hc
    refine wpList_append_own _ hgd s x 30 hop lo 2 i0 (.int .i64 0) 1 8 Try.underlying30 hi' hz0 hz1 hz2 rfl (by decide) v xs.length (xs.map (Value.int .i64)) hs ho.1 ad ys.length cap (ys.map (Value.int .i64)) (hx.trans hu') (by simp) ?_ (ints_oneCell _ _) ?_ ?_ hlo ?_
    · intro j q hj
      have hj' : j < ys.length := by
        have := (List.getElem?_eq_some_iff.1 hj).1
        simpa using this
      rw [hc j hj']
      simp only [List.getElem?_map, List.getElem?_eq_getElem hj', Option.map_some, Option.some.injEq] at hj
      rw [← hj]
      simp [List.getD, List.getElem?_eq_getElem hj']
    · unfold maxLen; omega
    · omega
    · intro v' w' h1 h2 _
      refine hK v' w' (Own.mk' (by rw [List.length_append, List.map_append]; exact h1)) ⟨h2.os, h2.tape, h2.output, h2.size, fun k hk hk' => ?_⟩
      exact h2.block k hk (by intro e; have h3 := ho.2.1 k e.symm; have h4 := (ho.1.lt k e.symm).1; exact hk' ⟨h4, h3⟩)
  rcases hu with ⟨rfl, ao, cap, rfl⟩ | ⟨hp, b, off, cap, hv, hb, hc⟩
  · cases ao with
    | none =>
      obtain ⟨_, rfl⟩ := hnil _ _ rfl
      refine wpList_append_own_none hgd s x 30 hop lo 2 i0 1 Try.underlying30 hi' v xs.length (xs.map (Value.int .i64)) hs ho.1 hx ?_
      exact hK v w (by rw [List.append_nil]; exact ho.hi ho.2.2 (Nat.le_refl _)) (Chg.refl _ _ _)
    | some ad => exact main ad cap rfl (fun j hj => by simp at hj)
  · exact main ⟨b, off, none⟩ cap hv (fun j hj => by rw [Addr.add_lit]; exact hc j hj)

/-- wp_append where the heap's size is spelt otherwise. -/
theorem wp_append' {ops : Array Oper} {rest : List Oper} {o : Oper} {a : Act} {Q : Exit → Act → World → Prop} {w : World} (hgd : o.guard = none) (s x : Operand)
    (hop : o.op = .call { callee := .builtin .append, args := #[s, x], argTypes := #[30, 30] })
    (lo hi : Nat) (v : Value) (xs : List Int) (x0 : Int) (ho : Own w lo hi v xs) (hs : a.eval s = v) (b0 : Nat) (hb0 : b0 = w.heap.size) (hx : a.eval x = .slice (some ⟨b0, 0, none⟩) 1 1) (hlo : lo ≤ w.heap.size) (hn : xs.length ≤ 1099511627776)
    (hK : ∀ v' w', Own w' lo w'.heap.size v' (xs ++ [x0]) → Chg lo hi w w' → w.heap.size < w'.heap.size → wpList Try.prog ops Q rest (a.put o.dst v') w') : wpList Try.prog ops Q (o :: rest) a (w.alloc (.cells #[.int .i64 x0] 2)) := by
  subst hb0
  exact wp_append hgd s x hop lo hi v xs x0 ho hs hx hlo hn hK

/-! ### exchange of neighbours -/
def swapAt (p : List Int) (k : Nat) : List Int := (p.set k (p.getD (k + 1) 0)).set (k + 1) (p.getD k 0)
theorem swap_len (p : List Int) (k : Nat) : (swapAt p k).length = p.length := by simp [swapAt]

theorem swapWorld {w : World} {lo hi g n cap : Nat} {xs : List Int} (o : Own w lo hi (.slice (some ⟨g, 0, none⟩) n cap) xs) (k : Nat) :
    Own ((w.setCell ⟨g, k, none⟩ (.int .i64 (xs.getD (k + 1) 0))).setCell ⟨g, k + 1, none⟩ (.int .i64 (xs.getD k 0))) lo hi (.slice (some ⟨g, 0, none⟩) n cap) (swapAt xs k) ∧
    Chg lo hi w ((w.setCell ⟨g, k, none⟩ (.int .i64 (xs.getD (k + 1) 0))).setCell ⟨g, k + 1, none⟩ (.int .i64 (xs.getD k 0))) := by
  have h1 := o.set k (xs.getD (k + 1) 0)
  have h2 := h1.1.set (k + 1) (xs.getD k 0)
  exact ⟨h2.1, h1.2.trans h2.2⟩

theorem own_slice {w : World} {lo hi : Nat} {v : Value} {xs : List Int} (o : Own w lo hi v xs) (hp : 0 < xs.length) : ∃ g cap, v = .slice (some ⟨g, 0, none⟩) xs.length cap ∧ lo ≤ g ∧ g < hi := by
  rcases o.1.2 with ⟨_, h0⟩ | ⟨g, c, cur, h, hg, _⟩
  · omega
  · exact ⟨g, c, h, hg, o.2.1 g (by rw [h]; rfl)⟩

set_option maxHeartbeats 400000 in
theorem implExchange (xs : List Int) (v : Value) (lo hi k : Nat) (w : World) (o : Own w lo hi v xs) (hn : xs.length ≤ 1099511627776) (hk : k + 1 < xs.length) :
    Calls Try.prog 109 #[v, .int .i64 k] w fun e w' => e = .returned (.tuple #[]) ∧ Own w' lo hi v (swapAt xs k) ∧ Chg lo hi w w' := by
  obtain ⟨g, cap, rfl, hg1, hg2⟩ := own_slice o (by omega)
  have h1 := (o.at' k (by omega)).1
  have h2 := (o.at' (k + 1) hk).1
  have f1 := (o.at' k (by omega)).2
  have f2 := (o.at' (k + 1) hk).2
  have HS := hid (swapWorld o k)
  obtain ⟨n, hnn⟩ : ∃ n, n = xs.length := ⟨_, rfl⟩
  obtain ⟨x, hx⟩ : ∃ x, x = xs.getD k 0 := ⟨_, rfl⟩
  obtain ⟨y, hy⟩ : ∃ y, y = xs.getD (k + 1) 0 := ⟨_, rfl⟩
  rw [← hnn] at hk hn HS ⊢
  rw [← hx] at h1 HS
  rw [← hy] at h2 HS
  clear hx hy hnn o
  go_enter Try.func109, Try.ntmps109
  go_wp2
  go_region
  all_goals (try go_wp2)
  go_end0
  exact ⟨rfl, HS.out.1.drewN 1, HS.out.2.drewN 1⟩

/-! ### inversions -/
def inv : List Int → Nat
  | [] => 0
  | x :: r => (r.countP fun y => decide (y < x)) + inv r
theorem inv_le (p : List Int) : inv p ≤ p.length * p.length := by
  induction p with
  | nil => simp [inv]
  | cons x r ih =>
    have h1 : (r.countP fun y => decide (y < x)) ≤ r.length := List.countP_le_length
    simp only [inv, List.length_cons]
    have h2 : (r.length + 1) * (r.length + 1) = r.length * r.length + r.length + r.length + 1 := by rw [Nat.add_mul, Nat.mul_add]; omega
    omega
theorem inv_swap (l1 : List Int) (a b : Int) (l2 : List Int) (h : b < a) : inv (l1 ++ b :: a :: l2) + 1 = inv (l1 ++ a :: b :: l2) := by
  induction l1 with
  | nil =>
    have h' : ¬ a < b := by omega
    simp only [List.nil_append, inv, List.countP_cons, h, h', decide_true, decide_false]
    simp
    omega
  | cons x r ih =>
    have hp : (r ++ b :: a :: l2).Perm (r ++ a :: b :: l2) := List.Perm.append_left r (List.Perm.swap a b l2)
    simp only [List.cons_append, inv]
    rw [hp.countP_eq]
    omega
theorem split_at (p : List Int) (k : Nat) (hk : k + 1 < p.length) : ∃ l1 l2, p = l1 ++ p.getD k 0 :: p.getD (k + 1) 0 :: l2 ∧ l1.length = k := by
  refine ⟨p.take k, p.drop (k + 2), ?_, by simp; omega⟩
  have e1 : p.getD k 0 = p[k]'(by omega) := by simp [List.getD, List.getElem?_eq_getElem (show k < p.length by omega)]
  have e2 : p.getD (k + 1) 0 = p[k + 1] := by simp [List.getD, List.getElem?_eq_getElem hk]
  rw [e1, e2, ← List.drop_eq_getElem_cons (by omega), ← List.drop_eq_getElem_cons (by omega), List.take_append_drop]
theorem swap_split (l1 : List Int) (a b : Int) (l2 : List Int) : swapAt (l1 ++ a :: b :: l2) l1.length = l1 ++ b :: a :: l2 := by
  unfold swapAt
  have e1 : (l1 ++ a :: b :: l2).getD (l1.length + 1) 0 = b := by simp [List.getD]
  have e2 : (l1 ++ a :: b :: l2).getD l1.length 0 = a := by simp [List.getD]
  rw [e1, e2, List.set_append_right _ _ (Nat.le_refl _), List.set_append_right _ _ (by omega)]
  simp
theorem swap_inv (p : List Int) (k : Nat) (hk : k + 1 < p.length) (h : p.getD (k + 1) 0 < p.getD k 0) : inv (swapAt p k) + 1 = inv p := by
  obtain ⟨l1, l2, hp, hl⟩ := split_at p k hk
  generalize p.getD k 0 = a at *
  generalize p.getD (k + 1) 0 = b at *
  subst hp hl
  rw [swap_split]
  exact inv_swap l1 a b l2 h

/-! ### the reduced word -/
/-- No descent below k. -/
def NoDesc (p : List Int) (k : Nat) : Prop := ∀ j, j < k → ¬ p.getD (j + 1) 0 < p.getD j 0
def isDesc (p : List Int) (k : Nat) : Bool := decide (p.getD (k + 1) 0 < p.getD k 0)
def firstDesc (p : List Int) : Option Nat := (List.range (p.length - 1)).find? (isDesc p)
/-- The exchanges of a bubble sort that begins at the leftmost descent again and again. -/
def redF : Nat → List Int → List Int
  | 0, _ => []
  | f + 1, p => match firstDesc p with
    | none => []
    | some k => (k : Int) :: redF f (swapAt p k)
def redW (p : List Int) : List Int := redF (inv p) p

theorem first_none (p : List Int) (h : NoDesc p (p.length - 1)) : firstDesc p = none := by
  rw [firstDesc, List.find?_eq_none]
  intro k hk
  simpa [isDesc] using h k (by simpa using hk)
theorem first_some (p : List Int) (k : Nat) (hk : k + 1 < p.length) (hn : NoDesc p k) (hd : p.getD (k + 1) 0 < p.getD k 0) : firstDesc p = some k := by
  rw [firstDesc]
  have e : p.length - 1 = k + (p.length - 1 - k) := by omega
  rw [e, List.range_add, List.find?_append]
  have h1 : (List.range k).find? (isDesc p) = none := by
    rw [List.find?_eq_none]
    intro j hj
    simpa [isDesc] using hn j (by simpa using hj)
  have e2 : p.length - 1 - k = (p.length - 1 - k - 1) + 1 := by omega
  have hb : isDesc p k = true := decide_eq_true hd
  rw [h1, e2, List.range_succ_eq_map]
  simp [hb]
theorem red_none (f : Nat) (p : List Int) (h : NoDesc p (p.length - 1)) : redF f p = [] := by
  cases f with
  | zero => rfl
  | succ f => simp only [redF, first_none p h]
theorem red_some (f : Nat) (p : List Int) (k : Nat) (hk : k + 1 < p.length) (hn : NoDesc p k) (hd : p.getD (k + 1) 0 < p.getD k 0) : redF (f + 1) p = (k : Int) :: redF f (swapAt p k) := by
  simp only [redF, first_some p k hk hn hd]
theorem red_len (f : Nat) (p : List Int) : (redF f p).length ≤ f := by
  induction f generalizing p with
  | zero => simp [redF]
  | succ f ih =>
    unfold redF
    split
    · simp
    · have := ih (swapAt p (by assumption))
      simp; omega
theorem desc_filter (p : List Int) (n : Nat) : descTo p n = ((List.range n).filter (isDesc p)).map fun (j : Nat) => (j : Int) := by
  induction n with
  | zero => rfl
  | succ n ih =>
    rw [List.range_succ, List.filter_append, List.map_append, ← ih, descTo]
    by_cases h : p.getD (n + 1) 0 < p.getD n 0
    · have hb : isDesc p n = true := decide_eq_true h
      rw [if_pos h]; simp [hb]
    · have hb : isDesc p n = false := decide_eq_false h
      rw [if_neg h]; simp [hb]
theorem desc_first (p : List Int) : (descL p).head? = (firstDesc p).map fun (j : Nat) => (j : Int) := by
  rw [descL, desc_filter, List.head?_map, List.head?_filter]
  rfl

/-- How the loops of both sorts stand: the current list, the word so far, the exchanges that are left at most. -/
def Srt (p0 cur ws : List Int) (f : Nat) : Prop := ws ++ redF f cur = redW p0 ∧ inv cur ≤ f ∧ ws.length + f = inv p0 ∧ cur.length = p0.length
theorem sort_start (p0 : List Int) : Srt p0 p0 [] (inv p0) := ⟨by simp [redW], Nat.le_refl _, by simp, rfl⟩
theorem sort_step (p0 cur ws : List Int) (f k : Nat) (h : Srt p0 cur ws f) (hk : k + 1 < cur.length) (hn : NoDesc cur k) (hd : cur.getD (k + 1) 0 < cur.getD k 0) : ∃ f', f = f' + 1 ∧ Srt p0 (swapAt cur k) (ws ++ [(k : Int)]) f' := by
  obtain ⟨h1, h2, h3, h4⟩ := h
  have hi := swap_inv cur k hk hd
  refine ⟨f - 1, by omega, ?_, by omega, by simp; omega, by rw [swap_len]; exact h4⟩
  have e : f = (f - 1) + 1 := by omega
  rw [e, red_some _ cur k hk hn hd] at h1
  rw [List.append_assoc]
  exact h1
theorem sort_end (p0 cur ws : List Int) (f : Nat) (h : Srt p0 cur ws f) (hn : NoDesc cur (cur.length - 1)) : ws = redW p0 := by
  have := h.1
  rw [red_none f cur hn, List.append_nil] at this
  exact this
theorem nodesc_next (p : List Int) (k : Nat) (h : NoDesc p k) (hd : ¬ p.getD (k + 1) 0 < p.getD k 0) : NoDesc p (k + 1) := by
  intro j hj
  rcases Nat.lt_or_ge j k with h1 | h1
  · exact h j h1
  · obtain rfl : j = k := by omega
    exact hd
def lenOf : Value → Nat | .slice _ n _ => n | _ => 0
theorem lenOf_own {w : World} {lo hi : Nat} {v : Value} {xs : List Int} (o : Own w lo hi v xs) : lenOf v = xs.length := by
  rcases o.1.2 with ⟨h, h0⟩ | ⟨g, c, cur, h, _⟩
  · rw [h]; simp [lenOf, h0]
  · rw [h]; rfl

theorem own_val {w : World} {lo hi : Nat} {v : Value} {xs : List Int} (o : Own w lo hi v xs) : ∃ ao cap, v = .slice ao xs.length cap := by
  rcases o.1.2 with ⟨h, h0⟩ | ⟨g, c, cur, h, _⟩
  · exact ⟨none, 0, by rw [h, h0]⟩
  · exact ⟨_, _, h⟩
theorem built1 (w : World) : Own (w.alloc (.cells #[] 2)) w.heap.size (w.heap.size + 1) (.slice (some ⟨w.heap.size, 0, none⟩) 0 0) [] := by simpa using Own.built w _ rfl

/-! ### the model's sort -/
end Go.Proofs.Ytedajefapddekaa.fn
