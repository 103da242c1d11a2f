/-
  MirrorEvents of both sides.
-/
import Derived.Test.YtlhpipcmebmpdaaEvr
import Derived.Test.YtlhpipcmebmpdaaEvu
import Derived.Test.YtlhpipcmebmpdaaEvo
import Derived.Maps.AppendAt
namespace Go.Proofs.Ytlhpipcmebmpdaa.ev
open Go.RowKit Go.Sort Go.Proofs.Ytlhpipcmebmpdaa.sl Go.Proofs.Ytlhpipcmebmpdaa.nd Go.Proofs.Ytlhpipcmebmpdaa.vo
set_option linter.unusedVariables false
set_option linter.unusedSimpArgs false

def mrV (s : Int) (x : V) : V := if x.a0 = 1 then ⟨x.a0, s - 2 - x.a1, -x.a2, x.a3, x.a4, x.a5⟩ else ⟨x.a0, s - x.a1 - x.a2, x.a2, x.a3, x.a4, -x.a5⟩
def stG (xs : List V) (k : Nat) : Int := (st xs k).getD 0
def mrL (xs : List V) : Nat → List V
  | 0 => []
  | k + 1 => mrL xs k ++ [mrV (stG xs k) (xs.getD k oz)]
theorem mrL_len (xs : List V) (k : Nat) : (mrL xs k).length = k := by
  induction k with
  | zero => rfl
  | succ k ih => simp [mrL, ih]
def noSp (xs : List V) : Bool := xs.all fun x => !(x.a0 == 5)
def mvC (xs : List V) : Int := if okE xs = false then 1 else if noSp xs = true then 0 else 6
def mvW (xs : List V) : List V := if okE xs = true ∧ noSp xs = true then mrL xs xs.length else []
theorem mvW_len (xs : List V) : (mvW xs).length ≤ xs.length := by
  unfold mvW
  split
  · rw [mrL_len]; exact Nat.le_refl _
  · simp
theorem mv_bad {xs : List V} (h : okE xs = false) : mvC xs = 1 ∧ mvW xs = [] := by simp [mvC, mvW, h]
theorem mv_sp {xs : List V} (h : okE xs = true) (k : Nat) (hk : k < xs.length) (h5 : (xs.getD k oz).a0 = 5) : mvC xs = 6 ∧ mvW xs = [] := by
  have : noSp xs = false := by
    rw [noSp, List.all_eq_false]
    refine ⟨xs.getD k oz, ?_, by rw [h5]; simp⟩
    rw [show xs.getD k oz = xs[k] from by simp [List.getD, List.getElem?_eq_getElem hk]]
    exact List.getElem_mem hk
  simp [mvC, mvW, h, this]
theorem mv_ok {xs : List V} (h : okE xs = true) (h2 : ∀ k, k < xs.length → (xs.getD k oz).a0 ≠ 5) : mvC xs = 0 ∧ mvW xs = mrL xs xs.length := by
  have : noSp xs = true := by
    rw [noSp, List.all_eq_true]
    intro x hx
    obtain ⟨j, hj, rfl⟩ := List.getElem_of_mem hx
    have := h2 j hj
    rw [show xs.getD j oz = xs[j] from by simp [List.getD, List.getElem?_eq_getElem hj]] at this
    simpa using this
  simp [mvC, mvW, h, this]
theorem st_go {xs : List V} (h : okE xs = true) (k : Nat) (hk : k < xs.length) : evB (stG xs k) (xs.getD k oz) = true ∧ nxt (stG xs k) (xs.getD k oz) = stG xs (k + 1) := by
  have hs : ∀ j, j ≤ xs.length → ∃ s, st xs j = some s := fun j hj => by
    cases e : st xs j with
    | some s => exact ⟨s, rfl⟩
    | none =>
      have := st_none e (xs.length - j)
      rw [show j + (xs.length - j) = xs.length by omega] at this
      simp [okE, this] at h
  obtain ⟨s, e1⟩ := hs k (by omega)
  obtain ⟨s', e2⟩ := hs (k + 1) (by omega)
  have e3 := st_next e1
  rw [e2] at e3
  cases hg : goodB s (xs.getD k oz) with
  | false => rw [hg] at e3; cases e3
  | true =>
    rw [hg] at e3
    simp only [if_true, Option.some.injEq] at e3
    simp only [goodB, Bool.and_eq_true, decide_eq_true_eq] at hg
    simp only [stG, e1, e2, Option.getD_some]
    exact ⟨hg.1, e3.symm⟩
theorem stG_range {xs : List V} (k : Nat) : 0 ≤ stG xs k ∧ stG xs k ≤ 12 := by
  unfold stG
  cases e : st xs k with
  | some s => exact st_range e
  | none => simp
theorem ev_small {s : Int} {x : V} (h : evB s x = true) (hs : 0 ≤ s ∧ s ≤ 12) : 0 ≤ x.a1 ∧ x.a1 ≤ 16 ∧ -1 ≤ x.a2 ∧ x.a2 ≤ 4 ∧ -1 ≤ x.a5 ∧ x.a5 ≤ 1 ∧ (x.a0 = 1 ∨ x.a0 = 2 ∨ x.a0 = 3 ∨ x.a0 = 4 ∨ x.a0 = 5) ∧ (x.a0 = 1 → x.a5 = 0) ∧ (x.a0 = 3 → x.a2 = 0) := by
  obtain ⟨x0, x1, x2, x3, x4, x5⟩ := x
  simp only [evB, noneB, yarnB, dirB] at h ⊢
  split at h
  · simp_all; omega
  · split at h
    · simp_all; omega
    · split at h
      · simp_all; omega
      · split at h
        · simp_all; omega
        · split at h
          · simp_all
            split at h <;> omega
          · cases h

/-- append(out, x), out the call's own: where it lies. -/
theorem wp_append1G {ops : Array Oper} {rest : List Oper} {o : Oper} {a : Act} {Q : Exit → Act → World → Prop} {w : World} (hgd : o.guard = none) (s x : Operand)
    (hop : o.op = .call { callee := .builtin .append, args := #[s, x], argTypes := #[55, 55] })
    (lo hi : Nat) (v : Value) (xs : List V) (x0 : V) (ho : ROwn w lo hi v xs) (hs : a.eval s = v) (hx : a.eval x = .slice (some ⟨w.heap.size, 0, none⟩) 1 1) (hlo : lo ≤ w.heap.size) (hn : xs.length ≤ 1048576)
    (hK : ∀ v' w', ROwn w' lo w'.heap.size v' (xs ++ [x0]) → (w.alloc (.cells #[.int .i64 x0.a0, .int .i64 x0.a1, .int .i64 x0.a2, .int .i64 x0.a3, .int .i64 x0.a4, .int .i64 x0.a5] 97)).grownBy w' v.ownBlock → (v'.ownBlock = v.ownBlock ∨ v'.ownBlock = some (w.heap.size + 1)) → wpList Try.prog ops Q rest (a.put o.dst v') w') : wpList Try.prog ops Q (o :: rest) a (w.alloc (.cells #[.int .i64 x0.a0, .int .i64 x0.a1, .int .i64 x0.a2, .int .i64 x0.a3, .int .i64 x0.a4, .int .i64 x0.a5] 97)) := by
  obtain ⟨i0, hi', hz0, hz1, hz2⟩ := info_parts infoO
  have A := at_new x0 97 w
  refine wpList_append_own_at _ hgd s x 55 hop lo 97 i0 _ 6 48 Try.underlying55 hi' hz0 hz1 hz2 rfl (by decide) v xs.length (cellsL xs) hs (ho.1.alloc _) ⟨w.heap.size, 0, none⟩ 1 1 (cellsL [x0]) hx (by rw [cellsL_len]; rfl) ?_ ?_ ?_ ?_ ?_ ?_
  · intro j u hj
    have hj' : j < 6 := by
      have := (List.getElem?_eq_some_iff.1 hj).1
      simpa [cellsL_len] using this
    rw [cellsL_at [x0] j (by simpa using hj')] at hj
    rw [← hj, Addr.add_lit, show j / 6 = 0 from by omega, show j % 6 = j from by omega]
    exact A.cellOf j hj'
  · intro u hu
    simp only [cellsL, List.mem_map] at hu
    obtain ⟨m, _, rfl⟩ := hu
    exact cellOf_one _ _
  · unfold maxLen; omega
  · omega
  · simp; omega
  · intro v' w' h1 h2 _ h5
    exact hK v' w' (ROwn.mk' (by rw [cellsL_append]; simpa using h1)) h2 (by simpa using h5)
theorem grown_low {w w' : World} {lo hi : Nat} {v : Value} {xs : List V} {o : Obj} (h2 : (w.alloc o).grownBy w' v.ownBlock) (ho : ROwn w lo hi v xs) (hl : lo ≤ w.heap.size) : Below lo w w' :=
  ⟨h2.os, h2.tape, h2.output, by have := h2.size; simp at this; omega, fun k hk => by
    rw [h2.block k (by simp; omega) (by intro e; have h4 := (ho.1.lt k e.symm).1; omega)]
    exact Below.heap_alloc _ _ _ (by omega)⟩
theorem grown_size {w w' : World} {r : Option Nat} {o : Obj} (h2 : (w.alloc o).grownBy w' r) : w.heap.size < w'.heap.size := by
  have := h2.size
  simp at this
  omega
theorem Sz.grown5 {w w' : World} {p : Nat} {a s : Int} {r : Option Nat} {o : Obj} (h : Sz w p a s) (h2 : (w.alloc o).grownBy w' r) (hne : r ≠ some p) : Sz w' p a s := by
  have hb : w'.heap[p]? = w.heap[p]? := by
    rw [h2.block p (by have := h.lt; simp; omega) (fun e => hne e.symm)]
    exact Below.heap_alloc _ _ _ h.lt
  have e : ∀ q, w'.cell? ⟨p, q, none⟩ = w.cell? ⟨p, q, none⟩ := fun q => World.cell?_of_block (w := w) (w' := w') (a := ⟨p, q, none⟩) hb
  have e' : ∀ q, w'.frozen? ⟨p, q, none⟩ = w.frozen? ⟨p, q, none⟩ := fun q => World.frozen?_of_block (w := w) (w' := w') (a := ⟨p, q, none⟩) hb
  exact ⟨Nat.lt_of_lt_of_le h.lt (Nat.le_of_lt (grown_size h2)), (e _).trans h.c0, (e _).trans h.c1, (e' _).trans h.f0, (e' _).trans h.f1⟩
theorem At.grown5 {w w' : World} {p q : Nat} {x : V} {r : Option Nat} {o : Obj} (h : At w p q x) (h2 : (w.alloc o).grownBy w' r) (hne : r ≠ some p) : At w' p q x :=
  h.blk (Nat.le_of_lt (grown_size h2)) (by
    rw [h2.block p (by have := h.lt; simp; omega) (fun e => hne e.symm)]
    exact Below.heap_alloc _ _ _ h.lt)
theorem ROwn.set_other {w : World} {lo p : Nat} {hi : Nat} {v : Value} {xs : List V} (h : ROwn w lo hi v xs) (hne : v.ownBlock ≠ some p) (i : Nat) (u : Value) : ROwn (w.setCell ⟨p, i, none⟩ u) lo hi v xs :=
  ⟨World.ownsRow.kept h.1 (⟨rfl, rfl, rfl, by simp, fun k hk hk2 => by
    have h' : ¬ p = k := fun e => hk2 (by rw [e])
    simp [World.setCell, Array.getElem?_modify, h']⟩ : w.grownBy (w.setCell ⟨p, i, none⟩ u) (some p)) (.inr hne), h.2.1, by simpa using h.2.2⟩
theorem At.chg5 {w w' : World} {p o lo hi : Nat} {x : V} (h : At w p o x) (c : Chg lo hi w w') (h1 : hi ≤ p) : At w' p o x := h.blk c.size (c.block p h.lt (by omega))

set_option maxRecDepth 100000 in
set_option maxHeartbeats 2000000 in
theorem implMr (s : Int) (x : V) (w : World) (hx : evB s x = true) (h5 : ¬ x.a0 = 5) (hs : 0 ≤ s ∧ s ≤ 12) :
    Calls Try.prog 101 #[x.val, .int .i64 s] w fun e w' => e = .returned (mrV s x).val ∧ Below w.heap.size w w' := by
  have hsm := ev_small hx hs
  have HXc := hid (fun W => predX x W)
  have hb0 := (Below.refl w.heap.size w).alloc (Nat.le_refl _) (.cells #[.int .i64 x.a0, .int .i64 x.a1, .int .i64 x.a2, .int .i64 x.a3, .int .i64 x.a4, .int .i64 x.a5] 97)
  have hb1 := hb0.alloc (by simp) (.cells #[.int .i64 0, .int .i64 0, .int .i64 0, .int .i64 0, .int .i64 0, .int .i64 0] 97)
  have HB := hid hb1
  have HX := hid ((at_new x 97 w).below ((Below.refl _ _).alloc (Nat.le_refl _) (.cells #[.int .i64 0, .int .i64 0, .int .i64 0, .int .i64 0, .int .i64 0, .int .i64 0] 97)))
  have HR : Hid (At ((w.alloc (.cells #[.int .i64 x.a0, .int .i64 x.a1, .int .i64 x.a2, .int .i64 x.a3, .int .i64 x.a4, .int .i64 x.a5] 97)).alloc (.cells #[.int .i64 0, .int .i64 0, .int .i64 0, .int .i64 0, .int .i64 0, .int .i64 0] 97)) (w.heap.size + 1) 0 oz) := hid (by have := at_new oz 97 (w.alloc (.cells #[.int .i64 x.a0, .int .i64 x.a1, .int .i64 x.a2, .int .i64 x.a3, .int .i64 x.a4, .int .i64 x.a5] 97)); simpa [oz] using this)
  have hF : ∀ (o : Nat), o < 6 → ((w.alloc (.cells #[.int .i64 x.a0, .int .i64 x.a1, .int .i64 x.a2, .int .i64 x.a3, .int .i64 x.a4, .int .i64 x.a5] 97)).alloc (.cells #[.int .i64 0, .int .i64 0, .int .i64 0, .int .i64 0, .int .i64 0, .int .i64 0] 97)).frozen? ⟨w.heap.size, o, none⟩ = false ∧ ((w.alloc (.cells #[.int .i64 x.a0, .int .i64 x.a1, .int .i64 x.a2, .int .i64 x.a3, .int .i64 x.a4, .int .i64 x.a5] 97)).alloc (.cells #[.int .i64 0, .int .i64 0, .int .i64 0, .int .i64 0, .int .i64 0, .int .i64 0] 97)).frozen? ⟨w.heap.size + 1, o, none⟩ = false := fun o ho =>
    ⟨by rw [World.frozen?_alloc_past _ _ _ (by simp)]; exact World.frozen?_alloc_at _ _ _ _ rfl, World.frozen?_alloc_at _ _ _ _ (by simp)⟩
  have HF := hid hF
  have HK : Hid (mrV s x = if x.a0 = 1 then ⟨x.a0, s - 2 - x.a1, -x.a2, x.a3, x.a4, x.a5⟩ else ⟨x.a0, s - x.a1 - x.a2, x.a2, x.a3, x.a4, -x.a5⟩) := hid rfl
  clear hx hb0 hb1 hF
  obtain ⟨x0, x1, x2, x3, x4, x5⟩ := x
  simp only [V.val, Array.append_empty] at HXc
  simp only at hsm h5 HB HX HR HF HK
  obtain ⟨ha, ha', hb, hb', hd, hd', _⟩ := hsm
  have hI : isX ⟨x0, x1, x2, x3, x4, x5⟩ = (x0 == 1) := rfl
  rw [hI] at HXc
  clear hI
  have c0 := HX.out.c0
  have c1 := HX.out.c1
  have c2 := HX.out.c2
  have c3 := HX.out.c3
  have c4 := HX.out.c4
  have c5 := HX.out.c5
  simp only [Nat.zero_add] at c0 c1 c2 c3 c4 c5
  have w1 : IntKind.i64.wrap (s - 2) = s - 2 := IntWalk.i64_in _ (by omega)
  have w2 : IntKind.i64.wrap (s - 2 - x1) = s - 2 - x1 := IntWalk.i64_in _ (by omega)
  have w3 : IntKind.i64.wrap (s - x1) = s - x1 := IntWalk.i64_in _ (by omega)
  have w4 : IntKind.i64.wrap (s - x1 - x2) = s - x1 - x2 := IntWalk.i64_in _ (by omega)
  have w5 : IntKind.i64.wrap (-x2) = -x2 := IntWalk.i64_in _ (by omega)
  have w6 : IntKind.i64.wrap (-x5) = -x5 := IntWalk.i64_in _ (by omega)
  by_cases h1 : x0 = 1
  · have hk : (x0 == 1) = true := by simpa using h1
    rw [HK.out, if_pos h1]
    rw [hk] at HXc
    clear HK h1
    show Calls _ _ #[.agg #[.int .i64 x0, .int .i64 x1, .int .i64 x2, .int .i64 x3, .int .i64 x4, .int .i64 x5], .int .i64 s] _ _
    go_enter Try.func101, Try.ntmps101
    go_wp2_with fail
    clear c0 c1 c2 c3 c4 c5
    generalize (w.alloc (.cells #[.int .i64 x0, .int .i64 x1, .int .i64 x2, .int .i64 x3, .int .i64 x4, .int .i64 x5] 97)).alloc (.cells #[.int .i64 0, .int .i64 0, .int .i64 0, .int .i64 0, .int .i64 0, .int .i64 0] 97) = W0 at *
    refine (HXc.out _).mono ?_
    rintro e W1 ⟨rfl, b1⟩
    have HX1 := hid (HX.out.below b1)
    have HR1 := hid (HR.out.below b1)
    have HB1 := hid (HB.out.trans (b1.mono HB.out.size))
    have f1 := (b1.frozen (p := ⟨w.heap.size, 1, none⟩) HX.out.lt).trans (HF.out 1 (by omega)).1
    have f2 := (b1.frozen (p := ⟨w.heap.size, 2, none⟩) HX.out.lt).trans (HF.out 2 (by omega)).1
    have f5 := (b1.frozen (p := ⟨w.heap.size, 5, none⟩) HX.out.lt).trans (HF.out 5 (by omega)).1
    have q0 := (b1.frozen (p := ⟨w.heap.size + 1, 0, none⟩) HR.out.lt).trans (HF.out 0 (by omega)).2
    have q1 := (b1.frozen (p := ⟨w.heap.size + 1, 1, none⟩) HR.out.lt).trans (HF.out 1 (by omega)).2
    have q2 := (b1.frozen (p := ⟨w.heap.size + 1, 2, none⟩) HR.out.lt).trans (HF.out 2 (by omega)).2
    have q3 := (b1.frozen (p := ⟨w.heap.size + 1, 3, none⟩) HR.out.lt).trans (HF.out 3 (by omega)).2
    have q4 := (b1.frozen (p := ⟨w.heap.size + 1, 4, none⟩) HR.out.lt).trans (HF.out 4 (by omega)).2
    have q5 := (b1.frozen (p := ⟨w.heap.size + 1, 5, none⟩) HR.out.lt).trans (HF.out 5 (by omega)).2
    clear b1 HXc HX HR HB HF
    have e0 := HX1.out.c0
    have e1 := HX1.out.c1
    have e2 := HX1.out.c2
    have e3 := HX1.out.c3
    have e4 := HX1.out.c4
    have e5 := HX1.out.c5
    have r0 := HR1.out.c0
    have r1 := HR1.out.c1
    have r2 := HR1.out.c2
    have r3 := HR1.out.c3
    have r4 := HR1.out.c4
    have r5 := HR1.out.c5
    simp only [Nat.zero_add, oz] at e0 e1 e2 e3 e4 e5 r0 r1 r2 r3 r4 r5
    go_wp2
    refine bodyPost_ret (v := .agg #[.int .i64 x0, .int .i64 (s - 2 - x1), .int .i64 (-x2), .int .i64 x3, .int .i64 x4, .int .i64 x5]) (by simp [results, Try.results101, go_sem, r0, r1, r2, r3, r4, r5]) rfl ⟨rfl, ?_⟩
    iterate 6 (refine Below.setCell ?_ (Nat.le_succ _) _)
    iterate 2 (refine Below.setCell ?_ (by simp) _)
    exact HB1.out
  · have hk : (x0 == 1) = false := by simpa using h1
    rw [HK.out, if_neg h1]
    rw [hk] at HXc
    clear HK h1
    show Calls _ _ #[.agg #[.int .i64 x0, .int .i64 x1, .int .i64 x2, .int .i64 x3, .int .i64 x4, .int .i64 x5], .int .i64 s] _ _
    go_enter Try.func101, Try.ntmps101
    go_wp2_with fail
    clear c0 c1 c2 c3 c4 c5
    generalize (w.alloc (.cells #[.int .i64 x0, .int .i64 x1, .int .i64 x2, .int .i64 x3, .int .i64 x4, .int .i64 x5] 97)).alloc (.cells #[.int .i64 0, .int .i64 0, .int .i64 0, .int .i64 0, .int .i64 0, .int .i64 0] 97) = W0 at *
    refine (HXc.out _).mono ?_
    rintro e W1 ⟨rfl, b1⟩
    have HX1 := hid (HX.out.below b1)
    have HR1 := hid (HR.out.below b1)
    have HB1 := hid (HB.out.trans (b1.mono HB.out.size))
    have f1 := (b1.frozen (p := ⟨w.heap.size, 1, none⟩) HX.out.lt).trans (HF.out 1 (by omega)).1
    have f2 := (b1.frozen (p := ⟨w.heap.size, 2, none⟩) HX.out.lt).trans (HF.out 2 (by omega)).1
    have f5 := (b1.frozen (p := ⟨w.heap.size, 5, none⟩) HX.out.lt).trans (HF.out 5 (by omega)).1
    have q0 := (b1.frozen (p := ⟨w.heap.size + 1, 0, none⟩) HR.out.lt).trans (HF.out 0 (by omega)).2
    have q1 := (b1.frozen (p := ⟨w.heap.size + 1, 1, none⟩) HR.out.lt).trans (HF.out 1 (by omega)).2
    have q2 := (b1.frozen (p := ⟨w.heap.size + 1, 2, none⟩) HR.out.lt).trans (HF.out 2 (by omega)).2
    have q3 := (b1.frozen (p := ⟨w.heap.size + 1, 3, none⟩) HR.out.lt).trans (HF.out 3 (by omega)).2
    have q4 := (b1.frozen (p := ⟨w.heap.size + 1, 4, none⟩) HR.out.lt).trans (HF.out 4 (by omega)).2
    have q5 := (b1.frozen (p := ⟨w.heap.size + 1, 5, none⟩) HR.out.lt).trans (HF.out 5 (by omega)).2
    clear b1 HXc HX HR HB HF
    have e0 := HX1.out.c0
    have e1 := HX1.out.c1
    have e2 := HX1.out.c2
    have e3 := HX1.out.c3
    have e4 := HX1.out.c4
    have e5 := HX1.out.c5
    have r0 := HR1.out.c0
    have r1 := HR1.out.c1
    have r2 := HR1.out.c2
    have r3 := HR1.out.c3
    have r4 := HR1.out.c4
    have r5 := HR1.out.c5
    simp only [Nat.zero_add, oz] at e0 e1 e2 e3 e4 e5 r0 r1 r2 r3 r4 r5
    go_wp2
    refine bodyPost_ret (v := .agg #[.int .i64 x0, .int .i64 (s - x1 - x2), .int .i64 x2, .int .i64 x3, .int .i64 x4, .int .i64 (-x5)]) (by simp [results, Try.results101, go_sem, r0, r1, r2, r3, r4, r5]) rfl ⟨rfl, ?_⟩
    iterate 6 (refine Below.setCell ?_ (Nat.le_succ _) _)
    iterate 2 (refine Below.setCell ?_ (by simp) _)
    exact HB1.out

set_option maxRecDepth 100000 in
set_option maxHeartbeats 4000000 in
theorem specMr (s : Int) (x : V) (w : World) (hx : evB s x = true) (h5 : ¬ x.a0 = 5) (hs : 0 ≤ s ∧ s ≤ 12) :
    Calls Try.prog 100 #[x.val, .int .i64 s] w fun e w' => e = .returned (mrV s x).val ∧ Below w.heap.size w w' := by
  have hsm := ev_small hx hs
  have HK : Hid (mrV s x = if x.a0 = 1 then ⟨x.a0, s - 2 - x.a1, -x.a2, x.a3, x.a4, x.a5⟩ else ⟨x.a0, s - x.a1 - x.a2, x.a2, x.a3, x.a4, -x.a5⟩) := hid rfl
  clear hx
  obtain ⟨x0, x1, x2, x3, x4, x5⟩ := x
  simp only at hsm h5 HK
  obtain ⟨ha, ha', hb, hb', hd, hd', hkk, h15, h32⟩ := hsm
  have w1 : IntKind.i64.wrap (s - 2) = s - 2 := IntWalk.i64_in _ (by omega)
  have w2 : IntKind.i64.wrap (s - 2 - x1) = s - 2 - x1 := IntWalk.i64_in _ (by omega)
  have w3 : IntKind.i64.wrap (s - x1) = s - x1 := IntWalk.i64_in _ (by omega)
  have w4 : IntKind.i64.wrap (s - x1 - x2) = s - x1 - x2 := IntWalk.i64_in _ (by omega)
  have w5 : IntKind.i64.wrap (-x2) = -x2 := IntWalk.i64_in _ (by omega)
  have w6 : IntKind.i64.wrap (-x5) = -x5 := IntWalk.i64_in _ (by omega)
  rcases hkk with h | h | h | h | h
  · have hx5 := h15 h
    subst hx5
    rw [HK.out, if_pos h]
    subst h
    clear HK h15 h32 h5
    show Calls _ _ #[.agg #[.int .i64 1, .int .i64 x1, .int .i64 x2, .int .i64 x3, .int .i64 x4, .int .i64 0], .int .i64 s] _ _
    go_enter Try.func100, Try.ntmps100
    go_wp2
    refine bodyPost_ret (v := .agg #[.int .i64 1, .int .i64 (s - 2 - x1), .int .i64 (-x2), .int .i64 x3, .int .i64 x4, .int .i64 0]) (by simp [results, Try.results100, go_sem]) rfl ⟨rfl, ?_⟩
    repeat (first | exact Below.refl _ _ | refine Below.alloc ?_ (by simp; try omega) _ | refine Below.setCell ?_ (by simp; try omega) _)
  · rw [HK.out, if_neg (by omega)]
    subst h
    clear HK h15 h32 h5
    show Calls _ _ #[.agg #[.int .i64 2, .int .i64 x1, .int .i64 x2, .int .i64 x3, .int .i64 x4, .int .i64 x5], .int .i64 s] _ _
    go_enter Try.func100, Try.ntmps100
    go_wp2
    refine bodyPost_ret (v := .agg #[.int .i64 2, .int .i64 (s - x1 - x2), .int .i64 x2, .int .i64 x3, .int .i64 x4, .int .i64 (-x5)]) (by simp [results, Try.results100, go_sem]) rfl ⟨rfl, ?_⟩
    repeat (first | exact Below.refl _ _ | refine Below.alloc ?_ (by simp; try omega) _ | refine Below.setCell ?_ (by simp; try omega) _)
  · have hx2 := h32 h
    subst hx2
    rw [HK.out, if_neg (by omega), show s - x1 - 0 = s - x1 by omega]
    subst h
    clear HK h15 h32 h5
    show Calls _ _ #[.agg #[.int .i64 3, .int .i64 x1, .int .i64 0, .int .i64 x3, .int .i64 x4, .int .i64 x5], .int .i64 s] _ _
    go_enter Try.func100, Try.ntmps100
    go_wp2
    refine bodyPost_ret (v := .agg #[.int .i64 3, .int .i64 (s - x1), .int .i64 0, .int .i64 x3, .int .i64 x4, .int .i64 (-x5)]) (by simp [results, Try.results100, go_sem]) rfl ⟨rfl, ?_⟩
    repeat (first | exact Below.refl _ _ | refine Below.alloc ?_ (by simp; try omega) _ | refine Below.setCell ?_ (by simp; try omega) _)
  · rw [HK.out, if_neg (by omega)]
    subst h
    clear HK h15 h32 h5
    show Calls _ _ #[.agg #[.int .i64 4, .int .i64 x1, .int .i64 x2, .int .i64 x3, .int .i64 x4, .int .i64 x5], .int .i64 s] _ _
    go_enter Try.func100, Try.ntmps100
    go_wp2
    refine bodyPost_ret (v := .agg #[.int .i64 4, .int .i64 (s - x1 - x2), .int .i64 x2, .int .i64 x3, .int .i64 x4, .int .i64 (-x5)]) (by simp [results, Try.results100, go_sem]) rfl ⟨rfl, ?_⟩
    repeat (first | exact Below.refl _ _ | refine Below.alloc ?_ (by simp; try omega) _ | refine Below.setCell ?_ (by simp; try omega) _)
  · exact absurd h h5

set_option maxRecDepth 100000 in
set_option maxHeartbeats 4000000 in
theorem specMv (xs : List V) (v : Value) (B : Nat) (w : World) (ha : Ops w B v xs) (hB : B ≤ w.heap.size) (hq : Small xs) :
    Calls Try.prog 51 #[v] w fun e w' => ∃ v', e = .returned (.tuple #[v', .int .i64 (mvC xs)]) ∧ OOwn w' w.heap.size w'.heap.size v' (mvW xs) ∧ Below w.heap.size w w' := by
  have hn := hq.len
  cases hok : okE xs with
  | false =>
    have HCt := hid (specCnt' false xs hok.symm v B w ha hB hq)
    obtain ⟨h1, h2⟩ := mv_bad hok
    rw [h1, h2]
    obtain ⟨ao, cap, rfl⟩ := ops_val ha
    clear ha hok h1 h2 hq
    generalize xs.length = n at *
    go_enter Try.func51, Try.ntmps51
    go_wp2_with fail
    refine HCt.out.mono ?_
    rintro e w1 ⟨z, rfl, hz, b1⟩
    have HB1 := hid b1
    clear b1 hz HCt
    go_wp2
    try go_ret2
    exact ⟨_, rfl, (ROwn.nil _ _).oown, HB1.out⟩
  | true =>
    have HCt := hid (specCnt' true xs hok.symm v B w ha hB hq)
    have HSp := hid (fun k h1 h2 => mv_sp hok k h1 h2)
    have HOk := hid (fun h => mv_ok hok h)
    have HGo := hid (fun k h => st_go hok k h)
    have HRg := hid (fun k => stG_range (xs := xs) k)
    have HNx : Hid (∀ k, mrL xs (k + 1) = mrL xs k ++ [mrV (stG xs k) (xs.getD k oz)]) := hid (fun k => rfl)
    have HLn := hid (fun k => mrL_len xs k)
    have hs0 : stG xs 0 = 0 := rfl
    have HS0 := hid hs0
    obtain ⟨C, hC⟩ : ∃ C, C = mvC xs := ⟨_, rfl⟩
    obtain ⟨R, hR⟩ : ∃ R, R = mvW xs := ⟨_, rfl⟩
    rw [← hC, ← hR] at HSp HOk ⊢
    clear hC hR hok hs0
    rcases ha with ⟨rfl, ao, cap, rfl, hao⟩ | ⟨hp, b, off, cap, rfl, hbb, hc⟩
    · obtain ⟨rfl, rfl⟩ := HOk.out (fun k h => by simp at h)
      go_enter Try.func51, Try.ntmps51
      go_wp2_with fail
      refine HCt.out.mono ?_
      rintro e w1 ⟨z, rfl, hz, b1⟩
      have HB1 := hid b1
      clear b1 hz HCt
      go_wp2
      refine wp_loop_rounds 1 ?_
      rw [rounds_succ]
      go_wp2
      try go_ret2
      exact ⟨_, rfl, ((ROwn.built w1 _ rfl).lo HB1.out.size).oown, HB1.out.alloc HB1.out.size _⟩
    · obtain ⟨n, hnn⟩ : ∃ n, n = xs.length := ⟨_, rfl⟩
      rw [← hnn] at hp hc hn HSp HOk HGo HCt ⊢
      have HC := hid hc
      clear hnn hc hq
      go_enter Try.func51, Try.ntmps51
      go_wp2_with fail
      refine HCt.out.mono ?_
      rintro e w1 ⟨z, rfl, hz, b1⟩
      have HB1 := hid b1
      have hz1 := b1.size
      clear b1 hz HCt
      have HO0 := hid ((ROwn.built w1 _ rfl).lo hz1)
      have HB0 := hid (HB1.out.alloc hz1 (.cells #[] 97))
      go_wp2
      go_loopw [6, 7, 8] (fun v s i wr => ∃ k : Nat, k ≤ n ∧ i = .int .i64 k ∧ s = .int .i64 (stG xs k) ∧ (∀ j, j < k → (xs.getD j oz).a0 ≠ 5) ∧ ROwn wr w.heap.size wr.heap.size v (mrL xs k) ∧ Below w.heap.size w wr)
        (fun _ _ i _ => n - (intOf i).toNat)
      case atStart => exact ⟨0, Nat.zero_le _, rfl, by rw [HS0.out], fun j hj => by omega, HO0.out, HB0.out⟩
      case round =>
        obtain ⟨k, hk, rfl, rfl, hall, hown, hbel⟩ := hrel
        have HO := hid hown
        have HB := hid hbel
        have HAll := hid hall
        have hsz := hbel.size
        clear hown hbel hall HO0 HB0
        have hsr := HRg.out k
        by_cases hlt : k < n
        · have HA := (HC.out k hlt).below HB.out
          have HX := hid (HNx.out k)
          have hl : (mrL xs k).length ≤ 1048576 := by rw [HLn.out]; omega
          obtain ⟨hev, hnx⟩ := HGo.out k hlt
          have HSp1 := hid (fun h => HSp.out k hlt h)
          have HAl2 : Hid ((xs.getD k oz).a0 ≠ 5 → ∀ j, j < k + 1 → (xs.getD j oz).a0 ≠ 5) := hid (fun h j hj => by
            rcases Nat.lt_or_ge j k with h' | h'
            · exact HAll.out j h'
            · obtain rfl : j = k := by omega
              exact h)
          obtain ⟨l2, hl2⟩ : ∃ l, l = mrL xs (k + 1) := ⟨_, rfl⟩
          obtain ⟨s2, hs2⟩ : ∃ l, l = stG xs (k + 1) := ⟨_, rfl⟩
          rw [← hl2] at HX
          rw [← hs2] at hnx
          have HL2 := hid hl2
          have HS2 := hid hs2
          clear hl2 hs2
          generalize mrL xs k = l at *
          generalize stG xs k = s at *
          generalize xs.getD k oz = x at *
          have HMr := hid (fun h5 W => specMr s x W hev h5 hsr)
          have HEv : Hid (∀ p W, At W p 0 x → Calls Try.prog 87 #[.pointer (some ⟨p, 0, none⟩), .int .i64 s] W fun e w' => e = .returned (.tuple #[.int .i64 s2, .bool true]) ∧ Below W.heap.size W w') := hid (fun p W h => (specV x s p 0 W h hsr.1 (by omega)).mono fun e w' hh => by
            obtain ⟨z, rfl, hz, b⟩ := hh
            rw [hev] at hz ⊢
            exact ⟨by rw [hz rfl, hnx], b⟩)
          have HN6 := hid (at_new x 97 wr)
          have HNe := hid hnx
          obtain ⟨y, hy⟩ : ∃ y, y = mrV s x := ⟨_, rfl⟩
          rw [← hy] at HMr HX
          clear hev hnx hy HNe
          obtain ⟨x0, x1, x2, x3, x4, x5⟩ := x
          obtain ⟨y0, y1, y2, y3, y4, y5⟩ := y
          simp only [V.val] at HMr
          simp only at HN6 HSp1 HAl2
          have hbE := (Below.refl wr.heap.size wr).alloc (Nat.le_refl _) (.cells #[.int .i64 x0, .int .i64 x1, .int .i64 x2, .int .i64 x3, .int .i64 x4, .int .i64 x5] 97)
          have HBE := hid (HB.out.trans (hbE.mono HB.out.size))
          have HOE := hid (HO.out.below hbE)
          have hszE : wr.heap.size < (wr.alloc (.cells #[.int .i64 x0, .int .i64 x1, .int .i64 x2, .int .i64 x3, .int .i64 x4, .int .i64 x5] 97)).heap.size := by simp
          have c0 := HA.c0
          have c1 := HA.c1
          have c2 := HA.c2
          have c3 := HA.c3
          have c4 := HA.c4
          have c5 := HA.c5
          simp only at c0 c1 c2 c3 c4 c5
          have d0 := HN6.out.c0
          have d1 := HN6.out.c1
          have d2 := HN6.out.c2
          have d3 := HN6.out.c3
          have d4 := HN6.out.c4
          have d5 := HN6.out.c5
          simp only [Nat.zero_add] at d0 d1 d2 d3 d4 d5
          clear HA hbE
          by_cases h5 : x0 = 5
          · obtain ⟨rfl, rfl⟩ := HSp1.out h5
            subst h5
            go_wp2
            try go_ret2
            exact ⟨_, rfl, (ROwn.nil _ _).oown, HBE.out⟩
          · have h5b : (x0 == 5) = false := by simpa using h5
            have HMr2 := hid (fun W => HMr.out h5 W)
            have HAl3 := hid (HAl2.out h5)
            clear HMr HAl2 HSp1 h5
            go_wp2_with fail
            clear c0 c1 c2 c3 c4 c5 d0 d1 d2 d3 d4 d5
            generalize wr.alloc (.cells #[.int .i64 x0, .int .i64 x1, .int .i64 x2, .int .i64 x3, .int .i64 x4, .int .i64 x5] 97) = W0 at *
            refine (HMr2.out _).mono ?_
            rintro e w4 ⟨rfl, b4⟩
            have HN4 := hid (HN6.out.below b4)
            have HO4 := hid (HOE.out.below b4)
            have HB4 := hid (HBE.out.trans (b4.mono HBE.out.size))
            have hs4 : wr.heap.size < w4.heap.size := Nat.lt_of_lt_of_le hszE b4.size
            clear b4 HMr2 HN6 HOE HBE
            go_wp2_with (at_builtin; refine wp_append1 rfl _ _ rfl w.heap.size wr.heap.size _ l ⟨y0, y1, y2, y3, y4, y5⟩ HO4.out rfl rfl (by omega) hl ?_; intro v' w5 hown5 hchg5 hsz5; have HO5 := hid hown5; have HB5 := hid (HB4.out.trans (hchg5.below (Nat.le_refl _) (by omega))); have HN5 := hid (HN4.out.chg5 hchg5 (by omega)); clear hown5 hchg5)
            refine (HEv.out wr.heap.size w5 HN5.out).mono ?_
            rintro e w6 ⟨rfl, b6⟩
            have HO6 := hid ((HO5.out.below b6).hi (hi' := w6.heap.size) b6.size (Nat.le_refl _))
            have HB6 := hid (HB5.out.trans (b6.mono HB5.out.size))
            clear b6 HEv
            go_wp2
            go_roundw
            case rel => exact ⟨k + 1, by omega, by go_num, by rw [HS2.out], HAl3.out, by rw [← HL2.out, HX.out]; exact HO6.out, HB6.out⟩
            case measure => simp [intOf]; omega
        · obtain rfl : k = n := by omega
          obtain ⟨rfl, rfl⟩ := HOk.out HAll.out
          go_wp2
          try go_ret2
          exact ⟨_, rfl, HO.out.oown, HB.out⟩

set_option maxRecDepth 100000 in
set_option maxHeartbeats 4000000 in
theorem implMv (xs : List V) (v : Value) (B : Nat) (w : World) (ha : Ops w B v xs) (hB : B ≤ w.heap.size) (hq : Small xs) :
    Calls Try.prog 52 #[v] w fun e w' => ∃ v', e = .returned (.tuple #[v', .int .i64 (mvC xs)]) ∧ OOwn w' w.heap.size w'.heap.size v' (mvW xs) ∧ Below w.heap.size w w' := by
  have hn := hq.len
  obtain ⟨i0, hi, hz0, hz1, hz2⟩ := info_parts infoO
  have HCt := hid (implVal xs v B w ha hB hq)
  cases hok : okE xs with
  | false =>
    obtain ⟨h1, h2⟩ := mv_bad hok
    rw [h1, h2]
    rw [hok] at HCt
    obtain ⟨ao, cap, rfl⟩ := ops_val ha
    clear ha hok h1 h2 hq
    generalize xs.length = n at *
    go_enter Try.func52, Try.ntmps52
    go_wp2_with fail
    refine HCt.out.mono ?_
    rintro e w1 ⟨rfl, b1⟩
    have HB1 := hid b1
    clear b1 HCt
    go_wp2
    try go_ret2
    exact ⟨_, rfl, (ROwn.nil _ _).oown, HB1.out⟩
  | true =>
    rw [hok] at HCt
    have HSp := hid (fun k h1 h2 => mv_sp hok k h1 h2)
    have HOk := hid (fun h => mv_ok hok h)
    have HGo := hid (fun k h => st_go hok k h)
    have hln : xs.length ≤ 2000 := by
      simp only [okE, Bool.and_eq_true, decide_eq_true_eq] at hok
      exact hok.2
    have HRg := hid (fun k => stG_range (xs := xs) k)
    have HNx : Hid (∀ k, mrL xs (k + 1) = mrL xs k ++ [mrV (stG xs k) (xs.getD k oz)]) := hid (fun k => rfl)
    have HLn := hid (fun k => mrL_len xs k)
    have hs0 : stG xs 0 = 0 := rfl
    have HS0 := hid hs0
    obtain ⟨C, hC⟩ : ∃ C, C = mvC xs := ⟨_, rfl⟩
    obtain ⟨R, hR⟩ : ∃ R, R = mvW xs := ⟨_, rfl⟩
    rw [← hC, ← hR] at HSp HOk ⊢
    clear hC hR hok hs0
    rcases ha with ⟨rfl, ao, cap, rfl, hao⟩ | ⟨hp, b, off, cap, rfl, hbb, hc⟩
    · obtain ⟨rfl, rfl⟩ := HOk.out (fun k h => by simp at h)
      go_enter Try.func52, Try.ntmps52
      go_wp2_with fail
      refine HCt.out.mono ?_
      rintro e w1 ⟨rfl, b1⟩
      have HB1 := hid b1
      have hz1' := b1.size
      clear b1 HCt
      go_wp2_with (at_make; refine wpList_make_own _ rfl _ _ 55 rfl w1.heap.size 97 i0 _ 6 Try.underlying55 hi hz0 hz1 .i64 .i64 _ 0 rfl rfl (by first | rfl | omega) (by rw [hz2]; omega) (by unfold maxLen; omega) (Nat.le_refl _) ?_; intro w2 hown2 hgrow2; have HO2 : Hid (ROwn w2 w.heap.size w2.heap.size (.slice (some ⟨w1.heap.size, 0, none⟩) 0 0) []) := hid ((ROwn.mk' (xs := []) (by rw [cellsL_nil]; exact hown2)).lo (by omega)); have b2 := (Below.refl w1.heap.size w1).grown hgrow2 (by omega) (fun k hk => by cases hk); have HB2 := hid (HB1.out.trans (b2.mono HB1.out.size)); have hs2 : w.heap.size ≤ w2.heap.size := Nat.le_trans hz1' b2.size; clear hown2 hgrow2 b2)
      refine wp_loop_rounds 1 ?_
      rw [rounds_succ]
      go_wp2
      try go_ret2
      have hoo := ((HO2.out.below ((Below.refl _ _).alloc (Nat.le_refl _) (.cells #[.int .i64 0, .int .i64 0] 102))).hi (hi' := (w2.alloc (.cells #[.int .i64 0, .int .i64 0] 102)).heap.size) (by simp) (Nat.le_refl _)).oown
      exact ⟨_, rfl, hoo, HB2.out.alloc hs2 _⟩
    · obtain ⟨n, hnn⟩ : ∃ n, n = xs.length := ⟨_, rfl⟩
      rw [← hnn] at hp hc hn HSp HOk HGo HCt hln ⊢
      have HC := hid hc
      clear hnn hc hq
      go_enter Try.func52, Try.ntmps52
      go_wp2_with fail
      refine HCt.out.mono ?_
      rintro e w1 ⟨rfl, b1⟩
      have HB1 := hid b1
      have hz1' := b1.size
      clear b1 HCt
      go_wp2_with (at_make; refine wpList_make_own _ rfl _ _ 55 rfl w1.heap.size 97 i0 _ 6 Try.underlying55 hi hz0 hz1 .i64 .i64 _ n rfl rfl (by first | rfl | omega) (by rw [hz2]; omega) (by unfold maxLen; omega) (Nat.le_refl _) ?_; intro w2 hown2 hgrow2; have HO2 : Hid (ROwn w2 w.heap.size w2.heap.size (.slice (some ⟨w1.heap.size, 0, none⟩) 0 n) []) := hid ((ROwn.mk' (xs := []) (by rw [cellsL_nil]; exact hown2)).lo (by omega)); have b2 := (Below.refl w1.heap.size w1).grown hgrow2 (by omega) (fun k hk => by cases hk); have HB2 := hid (HB1.out.trans (b2.mono HB1.out.size)); have hs2 : w.heap.size ≤ w2.heap.size := Nat.le_trans hz1' b2.size; clear hown2 hgrow2 b2)
      have hbS := (Below.refl w2.heap.size w2).alloc (Nat.le_refl _) (.cells #[.int .i64 0, .int .i64 0] 102)
      have HOS := hid (HO2.out.below hbS)
      have HSS := hid (sz_new 0 0 w2)
      have HBS := hid (HB2.out.trans (hbS.mono hs2))
      clear hbS HO2 HB2
      have hnp : (Value.slice (some ⟨w1.heap.size, 0, none⟩) 0 n).ownBlock ≠ some w2.heap.size := fun e => by
        have := HOS.out.2.1 w1.heap.size rfl
        simp only [Value.ownBlock, Option.some.injEq] at e
        omega
      have HNP := hid hnp
      have HOS2 : Hid (ROwn (w2.alloc (.cells #[.int .i64 0, .int .i64 0] 102)) w.heap.size (w2.alloc (.cells #[.int .i64 0, .int .i64 0] 102)).heap.size (.slice (some ⟨w1.heap.size, 0, none⟩) 0 n) []) := hid (HOS.out.hi (by simp) (Nat.le_refl _))
      clear hnp HOS
      go_loopw [4, 17] (fun v i wr => ∃ k : Nat, k ≤ n ∧ i = .int .i64 k ∧ (∀ j, j < k → (xs.getD j oz).a0 ≠ 5) ∧ Sz wr w2.heap.size k (stG xs k) ∧ v.ownBlock ≠ some w2.heap.size ∧ ROwn wr w.heap.size wr.heap.size v (mrL xs k) ∧ Below w.heap.size w wr)
        (fun _ i _ => n - (intOf i).toNat)
      case atStart => exact ⟨0, Nat.zero_le _, rfl, fun j hj => by omega, HSS.out, HNP.out, HOS2.out, HBS.out⟩
      case round =>
        obtain ⟨k, hk, rfl, hall, hss, hne, hown, hbel⟩ := hrel
        have HO := hid hown
        have HB := hid hbel
        have HAll := hid hall
        have HS := hid hss
        have HNe := hid hne
        have hsz := hbel.size
        clear hown hbel hall hss hne HOS2 HBS HSS HNP
        have hsr := HRg.out k
        by_cases hlt : k < n
        · have HA := (HC.out k hlt).below HB.out
          have HX := hid (HNx.out k)
          have hl : (mrL xs k).length ≤ 1048576 := by rw [HLn.out]; omega
          obtain ⟨hev, hnx⟩ := HGo.out k hlt
          have HSp1 := hid (fun h => HSp.out k hlt h)
          have HAl2 : Hid ((xs.getD k oz).a0 ≠ 5 → ∀ j, j < k + 1 → (xs.getD j oz).a0 ≠ 5) := hid (fun h j hj => by
            rcases Nat.lt_or_ge j k with h' | h'
            · exact HAll.out j h'
            · obtain rfl : j = k := by omega
              exact h)
          obtain ⟨l2, hl2⟩ : ∃ l, l = mrL xs (k + 1) := ⟨_, rfl⟩
          obtain ⟨s2, hs2'⟩ : ∃ l, l = stG xs (k + 1) := ⟨_, rfl⟩
          rw [← hl2] at HX
          rw [← hs2'] at hnx
          have HL2 := hid hl2
          have HS2 := hid hs2'
          clear hl2 hs2'
          generalize mrL xs k = l at *
          generalize stG xs k = s at *
          generalize xs.getD k oz = x at *
          have HMr := hid (fun h5 W => implMr s x W hev h5 hsr)
          have HAf : Hid (∀ W, Calls Try.prog 102 #[.agg #[.int .i64 (k : Int), .int .i64 s], x.val] W fun e w' => e = .returned (.agg #[.int .i64 ((k : Int) + 1), .int .i64 s2]) ∧ Below W.heap.size W w') := hid (fun W => by
            have := after (k : Int) s x W hev (by omega) hsr
            rw [hnx] at this
            exact this)
          have HN6 := hid (at_new x 97 wr)
          obtain ⟨y, hy⟩ : ∃ y, y = mrV s x := ⟨_, rfl⟩
          rw [← hy] at HMr HX
          clear hev hnx hy
          obtain ⟨x0, x1, x2, x3, x4, x5⟩ := x
          obtain ⟨y0, y1, y2, y3, y4, y5⟩ := y
          simp only [V.val] at HMr HAf
          simp only at HN6 HSp1 HAl2
          have hbE := (Below.refl wr.heap.size wr).alloc (Nat.le_refl _) (.cells #[.int .i64 x0, .int .i64 x1, .int .i64 x2, .int .i64 x3, .int .i64 x4, .int .i64 x5] 97)
          have HBE := hid (HB.out.trans (hbE.mono HB.out.size))
          have HOE := hid (HO.out.below hbE)
          have HSE := hid (HS.out.below hbE)
          have hszE : wr.heap.size < (wr.alloc (.cells #[.int .i64 x0, .int .i64 x1, .int .i64 x2, .int .i64 x3, .int .i64 x4, .int .i64 x5] 97)).heap.size := by simp
          have c0 := HA.c0
          have c1 := HA.c1
          have c2 := HA.c2
          have c3 := HA.c3
          have c4 := HA.c4
          have c5 := HA.c5
          simp only at c0 c1 c2 c3 c4 c5
          have d0 := HN6.out.c0
          have d1 := HN6.out.c1
          have d2 := HN6.out.c2
          have d3 := HN6.out.c3
          have d4 := HN6.out.c4
          have d5 := HN6.out.c5
          have z1 := HSE.out.c1
          have hplt := HS.out.lt
          simp only [Nat.zero_add] at d0 d1 d2 d3 d4 d5
          clear HA hbE
          by_cases h5 : x0 = 5
          · obtain ⟨rfl, rfl⟩ := HSp1.out h5
            subst h5
            go_wp2
            try go_ret2
            exact ⟨_, rfl, (ROwn.nil _ _).oown, HBE.out⟩
          · have h5b : (x0 == 5) = false := by simpa using h5
            have HMr2 := hid (fun W => HMr.out h5 W)
            have HAl3 := hid (HAl2.out h5)
            clear HMr HAl2 HSp1 h5
            go_wp2_with fail
            clear c0 c1 c2 c3 c4 c5 d0 d1 d2 d3 d4 d5 z1
            generalize wr.alloc (.cells #[.int .i64 x0, .int .i64 x1, .int .i64 x2, .int .i64 x3, .int .i64 x4, .int .i64 x5] 97) = W0 at *
            refine (HMr2.out _).mono ?_
            rintro e w4 ⟨rfl, b4⟩
            have HN4 := hid (HN6.out.below b4)
            have HO4 := hid (HOE.out.below b4)
            have HS4 := hid (HSE.out.below b4)
            have HB4 := hid (HBE.out.trans (b4.mono HBE.out.size))
            have hs4 : wr.heap.size < w4.heap.size := Nat.lt_of_lt_of_le hszE b4.size
            clear b4 HMr2 HN6 HOE HBE HSE
            go_wp2_with (at_builtin; refine wp_append1G rfl _ _ rfl w.heap.size wr.heap.size _ l ⟨y0, y1, y2, y3, y4, y5⟩ HO4.out rfl rfl (by omega) hl ?_; intro v' w5 hown5 hg5 hob5; have HO5 := hid hown5; have HB5 := hid (HB4.out.trans (grown_low hg5 HO4.out (by omega))); have hs5 : w4.heap.size < w5.heap.size := grown_size hg5; have HS5 := hid (HS4.out.grown5 hg5 HNe.out); have HN5 := hid (HN4.out.grown5 hg5 (fun e => by have := HO4.out.2.1 _ e; omega)); have HNe5 : Hid (v'.ownBlock ≠ some w2.heap.size) := hid (hob5.elim (fun h => by rw [h]; exact HNe.out) (fun h => by rw [h]; intro e; simp only [Option.some.injEq] at e; omega)); clear hown5 hg5 hob5; have z0 := HS5.out.c0; have z1 := HS5.out.c1; have d0 := HN5.out.c0; have d1 := HN5.out.c1; have d2 := HN5.out.c2; have d3 := HN5.out.c3; have d4 := HN5.out.c4; have d5 := HN5.out.c5; simp only [Nat.zero_add] at d0 d1 d2 d3 d4 d5)
            refine (HAf.out _).mono ?_
            rintro e w6 ⟨rfl, b6⟩
            have HO6 := hid ((HO5.out.below b6).hi (hi' := w6.heap.size) b6.size (Nat.le_refl _))
            have HS6 := hid (HS5.out.below b6)
            have HB6 := hid (HB5.out.trans (b6.mono HB5.out.size))
            clear b6 HAf z0 z1 d0 d1 d2 d3 d4 d5
            have z0 := HS6.out.c0
            have z1 := HS6.out.c1
            have f0 := HS6.out.f0
            have f1 := HS6.out.f1
            have HS7 := hid (HS6.out.set ((k : Int) + 1) s2)
            have HO7 := hid ((HO6.out.set_other HNe5.out 0 (.int .i64 ((k : Int) + 1))).set_other HNe5.out 1 (.int .i64 s2))
            have HB7 := hid ((HB6.out.setCell (p := ⟨w2.heap.size, 0, none⟩) hs2 (.int .i64 ((k : Int) + 1))).setCell (p := ⟨w2.heap.size, 1, none⟩) hs2 (.int .i64 s2))
            go_wp2
            go_roundw
            case rel => exact ⟨k + 1, by omega, by go_num, HAl3.out, by rw [← HS2.out]; exact HS7.out, HNe5.out, by rw [← HL2.out, HX.out]; simpa using HO7.out, HB7.out⟩
            case measure => simp [intOf]; omega
        · obtain rfl : k = n := by omega
          obtain ⟨rfl, rfl⟩ := HOk.out HAll.out
          go_wp2
          try go_ret2
          exact ⟨_, rfl, HO.out.oown, HB.out⟩
end Go.Proofs.Ytlhpipcmebmpdaa.ev
