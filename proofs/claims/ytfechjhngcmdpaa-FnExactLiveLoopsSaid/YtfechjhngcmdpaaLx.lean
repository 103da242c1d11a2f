/-
  liveLoops of the program.
-/
import Derived.Test.YtfechjhngcmdpaaLv
import Derived.Maps.AppendAt
import Derived.Laws.OwnMore
namespace Go.Proofs.Ytfechjhngcmdpaa.mc
open Go.RowKit Go.Sort Go.Proofs.Ytfechjhngcmdpaa.sl Go.Proofs.Ytfechjhngcmdpaa.br Go.Proofs.Ytfechjhngcmdpaa.fn Go.Proofs.Ytfechjhngcmdpaa.ss
set_option linter.unusedVariables false
set_option linter.unusedSimpArgs false
attribute [local go_sem] Oper.semAt_some

abbrev RowL (w : World) (n₀ : Nat) (v : Value) (xs : List Int) : Prop := w.ownsRow n₀ 2 1 v xs.length (xs.map (Value.int .i64))
theorem emN (x : Option Nat) : x = none ∨ x ≠ none := by cases x <;> simp

/-- append as one step of a region inside a round. -/
theorem stepIn_rows {F : Fence} {n : Nat} {ops : Array Oper} {o : Oper} {a : Act} {K : Act → World → Prop} {Q : Exit → Act → World → Prop} {E : Prop} {w : World} (hgd : o.guard = none) (s x : Operand)
    (hop : o.op = .call { callee := .builtin .append, args := #[s, x], argTypes := #[25, 25] })
    (lo : Nat) (v : Value) (xs : List Int) (ho : RowL w lo v xs) (hs : a.eval s = v) (u : Value) (ys : List Int) (C : Nat) (hu : Ints w C u ys) (hnil : NilOk u) (hx : a.eval x = u) (hlo : lo ≤ w.heap.size) (hn : xs.length + ys.length ≤ 1099511627776)
    (hK : ∀ v' w', RowL w' lo v' (xs ++ ys) → w.grownBy w' v.ownBlock → K (a.put o.dst v') w') : if Region.wanted o (yielded ops a.tmps) = true then Oper.wpIn F n Try.prog o a w K Q else E := by
  have hw : Region.wanted o (yielded ops a.tmps) = true := by simp [Region.wanted, hgd]
  rw [if_pos hw]
  obtain ⟨i0, hi', hz0, hz1, hz2⟩ := info_parts info64
  have hrun : ∃ v' w', (Builtin.append_ #[25, 25] o.type #[v, u]).run Try.prog w = .ok v' w' ∧ RowL w' lo v' (xs ++ ys) ∧ w.grownBy w' v.ownBlock := by
    have main : ∀ (ad : Addr) (cap : Nat), u = .slice (some ad) ys.length cap → (∀ j, j < ys.length → w.cell? (ad.add j) = some (.int .i64 (ys.getD j 0))) → ∃ v' w', (Builtin.append_ #[25, 25] o.type #[v, u]).run Try.prog w = .ok v' w' ∧ RowL w' lo v' (xs ++ ys) ∧ w.grownBy w' v.ownBlock := by
      intro ad cap hu' hc
      subst hu'
      obtain ⟨v', w', hr, h2, h3, h4, h5⟩ := run_append_own_at (P := Try.prog) w lo 25 o.type 2 i0 (.int .i64 0) 1 8 Try.underlying25 hi' hz0 hz1 hz2 rfl (by decide) v xs.length (xs.map (Value.int .i64)) ho ad ys.length cap (ys.map (Value.int .i64)) (by simp)
        (fun j q hj => by
          have hj' : j < ys.length := by
            have := (List.getElem?_eq_some_iff.1 hj).1
            simpa using this
          rw [hc j hj']
          simp only [List.getElem?_map, List.getElem?_eq_getElem hj', Option.map_some, Option.some.injEq] at hj
          rw [← hj]
          simp [List.getD, List.getElem?_eq_getElem hj'])
        (ints_oneCell _ _) (by unfold maxLen; omega) (by omega) hlo
      exact ⟨v', w', hr, by unfold RowL; rw [List.length_append, List.map_append]; exact h2, h3⟩
    rcases hu with ⟨rfl, ao, cap, rfl⟩ | ⟨hp, b, off, cap, hv, hb, hc⟩
    · cases ao with
      | none =>
        obtain ⟨_, rfl⟩ := hnil _ _ rfl
        exact ⟨v, w, run_append_owned_none (P := Try.prog) (w := w) lo 25 o.type 2 i0 1 Try.underlying25 hi' v xs.length _ ho, by rw [List.append_nil]; exact ho, ⟨rfl, rfl, rfl, Nat.le_refl _, fun _ _ _ => rfl⟩⟩
      | some ad => exact main ad cap rfl (fun j hj => by simp at hj)
    · exact main ⟨b, off, none⟩ cap hv (fun j hj => by rw [Addr.add_lit]; exact hc j hj)
  obtain ⟨v', w', hr, h2, h3⟩ := hrun
  unfold Oper.wpIn
  refine ⟨by simp [Oper.about, hop, resolve, Target.leads, Sem.run_pure], ?_⟩
  rw [Oper.semAt_plain F _ _ (by rw [hop]; intro c hc'; cases hc')]
  simp [execOp, hop, resolve, invoke, builtin, hs, hx, hr, Result.andThen]
  exact hK _ _ h2 h3

/-- Behind the append, and behind the store. -/
theorem appendedL {W w1 : World} {n₀ B : Nat} {v v' : Value} {xs zs : List Int} (hv : Boxed W B 25 v) (hrow : RowL W n₀ v xs) (hn₀ : n₀ ≤ W.heap.size) (hB : n₀ ≤ B) (hown' : RowL w1 n₀ v' zs) (hgrow : W.grownBy w1 v.ownBlock) :
    Boxed (w1.setCell ⟨B, 0, none⟩ v') B 25 v' ∧ RowL (w1.setCell ⟨B, 0, none⟩ v') n₀ v' zs ∧ KeepsOthers W (w1.setCell ⟨B, 0, none⟩ v') ∧ Below n₀ W (w1.setCell ⟨B, 0, none⟩ v') ∧
      ∀ (b : Nat) (t : TypeId) (u : Value), t ≠ 2 → b ≠ B → Boxed W b t u → Boxed (w1.setCell ⟨B, 0, none⟩ v') b t u := by
  have hte : (25 : TypeId) ≠ 2 := by decide
  have hv1 : Boxed w1 B 25 v := hv.kept hgrow (hv.not_row hte hrow)
  refine ⟨hv1.set v', World.ownsRow.kept hown' (grownBy_setCell' w1 B v') (.inr (hv1.not_row hte hown').symm), ?_, ?_, ?_⟩
  · refine (KeepsOthers.of_grownBy hgrow fun j o ej hj => ?_).trans (KeepsOthers.setCell _ _ _)
    rcases hrow.2 with ⟨rfl, _⟩ | ⟨g, cap, cur, rfl, _, hgb, _⟩
    · simp [Value.ownBlock] at ej
    · obtain rfl : g = j := by simpa [Value.ownBlock] using ej
      rw [hgb] at hj; cases hj; rfl
  · refine ((Below.refl n₀ W).grown hgrow hn₀ fun j ej => ?_).setCell (p := ⟨B, 0, none⟩) hB v'
    rcases hrow.2 with ⟨rfl, _⟩ | ⟨g, cap, cur, rfl, hb, _, _⟩
    · simp [Value.ownBlock] at ej
    · obtain rfl : g = j := by simpa [Value.ownBlock] using ej
      exact hb
  · intro b t u ht hb hu
    have h1 : Boxed w1 b t u := hu.kept hgrow (hu.not_row ht hrow)
    exact h1.kept (grownBy_setCell' w1 B v') (by simp; exact hb)

/-- The loops on a needle that is handed on; all of them. -/
def onQ (m : Mch) (q : Int × Nat) : List Int := onW m q.1 (q.2 : Int)
def liveQ (m : Mch) (qs : List (Int × Nat)) : List Int := (qs.map (onQ m)).flatten
def liveL (a p : Int) (m : Mch) : List Int := liveQ m (seqP a p (a + 6).toNat)
theorem liveQ_snoc (m : Mch) (qs : List (Int × Nat)) (q : Int × Nat) : liveQ m (qs ++ [q]) = liveQ m qs ++ onQ m q := by simp [liveQ]
theorem liveQ_len {a p : Int} {m : Mch} (h : OkM a p m) (qs : List (Int × Nat)) : (liveQ m qs).length ≤ 4 * qs.length := by
  induction qs with
  | nil => simp [liveQ]
  | cons q qs ih =>
    have := onW_len h q.1 (q.2 : Int)
    simp only [liveQ, List.map_cons, List.flatten_cons, List.length_append, List.length_cons, onQ] at ih ⊢
    omega
theorem liveL_len {a p : Int} {m : Mch} (h : OkM a p m) : (liveL a p m).length ≤ 400 := by
  have h1 := liveQ_len h (seqP a p (a + 6).toNat)
  have h2 := seqP_len a p (a + 6).toNat
  have := h.w
  unfold liveL
  omega

theorem needlesOrd (pb : Nat) (w : World) :
    Calls Try.prog 96 #[.pointer (some ⟨pb, 0, none⟩)] w fun e w' => e = .returned (.func (.func 108) #[] #[.pointer (some ⟨w.heap.size, 0, none⟩)]) ∧ w' = w.alloc (.cells #[.pointer (some ⟨pb, 0, none⟩)] 111) := by
  go_enter Try.func96, Try.ntmps96
  go_wp2
  go_ret
  exact ⟨rfl, rfl⟩

/-- What holds between two rounds. -/
def LiveI (w : World) (m : Mch) (a : Int) (pb : Nat) (pre : List (Nd a)) (W : World) : Prop :=
  (∃ v, Boxed W (w.heap.size + 1 + 1) 25 v ∧ W.ownsRow w.heap.size 2 1 v (liveQ m (pre.map (fun i => i.val))).length ((liveQ m (pre.map (fun i => i.val))).map (Value.int .i64)) ∧ True) ∧
    (Below w.heap.size w W ∧ (Boxed W w.heap.size 111 (.pointer (some ⟨pb, 0, none⟩)) ∧ Boxed W (w.heap.size + 1 + 1 + 1) 111 (.pointer (some ⟨pb, 0, none⟩))))
theorem ownFrom_boxed {β : Type} (B b : Nat) (t : TypeId) (v : Value) : OwnFrom B (fun (_ : β) W => Boxed W b t v) := fun _ X Y row hv hg hr => hv.kept hg (fun e' => by
  obtain ⟨_, o, ho, hc⟩ := hr b e'.symm
  rw [show X.heap[b]? = _ from hv] at ho; cases ho; cases hc)
def AxL (a : Int) (w : World) (pb : Nat) (x : Nd a) (act : Act) (W : World) : Prop :=
  ∃ q : Nat, act = { tmps := #[.pointer (some ⟨pb, 0, none⟩), .pointer (some ⟨w.heap.size, 0, none⟩), .slice none 0 0, .pointer (some ⟨w.heap.size + 1 + 1, 0, none⟩), .pointer (some ⟨q, 0, none⟩), .slice (some ⟨w.heap.size + 1, 0, none⟩) 0 0, .pointer (some ⟨pb, 0, none⟩), .func (.func 108) #[] #[.pointer (some ⟨w.heap.size + 1 + 1 + 1, 0, none⟩)], .agg #[.int .i64 x.val.1, .int .i64 (x.val.2 : Int)], undef, undef, undef, undef, undef, undef], defers := [] } ∧
    W.heap[q]? = some (.cells #[.int .i64 x.val.1, .int .i64 (x.val.2 : Int)] 31 (0, 0))
theorem ownFrom_ax {a : Int} (B : Nat) (w : World) (pb : Nat) (x : Nd a) (act : Act) : OwnFrom B (fun (_ : Unit) W => AxL a w pb x act W) := fun _ X Y row ⟨q, h1, h2⟩ hg hr => ⟨q, h1, (hg.block q (Array.getElem?_eq_some_iff.1 h2).1 (fun e' => by
  obtain ⟨_, o, ho, hc⟩ := hr q e'.symm
  rw [h2] at ho; cases ho; cases hc)).trans h2⟩

set_option maxRecDepth 100000 in
set_option maxHeartbeats 8000000 in
theorem liveC (pb : Nat) (a p : Int) (m : Mch) (f0 f1 f2 f3 f4 : Value) (B : Nat) (w : World) (ha : MInC w B f0 f1 f2 f3 f4 m) (hB : B ≤ w.heap.size) (hq : Small m) (hok : OkM a p m)
    (c0 : w.cell? ⟨pb, 0, none⟩ = some (.int .i64 a)) (c1 : w.cell? ⟨pb, 1, none⟩ = some (.int .i64 p)) (c2 : w.cell? ⟨pb, 2, none⟩ = some f0) (c3 : w.cell? ⟨pb, 3, none⟩ = some f1) :
    Calls Try.prog 63 #[.pointer (some ⟨pb, 0, none⟩)] w fun e w' => ∃ v, e = .returned v ∧ sl.Own w' w.heap.size w'.heap.size v (liveL a p m) ∧ Below w.heap.size w w' := by
  obtain ⟨N, hN⟩ : ∃ N : Nat, N = (a + 6).toNat := ⟨_, rfl⟩
  have hw := hok.w
  have hNi : (N : Int) = a + 6 := by omega
  have hpb : pb < w.heap.size := World.block_lt_of_cell? w _ c0
  refine (callsIn_wide (n := 3)).1 ?_
  have hro : Fence.wide.round = none := rfl
  refine callsIn_of_wp_marks Try.func63 rfl trivial ?_ hro
  simp only [Try.ntmps63, List.size_toArray, List.length_cons, List.length_nil, Nat.reduceAdd, Nat.reduceSub, Array.replicate_succ, Array.replicate_zero, List.push_toArray, List.append_toArray, List.nil_append, List.cons_append]
  gi_wp2_with (refine ⟨trivial, ?_⟩; gi_at_call 96; refine (callsIn_wide.2 (needlesOrd pb _)).mono ?_; rintro e w1 ⟨rfl, rfl⟩)
  have hS : ((((w.alloc (.cells #[.pointer (some ⟨pb, 0, none⟩)] 111)).alloc (.cells #[] 2)).alloc (.cells #[.slice (some ⟨w.heap.size + 1, 0, none⟩) 0 0] 25)).alloc (.cells #[.pointer (some ⟨pb, 0, none⟩)] 111)).heap.size = w.heap.size + 4 := by simp
  have hB1 : Below w.heap.size w ((((w.alloc (.cells #[.pointer (some ⟨pb, 0, none⟩)] 111)).alloc (.cells #[] 2)).alloc (.cells #[.slice (some ⟨w.heap.size + 1, 0, none⟩) 0 0] 25)).alloc (.cells #[.pointer (some ⟨pb, 0, none⟩)] 111)) := ((((Below.refl _ w).alloc (by simp) _).alloc (by simp) _).alloc (by simp; omega) _).alloc (by simp; omega) _
  have hI0 : LiveI w m a pb [] ((((w.alloc (.cells #[.pointer (some ⟨pb, 0, none⟩)] 111)).alloc (.cells #[] 2)).alloc (.cells #[.slice (some ⟨w.heap.size + 1, 0, none⟩) 0 0] 25)).alloc (.cells #[.pointer (some ⟨pb, 0, none⟩)] 111)) := by
    refine ⟨⟨.slice (some ⟨w.heap.size + 1, 0, none⟩) 0 0, ?_, ?_, trivial⟩, hB1, ?_, ?_⟩
    · exact (show Boxed _ (w.heap.size + 1 + 1) _ _ from by simpa using Boxed.new ((w.alloc (.cells #[.pointer (some ⟨pb, 0, none⟩)] 111)).alloc (.cells #[] 2)) 25 (.slice (some ⟨w.heap.size + 1, 0, none⟩) 0 0)).alloc _
    · have h0 := (Own.built (w.alloc (.cells #[.pointer (some ⟨pb, 0, none⟩)] 111)) #[] rfl).lo (lo' := w.heap.size) (by simp)
      have h1 := (h0.1.alloc (.cells #[.slice (some ⟨w.heap.size + 1, 0, none⟩) 0 0] 25)).alloc (.cells #[.pointer (some ⟨pb, 0, none⟩)] 111)
      simpa [liveQ] using h1
    · exact (((Boxed.new w _ _).alloc _).alloc _).alloc _
    · simpa using Boxed.new (((w.alloc (.cells #[.pointer (some ⟨pb, 0, none⟩)] 111)).alloc (.cells #[] 2)).alloc (.cells #[.slice (some ⟨w.heap.size + 1, 0, none⟩) 0 0] 25)) 111 (.pointer (some ⟨pb, 0, none⟩))
  generalize ((((w.alloc (.cells #[.pointer (some ⟨pb, 0, none⟩)] 111)).alloc (.cells #[] 2)).alloc (.cells #[.slice (some ⟨w.heap.size + 1, 0, none⟩) 0 0] 25)).alloc (.cells #[.pointer (some ⟨pb, 0, none⟩)] 111)) = W1 at *
  have d0 := (hB1.cell (p := ⟨pb, 0, none⟩) hpb).trans c0
  have d1 := (hB1.cell (p := ⟨pb, 1, none⟩) hpb).trans c1
  have dB := hI0.2.2.2.cell
  have hIown : OwnFrom W1.heap.size (LiveI w m a pb) := OwnFrom.and (Own.from (holdsRow_own w.heap.size (w.heap.size + 1 + 1) 25 2 1 (fun pre : List (Nd a) => (liveQ m (pre.map (fun i => i.val))).length) (fun pre => (liveQ m (pre.map (fun i => i.val))).map (Value.int .i64)) (fun _ _ => True)) _) (OwnFrom.and (ownFrom_below (Nat.le_refl _) (by omega)) (OwnFrom.and (ownFrom_boxed _ _ _ _) (ownFrom_boxed _ _ _ _)))
  refine wpIn_rangeFunc_ownH hro (by omega) (gf := 108) (lb := #[.pointer (some ⟨w.heap.size + 1 + 1 + 1, 0, none⟩)]) rfl trivial (enters_of Try.func108 (by kernel_rfl) rfl)
    (needles_stops (3 - 1) (by omega) a p hok.w hok.r N hNi W1 pb (w.heap.size + 1 + 1 + 1) w.heap.size hpb (by omega) (by omega) dB d0 d1)
    (fun h k => h.trans k) (kq_put (by omega) (by omega)) (Below.refl _ _) (fun _ => rfl)
    (LiveI w m a pb) (fun _ _ _ => False) hIown (fun _ _ _ _ _ hs _ _ => hs) hI0 (AxL a w pb) (fun x a' => ownFrom_ax _ w pb x a') ?assign ?body ?done ?stop
  case assign =>
    intro l pre x W K hI hK
    have hsz := hI.2.1.size
    have hbs := hI.2.2.2.lt
    simp only [encN]
    gi_wp2
    exact hK _ _ ((KeepsOthers.alloc W _).from _) (KQ.ofBelow ((Below.refl _ _).alloc (Nat.le_refl _) _) hsz hbs) (hIown.alloc _ hI) ⟨W.heap.size, rfl, World.alloc_heap_new W _⟩
  case body =>
    rintro l pre x a' W hl hr ⟨⟨v, hv, hrow, _⟩, hbl, hbt, hbs⟩ ⟨q, rfl, hq2⟩ hlen
    have hx := x.property
    have hj0 : x.val.2 < m.fr.length := by have := (stk_parts hok.fr).1; omega
    have hj1 : x.val.2 < m.bk.length := by have := (stk_parts hok.bk).1; omega
    have HLo := hid (fun (W : World) (h : Below w.heap.size w W) e2 e3 => loopsOnC pb m x.val.1 x.val.2 f0 f1 f2 f3 f4 B W (ha.below h) hq e2 e3 hx.1 hj0 hj1)
    have hlenA := liveQ_len hok (pre.map (fun i => i.val))
    have hlenC := onW_len hok x.val.1 (x.val.2 : Int)
    have hlenB : (liveQ m (pre.map (fun i => i.val))).length + (onW m x.val.1 (x.val.2 : Int)).length ≤ 1099511627776 := by rw [List.length_map] at hlenA; omega
    have HSn := hid (show liveQ m ((pre ++ [x]).map (fun i => i.val)) = liveQ m (pre.map (fun i => i.val)) ++ onW m x.val.1 (x.val.2 : Int) from by rw [List.map_append, List.map_cons, List.map_nil, liveQ_snoc]; rfl)
    have hn1 : w.heap.size ≤ W.drew.heap.size := hbl.size
    have hfin : ∀ (w1 : World) (v3 : Value) (w3 : World), Below W.drew.heap.size W.drew w1 → Boxed w1 (w.heap.size + 1 + 1) 25 v → RowL w1 w.heap.size v (liveQ m (pre.map (fun i => i.val))) → RowL w3 w.heap.size v3 (liveQ m (pre.map (fun i => i.val)) ++ onW m x.val.1 (x.val.2 : Int)) → w1.grownBy w3 v.ownBlock →
        KeepsFrom W1.heap.size W (w3.setCell ⟨w.heap.size + 1 + 1, 0, none⟩ v3) ∧ KQ w.heap.size (w.heap.size + 1 + 1 + 1) W (w3.setCell ⟨w.heap.size + 1 + 1, 0, none⟩ v3) ∧ LiveI w m a pb (pre ++ [x]) (w3.setCell ⟨w.heap.size + 1 + 1, 0, none⟩ v3) := by
      intro w1 v3 w3 b1 hv1 hr1 hr3 hg3
      have hdr : KeepsOthers W w1 := (KeepsOthers.drew W).trans (KeepsOthers.of_grownBy (grown_of b1) (fun j o e => by cases e))
      obtain ⟨q1, q2, q3, q4, q5⟩ := appendedL hv1 hr1 (Nat.le_trans hn1 b1.size) (by omega) hr3 hg3
      have hbt1 : Boxed w1 w.heap.size 111 (.pointer (some ⟨pb, 0, none⟩)) := Boxed.kept (W := W.drew) hbt (grown_of b1) (by simp)
      have hbs1 : Boxed w1 (w.heap.size + 1 + 1 + 1) 111 (.pointer (some ⟨pb, 0, none⟩)) := Boxed.kept (W := W.drew) hbs (grown_of b1) (by simp)
      have hbt2 := q5 w.heap.size _ _ (by decide) (by omega) hbt1
      have hbs2 := q5 (w.heap.size + 1 + 1 + 1) _ _ (by decide) (by omega) hbs1
      have bW : Below w.heap.size W w1 := (Below.refl w.heap.size W).drew.trans (b1.mono hn1)
      refine ⟨(hdr.trans q3).from _, ⟨bW.trans q4, hbs2.trans hbs.symm⟩, ⟨⟨v3, q1, ?_, trivial⟩, hbl.trans (bW.trans q4), hbt2, hbs2⟩⟩
      rw [HSn.out]
      exact q2
    have HBd : Hid (Below w.heap.size w W.drew) := hid hbl.drew
    have cL2 : W.drew.cell? ⟨pb, 2, none⟩ = some f0 := (HBd.out.cell (p := ⟨pb, 2, none⟩) hpb).trans c2
    have cL3 : W.drew.cell? ⟨pb, 3, none⟩ = some f1 := (HBd.out.cell (p := ⟨pb, 3, none⟩) hpb).trans c3
    have HVd : Hid (Boxed W.drew (w.heap.size + 1 + 1) 25 v) := hid hv
    have HRd : Hid (RowL W.drew w.heap.size v (liveQ m (pre.map (fun i => i.val)))) := hid hrow
    have cL : W.drew.cell? ⟨w.heap.size + 1 + 1, 0, none⟩ = some v := hv.cell
    have cS : W.drew.cell? ⟨w.heap.size, 0, none⟩ = some (.pointer (some ⟨pb, 0, none⟩)) := hbt.cell
    have cN0 : W.drew.cell? ⟨q, 0, none⟩ = some (.int .i64 x.val.1) := by show W.cell? _ = _; simp [World.cell?, hq2]
    have cN1 : W.drew.cell? ⟨q, 1, none⟩ = some (.int .i64 (x.val.2 : Int)) := by show W.cell? _ = _; simp [World.cell?, hq2]
    clear hv hrow hbl hbt hbs hq2 hlenA hlenC c0 c1 c2 c3 d0 d1 dB hI0 hIown hB1
    have hmix : Try.prog.follows .mixedOrders = true := by kernel_rfl
    gi_wp2_with fail
    refine wpIn_region_any hmix ?_
    change wpAnyIn _ _ _ _ _ _ _ _ _ (World.drew _)
    refine wpAnyIn_ready (rs := [0, 1, 2]) (by kernel_rfl) (by simp) ?_
    refine AllReadyIn.cons rfl (fun K hK => ?_) ?_
    · go_simp
      refine hK _ _ ?_
      clear hK K
      refine wpAnyIn_ready (rs := [1, 2]) (by kernel_rfl) (by simp) ?_
      refine AllReadyIn.cons rfl (fun K hK => ?_) ?_
      · go_simp
        refine hK _ _ ?_
        clear hK K
        refine wpAnyIn_ready (rs := [2]) (by kernel_rfl) (by simp) ?_
        refine AllReadyIn.cons rfl (fun K hK => ?_) ?_
        · go_simp
          refine hK _ _ ?_
          clear hK K
          refine wpAnyIn_ready (rs := [3]) (by kernel_rfl) (by simp) ?_
          refine AllReadyIn.cons rfl (fun K hK => ?_) ?_
          · go_simp
            gi_wp2_with (refine ⟨trivial, ?_⟩; gi_at_call 57; refine (CallsIn.inRound l (callsIn_wide.2 (HLo.out _ HBd.out cL2 cL3))).mono ?_; rintro e w1 ⟨u, rfl, iu, nu, b1⟩; have HIu := hid iu; have HNu := hid nu; have HV1 := hid (HVd.out.kept (grown_of b1) (by simp)); have HR1 := hid (HRd.out.kept (grown_of b1) (emN _)); have HB1 := hid b1; have cL := HV1.out.cell; clear iu nu b1)
            (try (refine hK _ _ ?_)); (try clear hK K)
            refine wpAnyIn_ready (rs := [4]) (by kernel_rfl) (by simp) ?_
            refine AllReadyIn.cons rfl (fun K hK => ?_) ?_
            · skip
              refine stepIn_rows rfl _ _ rfl _ _ _ HR1.out rfl u _ _ HIu.out HNu.out rfl (Nat.le_trans hn1 HB1.out.size) hlenB ?_
              intro v3 w3 hr3 hg3
              have HV3 := hid (HV1.out.kept hg3 (HV1.out.not_row (by decide) HR1.out))
              have HFin := hid (hfin w1 v3 w3 HB1.out HV1.out HR1.out hr3 hg3)
              obtain ⟨ao3, cap3, hv3⟩ := br.own_val (sl.Own.mk' hr3)
              clear hr3 hg3
              generalize (liveQ m (pre.map (fun i => i.val)) ++ onW m x.val.1 (x.val.2 : Int)).length = l3 at hv3
              subst hv3
              have cL3' := HV3.out.cell
              have fL3 := HV3.out.frozen
              refine hK _ _ ?_
              clear hK K
              refine wpAnyIn_ready (rs := [5]) (by kernel_rfl) (by simp) ?_
              refine AllReadyIn.cons rfl (fun K hK => ?_) ?_
              · go_simp
                refine hK _ _ ?_
                clear hK K
                refine wpAnyIn_done (by kernel_rfl) ?_ _
                exact HFin.out
              exact AllReadyIn.nil
            exact AllReadyIn.nil
          exact AllReadyIn.nil
        exact AllReadyIn.nil
      refine AllReadyIn.cons rfl (fun K hK => ?_) ?_
      · go_simp
        refine hK _ _ ?_
        clear hK K
        refine wpAnyIn_ready (rs := [1]) (by kernel_rfl) (by simp) ?_
        refine AllReadyIn.cons rfl (fun K hK => ?_) ?_
        · go_simp
          refine hK _ _ ?_
          clear hK K
          refine wpAnyIn_ready (rs := [3]) (by kernel_rfl) (by simp) ?_
          refine AllReadyIn.cons rfl (fun K hK => ?_) ?_
          · go_simp
            gi_wp2_with (refine ⟨trivial, ?_⟩; gi_at_call 57; refine (CallsIn.inRound l (callsIn_wide.2 (HLo.out _ HBd.out cL2 cL3))).mono ?_; rintro e w1 ⟨u, rfl, iu, nu, b1⟩; have HIu := hid iu; have HNu := hid nu; have HV1 := hid (HVd.out.kept (grown_of b1) (by simp)); have HR1 := hid (HRd.out.kept (grown_of b1) (emN _)); have HB1 := hid b1; have cL := HV1.out.cell; clear iu nu b1)
            (try (refine hK _ _ ?_)); (try clear hK K)
            refine wpAnyIn_ready (rs := [4]) (by kernel_rfl) (by simp) ?_
            refine AllReadyIn.cons rfl (fun K hK => ?_) ?_
            · skip
              refine stepIn_rows rfl _ _ rfl _ _ _ HR1.out rfl u _ _ HIu.out HNu.out rfl (Nat.le_trans hn1 HB1.out.size) hlenB ?_
              intro v3 w3 hr3 hg3
              have HV3 := hid (HV1.out.kept hg3 (HV1.out.not_row (by decide) HR1.out))
              have HFin := hid (hfin w1 v3 w3 HB1.out HV1.out HR1.out hr3 hg3)
              obtain ⟨ao3, cap3, hv3⟩ := br.own_val (sl.Own.mk' hr3)
              clear hr3 hg3
              generalize (liveQ m (pre.map (fun i => i.val)) ++ onW m x.val.1 (x.val.2 : Int)).length = l3 at hv3
              subst hv3
              have cL3' := HV3.out.cell
              have fL3 := HV3.out.frozen
              refine hK _ _ ?_
              clear hK K
              refine wpAnyIn_ready (rs := [5]) (by kernel_rfl) (by simp) ?_
              refine AllReadyIn.cons rfl (fun K hK => ?_) ?_
              · go_simp
                refine hK _ _ ?_
                clear hK K
                refine wpAnyIn_done (by kernel_rfl) ?_ _
                exact HFin.out
              exact AllReadyIn.nil
            exact AllReadyIn.nil
          exact AllReadyIn.nil
        exact AllReadyIn.nil
      exact AllReadyIn.nil
    refine AllReadyIn.cons rfl (fun K hK => ?_) ?_
    · go_simp
      refine hK _ _ ?_
      clear hK K
      refine wpAnyIn_ready (rs := [0, 2]) (by kernel_rfl) (by simp) ?_
      refine AllReadyIn.cons rfl (fun K hK => ?_) ?_
      · go_simp
        refine hK _ _ ?_
        clear hK K
        refine wpAnyIn_ready (rs := [2]) (by kernel_rfl) (by simp) ?_
        refine AllReadyIn.cons rfl (fun K hK => ?_) ?_
        · go_simp
          refine hK _ _ ?_
          clear hK K
          refine wpAnyIn_ready (rs := [3]) (by kernel_rfl) (by simp) ?_
          refine AllReadyIn.cons rfl (fun K hK => ?_) ?_
          · go_simp
            gi_wp2_with (refine ⟨trivial, ?_⟩; gi_at_call 57; refine (CallsIn.inRound l (callsIn_wide.2 (HLo.out _ HBd.out cL2 cL3))).mono ?_; rintro e w1 ⟨u, rfl, iu, nu, b1⟩; have HIu := hid iu; have HNu := hid nu; have HV1 := hid (HVd.out.kept (grown_of b1) (by simp)); have HR1 := hid (HRd.out.kept (grown_of b1) (emN _)); have HB1 := hid b1; have cL := HV1.out.cell; clear iu nu b1)
            (try (refine hK _ _ ?_)); (try clear hK K)
            refine wpAnyIn_ready (rs := [4]) (by kernel_rfl) (by simp) ?_
            refine AllReadyIn.cons rfl (fun K hK => ?_) ?_
            · skip
              refine stepIn_rows rfl _ _ rfl _ _ _ HR1.out rfl u _ _ HIu.out HNu.out rfl (Nat.le_trans hn1 HB1.out.size) hlenB ?_
              intro v3 w3 hr3 hg3
              have HV3 := hid (HV1.out.kept hg3 (HV1.out.not_row (by decide) HR1.out))
              have HFin := hid (hfin w1 v3 w3 HB1.out HV1.out HR1.out hr3 hg3)
              obtain ⟨ao3, cap3, hv3⟩ := br.own_val (sl.Own.mk' hr3)
              clear hr3 hg3
              generalize (liveQ m (pre.map (fun i => i.val)) ++ onW m x.val.1 (x.val.2 : Int)).length = l3 at hv3
              subst hv3
              have cL3' := HV3.out.cell
              have fL3 := HV3.out.frozen
              refine hK _ _ ?_
              clear hK K
              refine wpAnyIn_ready (rs := [5]) (by kernel_rfl) (by simp) ?_
              refine AllReadyIn.cons rfl (fun K hK => ?_) ?_
              · go_simp
                refine hK _ _ ?_
                clear hK K
                refine wpAnyIn_done (by kernel_rfl) ?_ _
                exact HFin.out
              exact AllReadyIn.nil
            exact AllReadyIn.nil
          exact AllReadyIn.nil
        exact AllReadyIn.nil
      refine AllReadyIn.cons rfl (fun K hK => ?_) ?_
      · go_simp
        refine hK _ _ ?_
        clear hK K
        refine wpAnyIn_ready (rs := [0, 3]) (by kernel_rfl) (by simp) ?_
        refine AllReadyIn.cons rfl (fun K hK => ?_) ?_
        · go_simp
          refine hK _ _ ?_
          clear hK K
          refine wpAnyIn_ready (rs := [3]) (by kernel_rfl) (by simp) ?_
          refine AllReadyIn.cons rfl (fun K hK => ?_) ?_
          · go_simp
            gi_wp2_with (refine ⟨trivial, ?_⟩; gi_at_call 57; refine (CallsIn.inRound l (callsIn_wide.2 (HLo.out _ HBd.out cL2 cL3))).mono ?_; rintro e w1 ⟨u, rfl, iu, nu, b1⟩; have HIu := hid iu; have HNu := hid nu; have HV1 := hid (HVd.out.kept (grown_of b1) (by simp)); have HR1 := hid (HRd.out.kept (grown_of b1) (emN _)); have HB1 := hid b1; have cL := HV1.out.cell; clear iu nu b1)
            (try (refine hK _ _ ?_)); (try clear hK K)
            refine wpAnyIn_ready (rs := [4]) (by kernel_rfl) (by simp) ?_
            refine AllReadyIn.cons rfl (fun K hK => ?_) ?_
            · skip
              refine stepIn_rows rfl _ _ rfl _ _ _ HR1.out rfl u _ _ HIu.out HNu.out rfl (Nat.le_trans hn1 HB1.out.size) hlenB ?_
              intro v3 w3 hr3 hg3
              have HV3 := hid (HV1.out.kept hg3 (HV1.out.not_row (by decide) HR1.out))
              have HFin := hid (hfin w1 v3 w3 HB1.out HV1.out HR1.out hr3 hg3)
              obtain ⟨ao3, cap3, hv3⟩ := br.own_val (sl.Own.mk' hr3)
              clear hr3 hg3
              generalize (liveQ m (pre.map (fun i => i.val)) ++ onW m x.val.1 (x.val.2 : Int)).length = l3 at hv3
              subst hv3
              have cL3' := HV3.out.cell
              have fL3 := HV3.out.frozen
              refine hK _ _ ?_
              clear hK K
              refine wpAnyIn_ready (rs := [5]) (by kernel_rfl) (by simp) ?_
              refine AllReadyIn.cons rfl (fun K hK => ?_) ?_
              · go_simp
                refine hK _ _ ?_
                clear hK K
                refine wpAnyIn_done (by kernel_rfl) ?_ _
                exact HFin.out
              exact AllReadyIn.nil
            exact AllReadyIn.nil
          exact AllReadyIn.nil
        refine AllReadyIn.cons rfl (fun K hK => ?_) ?_
        · go_simp
          gi_wp2_with (refine ⟨trivial, ?_⟩; gi_at_call 57; refine (CallsIn.inRound l (callsIn_wide.2 (HLo.out _ HBd.out cL2 cL3))).mono ?_; rintro e w1 ⟨u, rfl, iu, nu, b1⟩; have HIu := hid iu; have HNu := hid nu; have HV1 := hid (HVd.out.kept (grown_of b1) (by simp)); have HR1 := hid (HRd.out.kept (grown_of b1) (emN _)); have HB1 := hid b1; have cL := HV1.out.cell; clear iu nu b1)
          (try (refine hK _ _ ?_)); (try clear hK K)
          refine wpAnyIn_ready (rs := [0]) (by kernel_rfl) (by simp) ?_
          refine AllReadyIn.cons rfl (fun K hK => ?_) ?_
          · go_simp
            refine hK _ _ ?_
            clear hK K
            refine wpAnyIn_ready (rs := [4]) (by kernel_rfl) (by simp) ?_
            refine AllReadyIn.cons rfl (fun K hK => ?_) ?_
            · skip
              refine stepIn_rows rfl _ _ rfl _ _ _ HR1.out rfl u _ _ HIu.out HNu.out rfl (Nat.le_trans hn1 HB1.out.size) hlenB ?_
              intro v3 w3 hr3 hg3
              have HV3 := hid (HV1.out.kept hg3 (HV1.out.not_row (by decide) HR1.out))
              have HFin := hid (hfin w1 v3 w3 HB1.out HV1.out HR1.out hr3 hg3)
              obtain ⟨ao3, cap3, hv3⟩ := br.own_val (sl.Own.mk' hr3)
              clear hr3 hg3
              generalize (liveQ m (pre.map (fun i => i.val)) ++ onW m x.val.1 (x.val.2 : Int)).length = l3 at hv3
              subst hv3
              have cL3' := HV3.out.cell
              have fL3 := HV3.out.frozen
              refine hK _ _ ?_
              clear hK K
              refine wpAnyIn_ready (rs := [5]) (by kernel_rfl) (by simp) ?_
              refine AllReadyIn.cons rfl (fun K hK => ?_) ?_
              · go_simp
                refine hK _ _ ?_
                clear hK K
                refine wpAnyIn_done (by kernel_rfl) ?_ _
                exact HFin.out
              exact AllReadyIn.nil
            exact AllReadyIn.nil
          exact AllReadyIn.nil
        exact AllReadyIn.nil
      exact AllReadyIn.nil
    refine AllReadyIn.cons rfl (fun K hK => ?_) ?_
    · go_simp
      refine hK _ _ ?_
      clear hK K
      refine wpAnyIn_ready (rs := [0, 1]) (by kernel_rfl) (by simp) ?_
      refine AllReadyIn.cons rfl (fun K hK => ?_) ?_
      · go_simp
        refine hK _ _ ?_
        clear hK K
        refine wpAnyIn_ready (rs := [1]) (by kernel_rfl) (by simp) ?_
        refine AllReadyIn.cons rfl (fun K hK => ?_) ?_
        · go_simp
          refine hK _ _ ?_
          clear hK K
          refine wpAnyIn_ready (rs := [3]) (by kernel_rfl) (by simp) ?_
          refine AllReadyIn.cons rfl (fun K hK => ?_) ?_
          · go_simp
            gi_wp2_with (refine ⟨trivial, ?_⟩; gi_at_call 57; refine (CallsIn.inRound l (callsIn_wide.2 (HLo.out _ HBd.out cL2 cL3))).mono ?_; rintro e w1 ⟨u, rfl, iu, nu, b1⟩; have HIu := hid iu; have HNu := hid nu; have HV1 := hid (HVd.out.kept (grown_of b1) (by simp)); have HR1 := hid (HRd.out.kept (grown_of b1) (emN _)); have HB1 := hid b1; have cL := HV1.out.cell; clear iu nu b1)
            (try (refine hK _ _ ?_)); (try clear hK K)
            refine wpAnyIn_ready (rs := [4]) (by kernel_rfl) (by simp) ?_
            refine AllReadyIn.cons rfl (fun K hK => ?_) ?_
            · skip
              refine stepIn_rows rfl _ _ rfl _ _ _ HR1.out rfl u _ _ HIu.out HNu.out rfl (Nat.le_trans hn1 HB1.out.size) hlenB ?_
              intro v3 w3 hr3 hg3
              have HV3 := hid (HV1.out.kept hg3 (HV1.out.not_row (by decide) HR1.out))
              have HFin := hid (hfin w1 v3 w3 HB1.out HV1.out HR1.out hr3 hg3)
              obtain ⟨ao3, cap3, hv3⟩ := br.own_val (sl.Own.mk' hr3)
              clear hr3 hg3
              generalize (liveQ m (pre.map (fun i => i.val)) ++ onW m x.val.1 (x.val.2 : Int)).length = l3 at hv3
              subst hv3
              have cL3' := HV3.out.cell
              have fL3 := HV3.out.frozen
              refine hK _ _ ?_
              clear hK K
              refine wpAnyIn_ready (rs := [5]) (by kernel_rfl) (by simp) ?_
              refine AllReadyIn.cons rfl (fun K hK => ?_) ?_
              · go_simp
                refine hK _ _ ?_
                clear hK K
                refine wpAnyIn_done (by kernel_rfl) ?_ _
                exact HFin.out
              exact AllReadyIn.nil
            exact AllReadyIn.nil
          exact AllReadyIn.nil
        exact AllReadyIn.nil
      refine AllReadyIn.cons rfl (fun K hK => ?_) ?_
      · go_simp
        refine hK _ _ ?_
        clear hK K
        refine wpAnyIn_ready (rs := [0, 3]) (by kernel_rfl) (by simp) ?_
        refine AllReadyIn.cons rfl (fun K hK => ?_) ?_
        · go_simp
          refine hK _ _ ?_
          clear hK K
          refine wpAnyIn_ready (rs := [3]) (by kernel_rfl) (by simp) ?_
          refine AllReadyIn.cons rfl (fun K hK => ?_) ?_
          · go_simp
            gi_wp2_with (refine ⟨trivial, ?_⟩; gi_at_call 57; refine (CallsIn.inRound l (callsIn_wide.2 (HLo.out _ HBd.out cL2 cL3))).mono ?_; rintro e w1 ⟨u, rfl, iu, nu, b1⟩; have HIu := hid iu; have HNu := hid nu; have HV1 := hid (HVd.out.kept (grown_of b1) (by simp)); have HR1 := hid (HRd.out.kept (grown_of b1) (emN _)); have HB1 := hid b1; have cL := HV1.out.cell; clear iu nu b1)
            (try (refine hK _ _ ?_)); (try clear hK K)
            refine wpAnyIn_ready (rs := [4]) (by kernel_rfl) (by simp) ?_
            refine AllReadyIn.cons rfl (fun K hK => ?_) ?_
            · skip
              refine stepIn_rows rfl _ _ rfl _ _ _ HR1.out rfl u _ _ HIu.out HNu.out rfl (Nat.le_trans hn1 HB1.out.size) hlenB ?_
              intro v3 w3 hr3 hg3
              have HV3 := hid (HV1.out.kept hg3 (HV1.out.not_row (by decide) HR1.out))
              have HFin := hid (hfin w1 v3 w3 HB1.out HV1.out HR1.out hr3 hg3)
              obtain ⟨ao3, cap3, hv3⟩ := br.own_val (sl.Own.mk' hr3)
              clear hr3 hg3
              generalize (liveQ m (pre.map (fun i => i.val)) ++ onW m x.val.1 (x.val.2 : Int)).length = l3 at hv3
              subst hv3
              have cL3' := HV3.out.cell
              have fL3 := HV3.out.frozen
              refine hK _ _ ?_
              clear hK K
              refine wpAnyIn_ready (rs := [5]) (by kernel_rfl) (by simp) ?_
              refine AllReadyIn.cons rfl (fun K hK => ?_) ?_
              · go_simp
                refine hK _ _ ?_
                clear hK K
                refine wpAnyIn_done (by kernel_rfl) ?_ _
                exact HFin.out
              exact AllReadyIn.nil
            exact AllReadyIn.nil
          exact AllReadyIn.nil
        refine AllReadyIn.cons rfl (fun K hK => ?_) ?_
        · go_simp
          gi_wp2_with (refine ⟨trivial, ?_⟩; gi_at_call 57; refine (CallsIn.inRound l (callsIn_wide.2 (HLo.out _ HBd.out cL2 cL3))).mono ?_; rintro e w1 ⟨u, rfl, iu, nu, b1⟩; have HIu := hid iu; have HNu := hid nu; have HV1 := hid (HVd.out.kept (grown_of b1) (by simp)); have HR1 := hid (HRd.out.kept (grown_of b1) (emN _)); have HB1 := hid b1; have cL := HV1.out.cell; clear iu nu b1)
          (try (refine hK _ _ ?_)); (try clear hK K)
          refine wpAnyIn_ready (rs := [0]) (by kernel_rfl) (by simp) ?_
          refine AllReadyIn.cons rfl (fun K hK => ?_) ?_
          · go_simp
            refine hK _ _ ?_
            clear hK K
            refine wpAnyIn_ready (rs := [4]) (by kernel_rfl) (by simp) ?_
            refine AllReadyIn.cons rfl (fun K hK => ?_) ?_
            · skip
              refine stepIn_rows rfl _ _ rfl _ _ _ HR1.out rfl u _ _ HIu.out HNu.out rfl (Nat.le_trans hn1 HB1.out.size) hlenB ?_
              intro v3 w3 hr3 hg3
              have HV3 := hid (HV1.out.kept hg3 (HV1.out.not_row (by decide) HR1.out))
              have HFin := hid (hfin w1 v3 w3 HB1.out HV1.out HR1.out hr3 hg3)
              obtain ⟨ao3, cap3, hv3⟩ := br.own_val (sl.Own.mk' hr3)
              clear hr3 hg3
              generalize (liveQ m (pre.map (fun i => i.val)) ++ onW m x.val.1 (x.val.2 : Int)).length = l3 at hv3
              subst hv3
              have cL3' := HV3.out.cell
              have fL3 := HV3.out.frozen
              refine hK _ _ ?_
              clear hK K
              refine wpAnyIn_ready (rs := [5]) (by kernel_rfl) (by simp) ?_
              refine AllReadyIn.cons rfl (fun K hK => ?_) ?_
              · go_simp
                refine hK _ _ ?_
                clear hK K
                refine wpAnyIn_done (by kernel_rfl) ?_ _
                exact HFin.out
              exact AllReadyIn.nil
            exact AllReadyIn.nil
          exact AllReadyIn.nil
        exact AllReadyIn.nil
      exact AllReadyIn.nil
    exact AllReadyIn.nil
  case done =>
    rintro D ys W hD hys ⟨⟨v, hv, hrow, _⟩, hbl, _⟩ hK
    have hc' := hv.cell
    have hb2 := hbl.trans (belowK_b (n₀ := w.heap.size) (w := W1) (by omega) W D _ (.deferred none) hD hK rfl rfl)
    have hr2 := ownsRow_putObj hrow (.deferred none) hK rfl
    rw [hys] at hr2
    have HE : Hid (liveL a p m = liveQ m (seqP a p N)) := hid (by rw [liveL, ← hN])
    gi_wp2
    refine ⟨by simp, .inl ⟨_, _, rfl, run_takeDeferred hK, ?_⟩⟩
    exact ⟨_, results_tmp rfl _ _ _, v, rfl, by rw [HE.out]; exact sl.Own.mk' hr2, hb2⟩
  case stop =>
    rintro D c pre W _ _ h _
    exact h.elim
end Go.Proofs.Ytfechjhngcmdpaa.mc
