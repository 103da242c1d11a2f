/-
  arePieces of the program.
-/
import Derived.Test.YtiacfejileeieabDoorPvi
namespace Go.Proofs.YtiacfejileeieabDoor.pc
open Go.RowKit Go.Sort Go.Proofs.YtiacfejileeieabDoor.sl Go.Proofs.YtiacfejileeieabDoor.st
set_option linter.unusedVariables false
set_option linter.unusedSimpArgs false
attribute [local go_sem] Oper.semAt_some

theorem ownFrom_const {β : Type} (B : Nat) (p : β → Prop) : OwnFrom B (fun s (_ : World) => p s) := fun _ _ _ _ h _ _ => h
theorem ownFrom_boxed {β : Type} (B b : Nat) (t : TypeId) (v : Value) : OwnFrom B (fun (_ : β) W => Boxed W b t v) := fun _ X Y row hv hg hr => hv.kept hg (fun e' => by
  obtain ⟨_, o, ho, hc⟩ := hr b e'.symm
  rw [show X.heap[b]? = _ from hv] at ho; cases ho; cases hc)
theorem ownFrom_cells {β : Type} (B q : Nat) (o : Obj) (ho : o.isCells = true) : OwnFrom B (fun (_ : β) W => W.heap[q]? = some o) := fun _ X Y row h2 hg hr => (hg.block q (Array.getElem?_eq_some_iff.1 h2).1 (fun e' => by
  obtain ⟨_, o', ho', hc⟩ := hr q e'.symm
  rw [h2] at ho'; cases ho'; rw [ho] at hc; cases hc)).trans h2

/-- What holds between two rounds of arePieces. -/
def ArI (W1 : World) (g : Nat) (xs : List V) (pre : List (Fin xs.length)) (W : World) : Prop :=
  (∀ p ∈ pre, okAt g xs p.val = true) ∧ Below W1.heap.size W1 W
def ArX (w : World) (g : Nat) (xs : List V) (c : Code) (pre : List (Fin xs.length)) (W : World) : Prop :=
  (c = .ret ∧ ∃ p ∈ pre, okAt g xs p.val = false) ∧ Below w.heap.size w W ∧ Boxed W (w.heap.size + 1) 4 (.bool false)
def ArA (w : World) (g : Nat) (v : Value) (xs : List V) (iv : Fin xs.length → Value) (x : Fin xs.length) (act : Act) (W : World) : Prop :=
  ∃ q : Nat, act = { tmps := #[v, .int .i64 (g : Int), undef, .pointer (some ⟨w.heap.size, 0, none⟩), .pointer (some ⟨w.heap.size + 1, 0, none⟩), .pointer (some ⟨q, 0, none⟩), iv x, v, .func (.func 76) #[] #[.pointer (some ⟨w.heap.size + 2, 0, none⟩)], (xs.getD x.val oz).val, iv x, undef, undef, undef, undef, undef, undef, undef, undef, undef, undef, undef, undef, undef, undef, undef, undef, undef, undef], defers := [] } ∧
    W.heap[q]? = some (.cells #[.int .i64 (xs.getD x.val oz).a0, .int .i64 (xs.getD x.val oz).a1, .int .i64 (xs.getD x.val oz).a2] 51 (0, 0))
theorem ownFrom_arA (B : Nat) (w : World) (g : Nat) (v : Value) (xs : List V) (iv : Fin xs.length → Value) (x : Fin xs.length) (act : Act) : OwnFrom B (fun (_ : Unit) W => ArA w g v xs iv x act W) := fun s X Y row ⟨q, h1, h2⟩ hg hr => ⟨q, h1, ownFrom_cells (β := Unit) B q _ rfl s X Y row h2 hg hr⟩

set_option maxRecDepth 100000 in
set_option maxHeartbeats 8000000 in
theorem arePiecesC : ∀ (N : Nat) (xs : List V) (v : Value) (B g : Nat) (w : World), xs.length = N → OpsC w B v xs → B ≤ w.heap.size → xs.length ≤ 1048576 → g ≤ 4 →
    Calls Tryd.prog 51 #[v, .int .i64 (g : Int)] w fun e w' => e = .returned (.bool (arP g xs)) ∧ Below w.heap.size w w' := by
  intro N
  induction N using Nat.strongRecOn with
  | _ N ih =>
  intro xs v B g w hN ha hB hlen hg4
  obtain ⟨ao, cap, hv⟩ := opsC_val ha
  have HA := hid ha
  have HIH := hid ih
  have HV := hid hv
  clear ha ih
  have hvs : ∃ ao len cap, v = .slice ao len cap := ⟨_, _, _, hv⟩
  clear hv
  refine (callsIn_wide (n := 3)).1 ?_
  have hro : Fence.wide.round = none := rfl
  refine callsIn_of_wp_marks Tryd.func51 rfl trivial ?_ hro
  simp only [Tryd.ntmps51, List.size_toArray, List.length_cons, List.length_nil, Nat.reduceAdd, Nat.reduceSub, Array.replicate_succ, Array.replicate_zero, List.push_toArray, List.append_toArray, List.nil_append, List.cons_append]
  gi_wp2_with (refine ⟨trivial, ?_⟩; gi_at_call 53; refine (callsIn_wide.2 (outerP v _ hvs)).mono ?_; rintro e w1 ⟨rfl, rfl⟩)
  have hS : (((w.alloc (.cells #[.int .i64 (g : Int)] 3)).alloc (.cells #[.bool false] 4)).alloc (.cells #[v] 26)).heap.size = w.heap.size + 3 := by simp
  have hB1 : Below w.heap.size w (((w.alloc (.cells #[.int .i64 (g : Int)] 3)).alloc (.cells #[.bool false] 4)).alloc (.cells #[v] 26)) := (((Below.refl _ w).alloc (by simp) _).alloc (by simp) _).alloc (by simp; omega) _
  have hb0 : Boxed (((w.alloc (.cells #[.int .i64 (g : Int)] 3)).alloc (.cells #[.bool false] 4)).alloc (.cells #[v] 26)) w.heap.size 3 (.int .i64 (g : Int)) := ((Boxed.new w _ _).alloc _).alloc _
  have hb1 : Boxed (((w.alloc (.cells #[.int .i64 (g : Int)] 3)).alloc (.cells #[.bool false] 4)).alloc (.cells #[v] 26)) (w.heap.size + 1) 4 (.bool false) := (show Boxed _ (w.heap.size + 1) _ _ from by simpa using Boxed.new (w.alloc (.cells #[.int .i64 (g : Int)] 3)) 4 (.bool false)).alloc _
  have hb2 : Boxed (((w.alloc (.cells #[.int .i64 (g : Int)] 3)).alloc (.cells #[.bool false] 4)).alloc (.cells #[v] 26)) (w.heap.size + 2) 26 v := by simpa using Boxed.new ((w.alloc (.cells #[.int .i64 (g : Int)] 3)).alloc (.cells #[.bool false] 4)) 26 v
  generalize (((w.alloc (.cells #[.int .i64 (g : Int)] 3)).alloc (.cells #[.bool false] 4)).alloc (.cells #[v] 26)) = W1 at *
  obtain ⟨iv, HIv, hseq⟩ := outer_stops (3 - 1) (by omega) xs v (w.heap.size + 2) w.heap.size W1 ((HA.out.mono hB).below hB1) hlen (by omega) (by omega) hb2.cell
  have hIown : OwnFrom W1.heap.size (ArI W1 g xs) := OwnFrom.and (ownFrom_const _ _) (ownFrom_below (Nat.le_refl _) (by omega))
  have hXown : ∀ c, OwnFrom W1.heap.size (ArX w g xs c) := fun c => OwnFrom.and (ownFrom_const _ _) (OwnFrom.and (ownFrom_below (Nat.le_refl _) (by omega)) (ownFrom_boxed _ _ _ _))
  refine wpIn_rangeFunc_ownH hro (by omega) (gf := 76) (lb := #[.pointer (some ⟨w.heap.size + 2, 0, none⟩)]) rfl trivial (enters_of Tryd.func76 (by kernel_rfl) rfl)
    hseq (fun h k => h.trans k) (kq_put (by omega) (by omega)) (Below.refl _ _) (fun _ => rfl)
    (ArI W1 g xs) (ArX w g xs) hIown hXown ⟨fun p hp => by simp at hp, Below.refl _ _⟩ (ArA w g v xs iv) (fun x a' => ownFrom_arA _ w g v xs iv x a') ?assign ?body ?done ?stop
  case assign =>
    intro l pre x W K hI hK
    have hsz := hI.2.size
    have hbs := hb2.lt
    obtain ⟨z, hz⟩ : ∃ z, z = xs.getD x.val oz := ⟨_, rfl⟩
    simp only [V.val]
    rw [← hz]
    have Hz := hid hz
    clear hz
    gi_wp2
    refine hK _ _ ((KeepsOthers.alloc W _).from _) (KQ.ofBelow ((Below.refl _ _).alloc (Nat.le_refl _) _) (by omega) (by omega)) (hIown.alloc _ hI) ⟨W.heap.size, ?_, ?_⟩
    · rw [← Hz.out]; rfl
    · rw [← Hz.out]; exact World.alloc_heap_new W _
  case body =>
    rintro l pre x a' W hl hr ⟨hall, hbl⟩ ⟨q, rfl, hq2⟩ hplen
    have hsz := hbl.size
    have hIx : OpsC W w.heap.size (iv x) (inside xs x.val) := (HIv x).below hbl
    have hOk : okAt g xs x.val = (vld (xs.getD x.val oz) g && (decide ((xs.getD x.val oz).a2 = ((inside xs x.val).length : Int)) && arP (g + 1) (inside xs x.val))) := rfl
    have hil := inside_lt xs x.val x.isLt
    have HRec := hid (fun (X : World) (b : Below W.heap.size W X) (h4 : g + 1 ≤ 4) => HIH.out (inside xs x.val).length (by omega) (inside xs x.val) (iv x) w.heap.size (g + 1) X rfl (hIx.below b) (by have := b.size; omega) (by omega) h4)
    obtain ⟨aoi, capi, hiv⟩ := opsC_val hIx
    have HVl := hid (fun W => validInC (xs.getD x.val oz) g (by omega) W)
    have hg3 : vld (xs.getD x.val oz) g = true → g ≤ 3 := fun h => by rw [vld, Bool.and_eq_true, decide_eq_true_eq] at h; exact h.1
    have HOk := hid hOk
    have HAll := hid hall
    have HBl := hid hbl
    have HBw : Hid (Below w.heap.size w W) := hid (hB1.trans (hbl.mono (by omega)))
    have B0 : Boxed W w.heap.size 3 (.int .i64 (g : Int)) := hb0.kept (grown_of hbl) (by simp)
    have B1 : Boxed W (w.heap.size + 1) 4 (.bool false) := hb1.kept (grown_of hbl) (by simp)
    have hfin : ∀ X, Below W.heap.size W X → okAt g xs x.val = true → KeepsFrom W1.heap.size W X ∧ KQ w.heap.size (w.heap.size + 2) W X ∧ ArI W1 g xs (pre ++ [x]) X := fun X b hk => ⟨(KeepsOthers.of_grownBy (grown_of b) (fun j o e => by cases e)).from _, KQ.ofBelow b (by omega) (by omega), fun p hp => by
      rcases List.mem_append.1 hp with hp | hp
      · exact hall p hp
      · simp at hp; subst hp; exact hk, hbl.trans (b.mono hsz)⟩
    have hexit : ∀ X, Below W.heap.size W X → okAt g xs x.val = false → KeepsFrom W1.heap.size W (X.setCell ⟨w.heap.size + 1, 0, none⟩ (.bool false)) ∧ ArX w g xs .ret (pre ++ [x]) (X.setCell ⟨w.heap.size + 1, 0, none⟩ (.bool false)) := fun X b hk => by
      have hb1X : Boxed X (w.heap.size + 1) 4 (.bool false) := B1.kept (grown_of b) (by simp)
      exact ⟨((KeepsOthers.of_grownBy (grown_of b) (fun j o e => by cases e)).trans (KeepsOthers.setCell _ _ _)).from _, ⟨rfl, x, by simp, hk⟩, (HBw.out.trans (b.mono HBw.out.size)).setCell (p := ⟨w.heap.size + 1, 0, none⟩) (by simp) _, hb1X.set _⟩
    have HFin := hid hfin
    have HExit := hid hexit
    have HC : Hid (∀ X, Below W.heap.size W X → X.cell? ⟨w.heap.size, 0, none⟩ = some (.int .i64 (g : Int)) ∧ X.cell? ⟨w.heap.size + 1, 0, none⟩ = some (.bool false) ∧ X.frozen? ⟨w.heap.size + 1, 0, none⟩ = false ∧ X.cell? ⟨q, 2, none⟩ = some (.int .i64 (xs.getD x.val oz).a2)) := hid fun X b => by
      have hb0X : Boxed X w.heap.size 3 (.int .i64 (g : Int)) := B0.kept (grown_of b) (by simp)
      have hb1X : Boxed X (w.heap.size + 1) 4 (.bool false) := B1.kept (grown_of b) (by simp)
      exact ⟨hb0X.cell, hb1X.cell, hb1X.frozen, (b.cell (p := ⟨q, 2, none⟩) (Array.getElem?_eq_some_iff.1 hq2).1).trans (by simp [World.cell?, hq2])⟩
    clear hfin hexit B0 B1 hall hbl hIx
    generalize inside xs x.val = ys at *
    generalize xs.getD x.val oz = z at *
    obtain ⟨z0, z1, z2⟩ := z
    obtain ⟨c0, c1, f1, k2⟩ := HC.out W (Below.refl _ _)
    have k0 : W.cell? ⟨q, 0, none⟩ = some (.int .i64 z0) := by simp [World.cell?, hq2]
    have k1 : W.cell? ⟨q, 1, none⟩ = some (.int .i64 z1) := by simp [World.cell?, hq2]
    simp only [V.val] at HVl k2 HC HOk ⊢
    generalize okAt g xs x.val = ok at *
    generalize arP (g + 1) ys = r3 at *
    generalize ys.length = m at *
    generalize iv x = u at *
    generalize vld ⟨z0, z1, z2⟩ g = r1 at *
    subst hiv
    clear hq2 hOk hb0 hb1 hb2 HIv hseq
    cases r1 with
    | false =>
      gi_wp2_with (refine ⟨trivial, ?_⟩; gi_at_call 75; refine (CallsIn.inRound l (callsIn_wide.2 (HVl.out _))).mono ?_; rintro e w' ⟨rfl, b1⟩; obtain ⟨d0, d1, g1, e2⟩ := HC.out w' b1; have HB := hid b1; clear b1)
      refine ⟨trivial, ?_⟩
      gi_wp2
      exact HExit.out _ HB.out HOk.out
    | true =>
      have hg3' := hg3 (by trivial)
      have hwg : IntKind.i64.wrap ((g : Int) + 1) = ((g + 1 : Nat) : Int) := IntWalk.i64_in _ (by omega)
      by_cases hz : z2 = (m : Int)
      · have HOk2 : Hid (ok = r3) := hid (by rw [HOk.out, hz]; simp)
        subst hz
        cases r3 with
        | false =>
          gi_wp2_with (first | (refine ⟨trivial, ?_⟩; gi_at_call 75; refine (CallsIn.inRound l (callsIn_wide.2 (HVl.out _))).mono ?_; rintro e w' ⟨rfl, b1⟩; obtain ⟨d0, d1, g1, e2⟩ := HC.out w' b1; have HB := hid b1; clear b1) | (refine ⟨trivial, ?_⟩; gi_at_call 51; refine (CallsIn.inRound l (callsIn_wide.2 (HRec.out _ HB.out (by omega)))).mono ?_; rintro e w'' ⟨rfl, b2⟩; have HBB := hid (HB.out.trans (b2.mono HB.out.size)); clear b2; obtain ⟨d0', d1', g1', e2'⟩ := HC.out w'' HBB.out))
          exact HExit.out _ HBB.out HOk2.out
        | true =>
          gi_wp2_with (first | (refine ⟨trivial, ?_⟩; gi_at_call 75; refine (CallsIn.inRound l (callsIn_wide.2 (HVl.out _))).mono ?_; rintro e w' ⟨rfl, b1⟩; obtain ⟨d0, d1, g1, e2⟩ := HC.out w' b1; have HB := hid b1; clear b1) | (refine ⟨trivial, ?_⟩; gi_at_call 51; refine (CallsIn.inRound l (callsIn_wide.2 (HRec.out _ HB.out (by omega)))).mono ?_; rintro e w'' ⟨rfl, b2⟩; have HBB := hid (HB.out.trans (b2.mono HB.out.size)); clear b2; obtain ⟨d0', d1', g1', e2'⟩ := HC.out w'' HBB.out))
          exact HFin.out _ HBB.out HOk2.out
      · have hzd : decide (z2 = (m : Int)) = false := decide_eq_false hz
        have HOk2 : Hid (ok = false) := hid (by rw [HOk.out, hzd]; simp)
        have hzb : (z2 == (m : Int)) = false := by rw [beqD]; exact hzd
        gi_wp2_with (refine ⟨trivial, ?_⟩; gi_at_call 75; refine (CallsIn.inRound l (callsIn_wide.2 (HVl.out _))).mono ?_; rintro e w' ⟨rfl, b1⟩; obtain ⟨d0, d1, g1, e2⟩ := HC.out w' b1; have HB := hid b1; clear b1)
        refine ⟨trivial, ?_⟩
        gi_wp2
        exact HExit.out _ HB.out HOk2.out
  case done =>
    rintro D ys W hD hys ⟨hall, hbl⟩ hK
    have hb1W : Boxed W (w.heap.size + 1) 4 (.bool false) := hb1.kept (grown_of hbl) (by simp)
    have c1 := hb1W.cell
    have f1 := hb1W.frozen
    have hR : arP g xs = true := by
      have := arP_outs g xs (xs.length - 0) 0 rfl
      rw [List.drop_zero] at this
      rw [this, ← hys, List.all_map, List.all_eq_true]
      exact hall
    have HR := hid hR
    have HHK := hid hK
    have HBw : Hid (Below w.heap.size w W) := hid (hB1.trans (hbl.mono (by omega)))
    have HB1 := hid hb1W
    clear hR hK hall hys hbl hb1W hb1 hb0 hb2
    gi_wp2
    have hDs : w.heap.size + 3 ≤ D := by omega
    have hK2 : (W.setCell ⟨w.heap.size + 1, 0, none⟩ (.bool true)).heap[D]? = some (.deferred (some [])) := by
      rw [← HHK.out]
      simp [World.setCell, Array.getElem?_modify, show ¬ w.heap.size + 1 = D by omega]
    have hb1F : Boxed ((W.setCell ⟨w.heap.size + 1, 0, none⟩ (.bool true)).putObj D (.deferred none)) (w.heap.size + 1) 4 (.bool true) := (HB1.out.set _).kept (grownBy_putObj' _ D _) (by simp; omega)
    have hBF := (HBw.out.setCell (p := ⟨w.heap.size + 1, 0, none⟩) (by simp) (.bool true)).trans (belowK_b (n₀ := w.heap.size) (w := W1) (by omega) (W.setCell ⟨w.heap.size + 1, 0, none⟩ (.bool true)) D _ (.deferred none) hD hK2 rfl rfl)
    refine ⟨by simp, .inl ⟨_, _, rfl, run_takeDeferred hK2, ?_⟩⟩
    have z1 := hb1F.cell
    refine ⟨.bool true, ?_, by rw [HR.out], hBF⟩
    simp [results, Tryd.results51, go_sem, z1]
  case stop =>
    rintro D c pre W hD ⟨t, ht⟩ ⟨⟨rfl, p, hp, hok⟩, hbl, hb1W⟩ hK
    have hR : arP g xs = false := by
      have := arP_outs g xs (xs.length - 0) 0 rfl
      rw [List.drop_zero] at this
      rw [this, ← ht, List.all_append, List.all_map]
      have : List.all pre (okAt g xs ∘ fun i => i.val) = false := by
        rw [List.all_eq_false]
        exact ⟨p, hp, by simp [hok]⟩
      rw [this]; rfl
    have HR := hid hR
    clear hR ht hok
    gi_wp2
    have hb1F : Boxed (W.putObj D (.deferred none)) (w.heap.size + 1) 4 (.bool false) := hb1W.kept (grownBy_putObj' _ D _) (by simp; omega)
    have hBF := hbl.trans (belowK_b (n₀ := w.heap.size) (w := W1) (by omega) W D _ (.deferred none) hD hK rfl rfl)
    refine ⟨by simp, .inl ⟨_, _, rfl, run_takeDeferred hK, ?_⟩⟩
    have z1 := hb1F.cell
    refine ⟨.bool false, ?_, by rw [HR.out], hBF⟩
    simp [results, Tryd.results51, go_sem, z1]
end Go.Proofs.YtiacfejileeieabDoor.pc
