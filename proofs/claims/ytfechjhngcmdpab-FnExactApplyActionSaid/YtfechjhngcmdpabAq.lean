/-
  ApplyAction of the program.
-/
import Derived.Test.YtfechjhngcmdpabImk
import Derived.Test.YtfechjhngcmdpabL5
namespace Go.Proofs.Ytfechjhngcmdpab.aa
open Go.RowKit Go.Proofs.Ytfechjhngcmdpab.sl Go.Proofs.Ytfechjhngcmdpab.pm Go.Proofs.Ytfechjhngcmdpab.bw Go.Proofs.Ytfechjhngcmdpab.br Go.Proofs.Ytfechjhngcmdpab.fv Go.Proofs.Ytfechjhngcmdpab.fn Go.Proofs.Ytfechjhngcmdpab.fr Go.Proofs.Ytfechjhngcmdpab.ss Go.Proofs.Ytfechjhngcmdpab.ai Go.Proofs.Ytfechjhngcmdpab.ao Go.Proofs.Ytfechjhngcmdpab.pv Go.Proofs.Ytfechjhngcmdpab.ia Go.Proofs.Ytfechjhngcmdpab.rr
set_option linter.unusedVariables false
attribute [local go_sem] Oper.semAt_some

/-- The result cells. -/
structure RC (w X : World) (x : Value) (y : Int) : Prop where
  r1 : Boxed X w.heap.size 23 x
  r2 : Boxed X (w.heap.size + 1) 2 (.int .i64 y)
  bl : Below w.heap.size w X
theorem RC.below {w X Y : World} {x : Value} {y : Int} (h : RC w X x y) (k : Below X.heap.size X Y) : RC w Y x y :=
  ⟨(k.block _ h.r1.lt).trans h.r1, (k.block _ h.r2.lt).trans h.r2, h.bl.trans (k.mono h.bl.size)⟩
theorem rc_new (w : World) : RC w ((w.alloc (.cells #[.slice none 0 0] 23)).alloc (.cells #[.int .i64 0] 2)) (.slice none 0 0) 0 :=
  ⟨(Boxed.new w _ _).alloc _, by simpa using Boxed.new (w.alloc (.cells #[.slice none 0 0] 23)) 2 (.int .i64 0), ((Below.refl _ w).alloc (Nat.le_refl _) _).alloc (by simp) _⟩
theorem RC.set {w X : World} {x : Value} {y : Int} (h : RC w X x y) (x' : Value) (y' : Int) : RC w ((X.setCell ⟨w.heap.size, 0, none⟩ x').setCell ⟨w.heap.size + 1, 0, none⟩ (.int .i64 y')) x' y' := by
  refine ⟨(h.r1.set x').kept (grownBy_setCell' _ _ _) (by simp), (Boxed.kept h.r2 (grownBy_setCell' X w.heap.size x') (by simp)).set _, (h.bl.setCell (Nat.le_refl _) _).setCell (by simp) _⟩

theorem RC.kb {w X Y : World} {x : Value} {y : Int} {n P : Nat} (h : RC w X x y) (k : KB n P X Y) (hn : w.heap.size + 2 ≤ n) (hP : w.heap.size + 2 ≤ P) : RC w Y x y :=
  ⟨(k.block _ (by omega) (by omega)).trans h.r1, (k.block _ (by omega) (by omega)).trans h.r2, h.bl.trans (k.below (by omega) (by omega))⟩
theorem ownFrom_kb {β : Type} (n P : Nat) (W0 : World) (hn : n ≤ W0.heap.size) (B : Nat) (hB : n ≤ B) : OwnFrom B (fun (_ : β) W => KB n P W0 W) := fun _ X Y row h hg hr =>
  h.trans ⟨hg.os, hg.tape, hg.output, hg.size, fun k hk hp => hg.block k (by have := h.size; omega) (fun e => by have := (hr k e.symm).1; omega)⟩
theorem ownFrom_const {β : Type} (B : Nat) (p : β → Prop) : OwnFrom B (fun s (_ : World) => p s) := fun _ _ _ _ h _ _ => h
theorem ownFrom_box {β : Type} (B b : Nat) (t : TypeId) (v : Value) : OwnFrom B (fun (_ : β) W => Boxed W b t v) := fun _ X Y row hv hg hr => hv.kept hg (fun e' => by
  obtain ⟨_, o, ho, hc⟩ := hr b e'.symm
  rw [show X.heap[b]? = _ from hv] at ho; cases ho; cases hc)
theorem ownFrom_rc {β : Type} (B : Nat) (w : World) (x : Value) (y : Int) (hB : w.heap.size ≤ B) : OwnFrom B (fun (_ : β) W => RC w W x y) := fun s X Y row h hg hr =>
  ⟨ownFrom_box (β := β) B _ _ _ s X Y row h.r1 hg hr, ownFrom_box (β := β) B _ _ _ s X Y row h.r2 hg hr, h.bl.grown hg h.bl.size (fun k e => Nat.le_trans hB (hr k e).1)⟩

set_option maxRecDepth 100000 in
set_option maxHeartbeats 2000000 in
theorem images0 (n : Nat) (l Bs Bw cap : Nat) (ao : Option Addr) (J : List (Fin 0) → World → Prop) (W : World) (hBw : W.cell? ⟨Bw, 0, none⟩ = some (.slice ao 0 cap)) (h0 : J [] W) :
    CallsIn Fence.wide n Try.prog 65 #[.func (.yield l) #[] #[], .pointer (some ⟨Bw, 0, none⟩), .pointer (some ⟨Bs, 0, none⟩)] W fun e W' => (∃ v, e = .returned v) ∧ J [] W' := by
  have hro : Fence.wide.round = none := rfl
  refine callsIn_of_wp Try.func65 rfl trivial ?_ hro
  simp only [Try.ntmps65, List.size_toArray, List.length_cons, List.length_nil, Nat.reduceAdd, Nat.reduceSub, Array.replicate_succ, Array.replicate_zero, List.push_toArray, List.append_toArray, List.nil_append, List.cons_append]
  gi_wp2
  gi_loopw [8] (fun i wr => i = .int .i64 0 ∧ J [] wr) (fun _ _ => 0)
  case atStart => exact ⟨rfl, h0⟩
  case round =>
    obtain ⟨rfl, hJs⟩ := hrel
    gi_wp2
    go_end0
    exact ⟨⟨_, rfl⟩, hJs⟩

set_option maxRecDepth 100000 in
set_option maxHeartbeats 8000000 in
theorem implAA (rows : List (List Int)) (word : List Int) (v u : Value) (B C : Nat) (w : World) (ha : RowsC w B v rows) (hb : Ints w C u word) (hB : B ≤ w.heap.size) (hC : C ≤ w.heap.size) (hq : SmallR rows) (hn : word.length ≤ 1099511627776) :
    Calls Try.prog 10 #[v, u] w fun e w' => ∃ v', e = .returned (.tuple #[v', .int .i64 (aaC rows word)]) ∧ sl.Own w' w.heap.size w'.heap.size v' (aaW rows word) ∧ Below w.heap.size w w' := by
  have HV := hid (fun (W : World) (h : Below w.heap.size w W) => implImages rows v B W (ha.rows.chg (Chg.ofBelow (lo := 0) h) (.inr (Nat.zero_le _))) (Nat.le_trans hB h.size) hq.len hq.short)
  have HF := hid (fun (W : World) (h : Below w.heap.size w W) => implFree (rows.length : Int) word u C W (hb.chg (Chg.ofBelow (lo := 0) h) (.inr (Nat.zero_le _))) (Nat.le_trans hC h.size) hn)
  have H1 := hid (fun h => @aa_im rows word h)
  have H2 := hid (fun h h2 => @aa_fr rows word h h2)
  have HR0 := hid (rc_new w)
  obtain ⟨ao, cap, hv⟩ := rows_val ha.rows
  obtain ⟨bo, dap, hu⟩ := ints_val hb
  have HA := hid ha
  have HBw := hid hb
  refine (callsIn_wide (n := 3)).1 ?_
  have hro : Fence.wide.round = none := rfl
  refine callsIn_of_wp_marks Try.func10 rfl trivial ?_ hro
  simp only [Try.ntmps10, List.size_toArray, List.length_cons, List.length_nil, Nat.reduceAdd, Nat.reduceSub, Array.replicate_succ, Array.replicate_zero, List.push_toArray, List.append_toArray, List.nil_append, List.cons_append]
  obtain ⟨t1, ht1⟩ : ∃ t, t = imB rows := ⟨_, rfl⟩
  obtain ⟨t2, ht2⟩ : ∃ t, t = frB (rows.length : Int) word := ⟨_, rfl⟩
  rw [← ht1] at HV
  rw [← ht2] at HF
  cases t1 with
  | false =>
    have HE := hid (H1.out ht1.symm)
    clear ha hb hq hn H1 H2 HA HBw ht1 ht2
    subst hv
    subst hu
    gi_wp2_with (refine ⟨trivial, ?_⟩; gi_at_call 33; refine (callsIn_wide.2 (HV.out _ HR0.out.bl)).mono ?_; rintro e w1 ⟨rfl, b1⟩; have HR1 := hid (HR0.out.below b1); have q1 := HR1.out.r1.cell; have q2 := HR1.out.r2.cell; have q3 := HR1.out.r1.frozen; have q4 := HR1.out.r2.frozen; clear b1)
    refine ⟨trivial, ?_⟩
    gi_wp2
    refine ⟨.tuple #[.slice none 0 0, .int .i64 1], ?_, _, by rw [HE.out.1], by rw [HE.out.2]; exact sl.Own.nil _ w.heap.size, (HR1.out.set _ _).bl⟩
    have z1 := ((HR1.out.set (.slice none 0 0) 1)).r1.cell
    have z2 := ((HR1.out.set (.slice none 0 0) 1)).r2.cell
    simp [results, Try.results10, go_sem, z1, z2]
  | true =>
    cases t2 with
    | false =>
      have HE := hid (H2.out ht1.symm ht2.symm)
      clear ha hb hq hn H1 H2 HA HBw ht1 ht2
      subst hv
      subst hu
      gi_wp2_with (first
        | (refine ⟨trivial, ?_⟩; gi_at_call 33; refine (callsIn_wide.2 (HV.out _ HR0.out.bl)).mono ?_; rintro e w1 ⟨rfl, b1⟩; have HR1 := hid (HR0.out.below b1); clear b1)
        | (refine ⟨trivial, ?_⟩; gi_at_call 34; refine (callsIn_wide.2 (HF.out _ HR1.out.bl)).mono ?_; rintro e w2 ⟨rfl, b2⟩; have HR2 := hid (HR1.out.below b2); have q1 := HR2.out.r1.cell; have q2 := HR2.out.r2.cell; have q3 := HR2.out.r1.frozen; have q4 := HR2.out.r2.frozen; clear b2))
      refine ⟨.tuple #[.slice none 0 0, .int .i64 1], ?_, _, by rw [HE.out.1], by rw [HE.out.2]; exact sl.Own.nil _ w.heap.size, (HR2.out.set _ _).bl⟩
      have z1 := ((HR2.out.set (.slice none 0 0) 1)).r1.cell
      have z2 := ((HR2.out.set (.slice none 0 0) 1)).r2.cell
      simp [results, Try.results10, go_sem, z1, z2]
    | true =>
      have him := ht1.symm
      have hfr := ht2.symm
      have h12 := im_small him
      have hfp := fr_parts hfr
      have hm2 := hfp.2.2.1
      have HLt := hid (fun k hk => g_parts (hfp.2.2.2 k hk))
      have HSub := hid (fun (X : World) (h : Below w.heap.size w X) => substitutionOf rows v B X (HA.out.chg (Chg.ofBelow (lo := 0) h) (.inr (Nat.zero_le _))) (Nat.le_trans hB h.size) him)
      clear ha hb hq hn H1 H2 hfp ht1 ht2
      subst hv
      subst hu
      gi_wp2_with (first
        | (refine ⟨trivial, ?_⟩; gi_at_call 33; refine (callsIn_wide.2 (HV.out _ HR0.out.bl)).mono ?_; rintro e w1 ⟨rfl, b1⟩; have HR1 := hid (HR0.out.below b1); clear b1)
        | (refine ⟨trivial, ?_⟩; gi_at_call 34; refine (callsIn_wide.2 (HF.out _ HR1.out.bl)).mono ?_; rintro e w2 ⟨rfl, b2⟩; have HR2 := hid (HR1.out.below b2); clear b2)
        | (refine ⟨trivial, ?_⟩; gi_at_call 35; refine (callsIn_wide.2 (HSub.out _ (HR2.out.bl.alloc HR2.out.bl.size _))).mono ?_; rintro e w4 ⟨v1, v2, vals1, vals2, rfl, r1, r2, b4⟩; have HRa := hid r1; have HRb := hid r2; have HB4 := hid b4; clear r1 r2 b4)
        | (refine ⟨trivial, ?_⟩; gi_at_call 36; refine (callsIn_wide.2 (imagesIn v1 v2 _ ⟨_, _, _, rfl⟩ (by obtain ⟨z, q, e⟩ := rr_val HRa.out; exact ⟨z, _, q, e⟩) (by obtain ⟨z, q, e⟩ := rr_val HRb.out; exact ⟨z, _, q, e⟩) w4)).mono ?_; rintro e w5 ⟨rfl, rfl⟩))
      obtain ⟨W5, hW5⟩ : ∃ W, W = ((w4.alloc (.cells #[v1, v2] 60)).alloc (.cells #[.slice bo word.length dap] 23)) := ⟨_, rfl⟩
      rw [← hW5]
      have hb45 : Below w4.heap.size w4 W5 := by rw [hW5]; exact ((Below.refl _ w4).alloc (Nat.le_refl _) _).alloc (by simp) _
      have hs5 : W5.heap.size = w4.heap.size + 2 := by rw [hW5]; simp
      have hs4 : w2.heap.size + 1 ≤ w4.heap.size := by have := HB4.out.size; simpa using this
      have hsw : w.heap.size + 2 ≤ w2.heap.size := by have := HR2.out.r2.lt; omega
      have hbx5 : Below (w2.heap.size + 1) (w2.alloc (.cells #[.slice none 0 0] 56)) W5 := by
        have h1 := HB4.out.trans (hb45.mono HB4.out.size)
        simpa using h1
      have hRC5 : RC w W5 (.slice none 0 0) 0 := HR2.out.below (((Below.refl _ w2).alloc (Nat.le_refl _) _).trans (hbx5.mono (by omega)))
      have hbox : Boxed W5 w2.heap.size 56 (.slice none 0 0) := (hbx5.block _ (by omega)).trans (Boxed.new w2 _ _)
      have hcB1 : W5.cell? ⟨w4.heap.size, 0, none⟩ = some v1 := by
        rw [hW5]
        exact (((Below.refl _ (w4.alloc (.cells #[v1, v2] 60))).alloc (Nat.le_refl _) _).cell (p := ⟨w4.heap.size, 0, none⟩) (by simp)).trans (World.cell?_alloc_at _ _ _ _ rfl)
      have hcB2 : W5.cell? ⟨w4.heap.size, 1, none⟩ = some v2 := by
        rw [hW5]
        exact (((Below.refl _ (w4.alloc (.cells #[v1, v2] 60))).alloc (Nat.le_refl _) _).cell (p := ⟨w4.heap.size, 1, none⟩) (by simp)).trans (World.cell?_alloc_at _ _ _ _ rfl)
      have hcBw : W5.cell? ⟨w4.heap.size + 1, 0, none⟩ = some (.slice bo word.length dap) := by
        rw [hW5, show w4.heap.size + 1 = (w4.alloc (.cells #[v1, v2] 60)).heap.size by simp]
        exact World.cell?_alloc_at _ _ _ _ rfl
      have hg45 : w4.grownBy W5 none := ⟨hb45.os, hb45.tape, hb45.output, hb45.size, fun k hk _ => hb45.block k hk⟩
      have r1' : RR W5 (w2.heap.size + 1) v1 vals1 (posL rows) := by
        have := HRa.out.kept hg45 (safe_none _ _)
        simpa using this
      have r2' : RR W5 (w2.heap.size + 1) v2 vals2 (negL rows) := by
        have := HRb.out.kept hg45 (safe_none _ _)
        simpa using this
      have hw5 : Below w.heap.size w W5 := hRC5.bl
      have hseq : SeqStopsK Fence.wide (3 - 1) Try.prog 65 #[.pointer (some ⟨w4.heap.size + 1, 0, none⟩), .pointer (some ⟨w4.heap.size, 0, none⟩)] (encI vals1 vals2 word word.length) (KB W5.heap.size w2.heap.size) (fun ys => ys.map (fun i => i.val) = List.range word.length) (fun pre => pre.map (fun i => i.val) = List.range pre.length) word.length W5 := by
        rcases HBw.out with ⟨h0, _⟩ | ⟨h, b, off, cap', hv, hb, hc⟩
        · subst h0
          intro l J Jx W hW hJ _ hY hj0
          exact (images0 _ l w4.heap.size (w4.heap.size + 1) dap bo J W ((hW.cell (p := ⟨w4.heap.size + 1, 0, none⟩) (by show w4.heap.size + 1 < _; omega)).trans hcBw) hj0).mono fun e W' ⟨he, hj⟩ => ⟨he, .inl ⟨[], rfl, hj⟩⟩
        · simp only [Value.slice.injEq] at hv
          obtain ⟨rfl, _, rfl⟩ := hv
          exact imagesK_stops (3 - 1) (by omega) rows word v1 v2 vals1 vals2 (w2.heap.size + 1) w2.heap.size (by omega) W5 r1' r2' h12 w4.heap.size (w4.heap.size + 1) b off word.length dap rfl (by omega) HLt.out (.inl ⟨by omega, by omega⟩) (by omega) (by omega) hcBw hcB1 hcB2
            (fun j hj => (hw5.cell (p := ⟨b, off + j, none⟩) (by show b < _; omega)).trans (hc j hj))
      have hz0 : ∀ j, j ≤ ([] : List (Fin word.length)).length → (stI rows word (([] : List (Fin word.length)).take j)).length ≤ 20000 := fun j hj => by simp [stI_nil]
      have HRC := hid hRC5
      have HR1' := hid r1'
      have HR2' := hid r2'
      have HIm := hid him
      have HF1 := hid (fun ys h hf => stI_fits (n := word.length) rows word rfl ys h hf)
      have HF2 := hid (fun pre h hl hf => stI_full (n := word.length) rows word rfl pre h hl hf)
      have HO1 := hid (fun h => aa_ok him hfr h)
      have HO2 := hid (fun h => aa_full him hfr h)
      clear hRC5 r1' r2' hb45 hbx5 hcB1 hcB2 hcBw hg45 HRa HRb HB4 HR1 HR2 HR0 HV HF HSub HBw HA him hfr hw5
      refine wpIn_rangeFunc_ownG hro (by omega) (gf := 65) (lb := #[.pointer (some ⟨w4.heap.size + 1, 0, none⟩), .pointer (some ⟨w4.heap.size, 0, none⟩)]) rfl trivial (enters_of Try.func65 (by kernel_rfl) rfl)
        hseq KB.trans (kb_put (Nat.le_refl _)) (Below.refl _ _) (fun _ => rfl)
        (fun pre W => ((∃ v, Boxed W w2.heap.size 56 v ∧ W.ownsRow W5.heap.size 2 1 v (stI rows word pre).length ((stI rows word pre).map (Value.int .i64)) ∧ True) ∧ ∀ j, j ≤ pre.length → (stI rows word (pre.take j)).length ≤ 20000) ∧ KB W5.heap.size w2.heap.size W5 W)
        (fun c pre W => (c = .ret ∧ ¬ (stI rows word pre).length ≤ 20000 ∧ pre.length ≤ word.length) ∧ RC w W (.slice none 0 0) 5)
        (OwnFrom.and (OwnFrom.and (Own.from (holdsRow_own W5.heap.size w2.heap.size 56 2 1 (fun pre => (stI rows word pre).length) (fun pre => (stI rows word pre).map (Value.int .i64)) (fun _ _ => True)) _) (ownFrom_const _ _)) (ownFrom_kb W5.heap.size w2.heap.size W5 (Nat.le_refl _) _ (Nat.le_refl _)))
        (fun c => OwnFrom.and (ownFrom_const _ _) (ownFrom_rc _ w _ _ (by omega)))
        ⟨⟨⟨_, hbox, World.ownsRow_nil _ _ _ _, trivial⟩, hz0⟩, KB.refl _ _ _⟩
        (fun x => { tmps := #[.slice ao rows.length cap, .slice bo word.length dap, undef, undef, .pointer (some ⟨w.heap.size, 0, none⟩), .pointer (some ⟨w.heap.size + 1, 0, none⟩), .pointer (some ⟨w2.heap.size, 0, none⟩), rr.valOf vals1 vals2 (word.getD x.val 0), .slice ao rows.length cap, .bool true, .bool false, .bool false, .slice ao rows.length cap, .int .i64 (rows.length : Int), .slice bo word.length dap, .bool true, .bool false, .bool false, .slice ao rows.length cap, .agg #[v1, v2], .slice bo word.length dap, .func (.func 65) #[] #[.pointer (some ⟨w4.heap.size + 1, 0, none⟩), .pointer (some ⟨w4.heap.size, 0, none⟩)], rr.valOf vals1 vals2 (word.getD x.val 0), undef, undef, undef, undef, undef, undef], defers := [] }) ?assign ?body ?done ?stop
      case assign =>
        intro l x W K hK
        simp only [encI]
        generalize rr.valOf vals1 vals2 (word.getD x.val 0) = y at *
        gi_wp2
        exact hK
      case body =>
        rintro l pre x W ⟨⟨⟨v, hv, hrow, _⟩, hpf⟩, hKB⟩ hlt
        have hx := HLt.out x.val x.isLt
        have hg := hKB.grown
        have hsz := hKB.size
        have ho := valOf_own (HR1'.out.kept hg (HR1'.out.ge _ (by omega))) (HR2'.out.kept hg (HR2'.out.ge _ (by omega))) (word.getD x.val 0) hx
        obtain ⟨hi1, hi2, hi3⟩ := imR_small HIm.out (word.getD x.val 0) hx
        have hst : (stI rows word pre).length ≤ 20000 := by have := hpf pre.length (Nat.le_refl _); rwa [List.take_length] at this
        have hsn := stI_snoc rows word pre x
        generalize word.getD x.val 0 = z at *
        generalize rr.valOf vals1 vals2 z = y at *
        have hP : Calls Try.prog 37 #[.pointer (some ⟨w2.heap.size, 0, none⟩), y] W fun e w' => (∃ r, e = .returned r) ∧ ∃ ao' cap', Boxed w' w2.heap.size 56 (.slice ao' (stI rows word (pre ++ [x])).length cap') ∧ Row w' W5.heap.size (.slice ao' (stI rows word (pre ++ [x])).length cap') (stI rows word (pre ++ [x])) ∧ KeepsOthers W w' ∧ KB W5.heap.size w2.heap.size W w' := by
          have fin : ∀ (e : Ending) (w' : World), ((∃ r, e = .returned r) ∧ ∃ v' c, Canc (stI rows word pre) (imR rows z) c ∧ Boxed w' w2.heap.size 56 v' ∧ Row w' W5.heap.size v' (pushL (stI rows word pre) (imR rows z) c) ∧ KeepsOthers W w' ∧ KB W5.heap.size w2.heap.size W w') → ((∃ r, e = .returned r) ∧ ∃ ao' cap', Boxed w' w2.heap.size 56 (.slice ao' (stI rows word (pre ++ [x])).length cap') ∧ Row w' W5.heap.size (.slice ao' (stI rows word (pre ++ [x])).length cap') (stI rows word (pre ++ [x])) ∧ KeepsOthers W w' ∧ KB W5.heap.size w2.heap.size W w') := by
            rintro e w' ⟨he, v', c, hcc, hbx, hrw, hko, hbe⟩
            rw [push_fold hcc hi3, hsn] at hrw
            obtain ⟨ao', cap', rfl⟩ := ints_val (row_own hrw).ints
            exact ⟨he, ao', cap', hbx, hrw, hko, hbe⟩
          have hoi := ho.ints
          rcases ho.1.2 with ⟨h1, h2⟩ | ⟨g, c, cur, h1, h2, h3, h4, h5, h6, h7⟩
          · have h0 : imR rows z = [] := List.length_eq_zero_iff.1 h2
            rw [h0] at fin
            subst h1
            exact (push0K (stI rows word pre) v w2.heap.size W5.heap.size W hv hrow hsz (by omega)).mono fin
          · subst h1
            exact (pushK (stI rows word pre) (imR rows z) v w2.heap.size W5.heap.size W.heap.size g 0 c W hv hrow hsz trivial hoi (Nat.le_refl _) ⟨h4, by unfold maxLen at h5; omega⟩ (by omega) (by omega) hi2).mono fin
        have HP := hid hP
        have HRCW := hid (HRC.out.kb hKB (by omega) (by omega))
        have HK := hid hKB
        have HPF := hid hpf
        have hd : 1 ≤ 3 - 1 - 1 := by omega
        have hlen : pre.length + 1 ≤ word.length := by omega
        generalize hL : (stI rows word (pre ++ [x])).length = L at *
        clear hP ho hi1 hi2 hi3 hst hsn hg hpf hKB hrow hv hx
        by_cases hf : L ≤ 20000
        · have hf' : ((L : Nat) : Int) ≤ 20000 := by omega
          gi_wp2_with (refine ⟨trivial, ?_⟩; gi_at_call 37; refine (CallsIn.inRound l (callsIn_wide.2 HP.out)).mono ?_; rintro e w' ⟨⟨r, rfl⟩, ao', cap', hbx, hrw, hko, hbe⟩; have hcx := hbx.cell; have HB := hid hbx; have HW := hid hrw; have HKO := hid hko; have HBE := hid hbe; clear hbx hrw hko hbe)
          refine ⟨HKO.out.from _, HBE.out, ⟨⟨_, HB.out, ?_, trivial⟩, ?_⟩, HK.out.trans HBE.out⟩
          · have := HW.out
            unfold Row at this
            rw [hL] at this ⊢
            exact this
          · intro j hj
            by_cases hjl : j ≤ pre.length
            · rw [List.take_append_of_le_length hjl]; exact HPF.out j hjl
            · obtain rfl : j = (pre ++ [x]).length := by simp at hj ⊢; omega
              rw [List.take_length, hL]; exact hf
        · have hf' : ¬ ((L : Nat) : Int) ≤ 20000 := by omega
          gi_wp2_with (refine ⟨trivial, ?_⟩; gi_at_call 37; refine (CallsIn.inRound l (callsIn_wide.2 HP.out)).mono ?_; rintro e w' ⟨⟨r, rfl⟩, ao', cap', hbx, hrw, hko, hbe⟩; have hcx := hbx.cell; have HC2 := hid (HRCW.out.kb hbe (by omega) (by omega)); have q1 := HC2.out.r1.cell; have q2 := HC2.out.r2.cell; have q3 := HC2.out.r1.frozen; have q4 := HC2.out.r2.frozen; have HKO := hid hko; clear hbx hrw hko hbe)
          exact ⟨((HKO.out.trans (KeepsOthers.setCell _ _ _)).trans (KeepsOthers.setCell _ _ _)).from _, ⟨rfl, by rw [hL]; exact hf, by simp; omega⟩, HC2.out.set _ _⟩
      case done =>
        rintro D ys W hD hys ⟨⟨⟨v, hv, hrow, _⟩, hpf⟩, hKB⟩ hK
        obtain ⟨hay, hst⟩ := HF1.out ys hys hpf
        obtain ⟨hc0, hw0⟩ := HO1.out hay
        have HST := hid hst
        have HHK := hid hK
        have HB2 := hid hKB
        simp only [hst] at hrow
        clear hst hK hKB hpf hys
        obtain ⟨ao', cap', rfl⟩ := ints_val (row_own hrow).ints
        have hcx := hv.cell
        have HC2 := hid (HRC.out.kb HB2.out (by omega) (by omega))
        have q1 := HC2.out.r1.cell
        have q2 := HC2.out.r2.cell
        have q3 := HC2.out.r1.frozen
        have q4 := HC2.out.r2.frozen
        have HRW := hid hrow
        clear hrow
        gi_wp2
        have hK2 : ((W.setCell ⟨w.heap.size, 0, none⟩ (.slice ao' (ayL rows word).length cap')).setCell ⟨w.heap.size + 1, 0, none⟩ (.int .i64 0)).heap[D]? = some (.deferred (some [])) := by
          rw [← HHK.out]
          simp [World.setCell, Array.getElem?_modify, show ¬ w.heap.size = D by omega, show ¬ w.heap.size + 1 = D by omega]
        have o1 := own_kept (row_own HRW.out) (grownBy_setCell' W w.heap.size (.slice ao' (ayL rows word).length cap')) (fun k e h => by cases e; have := ((show Row W _ _ _ from HRW.out).lt _ h).1; omega)
        have o2 := own_kept o1 (grownBy_setCell' _ (w.heap.size + 1) (.int .i64 0)) (fun k e h => by cases e; have := ((show Row W _ _ _ from HRW.out).lt _ h).1; omega)
        have r3 := ownsRow_putObj o2.1 (.deferred none) hK2 rfl
        have hrc := (HC2.out.set (.slice ao' (ayL rows word).length cap') 0).kb (kb_put (P := w2.heap.size) (Nat.le_refl W5.heap.size) _ D _ (.deferred none) hD hK2 rfl rfl) (by omega) (by omega)
        refine ⟨by simp, .inl ⟨_, _, rfl, run_takeDeferred hK2, ?_⟩⟩
        have z1 := hrc.r1.cell
        have z2 := hrc.r2.cell
        refine ⟨.tuple #[.slice ao' (ayL rows word).length cap', .int .i64 0], ?_, _, by rw [hc0], by rw [hw0]; exact (sl.Own.mk' r3).lo (by omega), hrc.bl⟩
        simp [results, Try.results10, go_sem, z1, z2]
      case stop =>
        rintro D c pre W hD hsp ⟨⟨rfl, hf, hlen⟩, hrc⟩ hK
        have hay := HF2.out pre hsp hlen hf
        obtain ⟨hc0, hw0⟩ := HO2.out hay
        gi_wp2
        have hrc2 := hrc.kb (kb_put (P := w2.heap.size) (Nat.le_refl W5.heap.size) _ D _ (.deferred none) hD hK rfl rfl) (by omega) (by omega)
        refine ⟨by simp, .inl ⟨_, _, rfl, run_takeDeferred hK, ?_⟩⟩
        have z1 := hrc2.r1.cell
        have z2 := hrc2.r2.cell
        refine ⟨.tuple #[.slice none 0 0, .int .i64 5], ?_, _, by rw [hc0], by rw [hw0]; exact sl.Own.nil _ _, hrc2.bl⟩
        simp [results, Try.results10, go_sem, z1, z2]
theorem implAAq (rows : List (List Int)) (word : List Int) (v u : Value) (B C : Nat) (w : World) (ha : RowsC w B v rows) (hb : Ints w C u word) (hB : B ≤ w.heap.size) (hC : C ≤ w.heap.size) (hq : SmallR rows) (hn : l5.Small word) :
    Calls Try.prog 10 #[v, u] w fun e w' => ∃ v', e = .returned (.tuple #[v', .int .i64 (aaC rows word)]) ∧ sl.Own w' w.heap.size w'.heap.size v' (aaW rows word) ∧ Below w.heap.size w w' :=
  implAA rows word v u B C w ha hb hB hC hq (by have := hn.len; omega)
theorem specAAq (rows : List (List Int)) (word : List Int) (v u : Value) (B C : Nat) (w : World) (ha : RowsC w B v rows) (hb : Ints w C u word) (hB : B ≤ w.heap.size) (hC : C ≤ w.heap.size) (hq : SmallR rows) (hn : l5.Small word) :
    Calls Try.prog 7 #[v, u] w fun e w' => ∃ v', e = .returned (.tuple #[v', .int .i64 (aaC rows word)]) ∧ sl.Own w' w.heap.size w'.heap.size v' (aaW rows word) ∧ Below w.heap.size w w' :=
  specAA rows word v u B C w ha hb hB hC hq (by have := hn.len; omega)
end Go.Proofs.Ytfechjhngcmdpab.aa
