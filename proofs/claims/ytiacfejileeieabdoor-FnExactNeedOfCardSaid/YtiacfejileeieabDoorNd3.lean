/-
  sumOver of the program, at stitches' columns.
-/
import Derived.Test.YtiacfejileeieabDoorPvj
import Derived.Test.YtiacfejileeieabDoorPiu
import Derived.Stop.RegionWithIn
import Derived.Test.YtiacfejileeieabDoorNd0
import Derived.Test.YtiacfejileeieabDoorQl
namespace Go.Proofs.YtiacfejileeieabDoor.pc
open Go.RowKit Go.Sort Go.Proofs.YtiacfejileeieabDoor.sl Go.Proofs.YtiacfejileeieabDoor.st
set_option linter.unusedVariables false
set_option linter.unusedSimpArgs false
attribute [local go_sem] Oper.semAt_some

theorem ownFrom_boxedS {β : Type} (B b : Nat) (t : TypeId) (f : β → Value) : OwnFrom B (fun (s : β) W => Boxed W b t (f s)) := fun s X Y row hv hg hr => hv.kept hg (fun e' => by
  obtain ⟨_, o, ho, hc⟩ := hr b e'.symm
  rw [show X.heap[b]? = _ from hv] at ho; cases ho; cases hc)
def fnT : Value := .func (.func 29) #[] #[]
/-- What holds between two rounds of sumOver. -/
def SoI (w W1 : World) (xs : List V) (pre : List (OM xs)) (W : World) : Prop :=
  Boxed W (w.heap.size + 1) 2 (.int .i64 (sumI (pre.map fun p => valAt tk xs p.val.val))) ∧ Boxed W w.heap.size 55 fnT ∧ Below w.heap.size w W ∧ Below w.heap.size W1 W
def SoA (w : World) (v : Value) (xs : List V) (iv : OM xs → Value) (x : OM xs) (act : Act) (W : World) : Prop :=
  ∃ q : Nat, w.heap.size + 3 ≤ q ∧ act = { tmps := #[v, fnT, undef, .pointer (some ⟨w.heap.size, 0, none⟩), .int .i64 0, .pointer (some ⟨w.heap.size + 1, 0, none⟩), .pointer (some ⟨q, 0, none⟩), iv x, v, .func (.func 76) #[] #[.pointer (some ⟨w.heap.size + 2, 0, none⟩)], (xs.getD x.val.val oz).val, iv x, undef, undef, undef, undef, undef, undef, undef, undef, undef, undef, undef, undef, undef, undef, undef, undef, undef, undef, undef, undef], defers := [] } ∧
    W.heap[q]? = some (.cells #[.int .i64 (xs.getD x.val.val oz).a0, .int .i64 (xs.getD x.val.val oz).a1, .int .i64 (xs.getD x.val.val oz).a2] 51 (0, 0))
theorem ownFrom_soA (B : Nat) (w : World) (v : Value) (xs : List V) (iv : OM xs → Value) (x : OM xs) (act : Act) : OwnFrom B (fun (_ : Unit) W => SoA w v xs iv x act W) := fun s X Y row ⟨q, h0, h1, h2⟩ hg hr => ⟨q, h0, h1, ownFrom_cells (β := Unit) B q _ rfl s X Y row h2 hg hr⟩
/-- Every outer piece of a valid list is valid. -/
theorem outs_arP {g : Nat} {xs : List V} : ∀ (n k : Nat), xs.length - k = n → arP g (xs.drop k) = true → ∀ p ∈ outs xs k, arP g (xs.drop p) = true := by
  intro n
  induction n using Nat.strongRecOn with
  | _ n ih =>
    intro k hk h p hp
    by_cases hl : k < xs.length
    · rw [outs_lt hl] at hp
      rcases List.mem_cons.1 hp with rfl | hp
      · exact h
      · exact ih (xs.length - nx xs k) (by have := nx_gt xs k; omega) (nx xs k) rfl (arP_at h hl).2.2.2 p hp
    · rw [outs_ge hl] at hp; cases hp
theorem valAt_b {xs : List V} {g k : Nat} (h : arP g (xs.drop k) = true) (hk : k < xs.length) : 0 ≤ valAt tk xs k ∧ valAt tk xs k ≤ 262144 * (xs.length : Int) := by
  have h1 := sum_b h
  have h2 := sumP_at tk hk
  have h3 := sum_b (arP_at h hk).2.2.2
  have e : valAt tk xs k = (xs.getD k oz).a1 * (if grp (xs.getD k oz) then sumP tk (inside xs k) else tk (xs.getD k oz).a0) := rfl
  obtain ⟨hv, ha2, hi, hn⟩ := arP_at h hk
  have hvp := vld_parts hv
  have hl : ((xs.drop k).length : Int) ≤ (xs.length : Int) := by rw [List.length_drop]; omega
  have h5 : 0 ≤ valAt tk xs k := by
    rw [e]
    cases hg : grp (xs.getD k oz)
    · simp only [Bool.false_eq_true, if_false]
      exact Int.mul_nonneg hvp.2.1 (tk_bound (hvp.2.2.2.1 hg).1).1
    · simp only [if_true]
      exact Int.mul_nonneg hvp.2.1 (sum_b hi).1
  rw [← e] at h2
  omega
theorem sumI_b {xs : List V} {g : Nat} (har : arP g xs = true) (hlen : xs.length ≤ 24) : ∀ (pre : List (OM xs)), 0 ≤ sumI (pre.map fun p => valAt tk xs p.val.val) ∧ sumI (pre.map fun p => valAt tk xs p.val.val) ≤ 6291456 * (pre.length : Int)
  | [] => by simp [sumI]
  | p :: pre => by
    have ih := sumI_b har hlen pre
    have har0 : arP g (xs.drop 0) = true := by rw [List.drop_zero]; exact har
    have h1 := valAt_b (outs_arP (g := g) xs.length 0 (by omega) har0 p.val.val p.property) p.val.isLt
    simp only [List.map_cons, sumI, List.foldr_cons, List.length_cons] at ih ⊢
    have : (xs.length : Int) ≤ 24 := by omega
    push_cast
    omega
set_option maxRecDepth 100000 in
set_option maxHeartbeats 8000000 in
theorem sumOverC : ∀ (N : Nat) (xs : List V) (v : Value) (B g : Nat) (w : World), xs.length = N → OpsC w B v xs → B ≤ w.heap.size → xs.length ≤ 24 → arP g xs = true → stb.Tab w →
    Calls Tryd.prog 28 #[v, fnT] w fun e w' => e = .returned (.int .i64 (sumP tk xs)) ∧ Below w.heap.size w w' := by
  intro N
  induction N using Nat.strongRecOn with
  | _ N ih =>
  intro xs v B g w hN ha hB hlen har hT
  obtain ⟨ao, cap, hv⟩ := opsC_val ha
  have HA := hid ha
  have HIH := hid ih
  have HT := hid hT
  have HAr := hid har
  clear ha ih hT
  have hvs : ∃ ao len cap, v = .slice ao len cap := ⟨_, _, _, hv⟩
  clear hv
  refine (callsIn_wide (n := 3)).1 ?_
  have hro : Fence.wide.round = none := rfl
  refine callsIn_of_wp_marks Tryd.func28 rfl trivial ?_ hro
  simp only [Tryd.ntmps28, List.size_toArray, List.length_cons, List.length_nil, Nat.reduceAdd, Nat.reduceSub, Array.replicate_succ, Array.replicate_zero, List.push_toArray, List.append_toArray, List.nil_append, List.cons_append]
  gi_wp2_with (refine ⟨trivial, ?_⟩; gi_at_call 53; refine (callsIn_wide.2 (outerP v _ hvs)).mono ?_; rintro e w1 ⟨rfl, rfl⟩)
  have hS : (((w.alloc (.cells #[fnT] 55)).alloc (.cells #[.int .i64 0] 2)).alloc (.cells #[v] 26)).heap.size = w.heap.size + 3 := by simp
  have hB1 : Below w.heap.size w (((w.alloc (.cells #[fnT] 55)).alloc (.cells #[.int .i64 0] 2)).alloc (.cells #[v] 26)) := (((Below.refl _ w).alloc (by simp) _).alloc (by simp) _).alloc (by simp; omega) _
  have hb0 : Boxed (((w.alloc (.cells #[fnT] 55)).alloc (.cells #[.int .i64 0] 2)).alloc (.cells #[v] 26)) w.heap.size 55 fnT := ((Boxed.new w _ _).alloc _).alloc _
  have hb1 : Boxed (((w.alloc (.cells #[fnT] 55)).alloc (.cells #[.int .i64 0] 2)).alloc (.cells #[v] 26)) (w.heap.size + 1) 2 (.int .i64 0) := (show Boxed _ (w.heap.size + 1) _ _ from by simpa using Boxed.new (w.alloc (.cells #[fnT] 55)) 2 (.int .i64 0)).alloc _
  have hb2 : Boxed (((w.alloc (.cells #[fnT] 55)).alloc (.cells #[.int .i64 0] 2)).alloc (.cells #[v] 26)) (w.heap.size + 2) 26 v := by simpa using Boxed.new ((w.alloc (.cells #[fnT] 55)).alloc (.cells #[.int .i64 0] 2)) 26 v
  generalize hW1 : (((w.alloc (.cells #[fnT] 55)).alloc (.cells #[.int .i64 0] 2)).alloc (.cells #[v] 26)) = W1 at *
  clear hW1
  obtain ⟨iv, HIv, hseq⟩ := outer_stopsM (3 - 1) (by omega) xs v (w.heap.size + 2) w.heap.size W1 ((HA.out.mono hB).below hB1) (by omega) (by omega) (by omega) hb2.cell
  have hIown : OwnFrom W1.heap.size (SoI w W1 xs) := OwnFrom.and (ownFrom_boxedS _ _ _ _) (OwnFrom.and (ownFrom_boxed _ _ _ _) (OwnFrom.and (ownFrom_below (Nat.le_refl _) (by omega)) (ownFrom_below (by omega) (by omega))))
  refine wpIn_rangeFunc_ownH hro (by omega) (gf := 76) (lb := #[.pointer (some ⟨w.heap.size + 2, 0, none⟩)]) rfl trivial (enters_of Tryd.func76 (by kernel_rfl) rfl)
    hseq (fun h k => h.trans k) (kq_put (by omega) (by omega)) (Below.refl _ _) (fun _ => rfl)
    (SoI w W1 xs) (fun _ _ _ => False) hIown (fun _ _ _ _ _ hs _ _ => hs) ⟨hb1, hb0, hB1, Below.refl _ _⟩ (SoA w v xs iv) (fun x a' => ownFrom_soA _ w v xs iv x a') ?assign ?body ?done ?stop
  case assign =>
    intro l pre x W K hI hK
    have hsz := hI.2.2.2.size
    obtain ⟨z, hz⟩ : ∃ z, z = xs.getD x.val.val oz := ⟨_, rfl⟩
    simp only [V.val]
    rw [← hz]
    have Hz := hid hz
    clear hz
    gi_wp2
    refine hK _ _ ((KeepsOthers.alloc W _).from _) (KQ.ofBelow ((Below.refl _ _).alloc (Nat.le_refl _) _) (by omega) (by omega)) (hIown.alloc _ hI) ⟨W.heap.size, by omega, ?_, ?_⟩
    · rw [← Hz.out]; rfl
    · rw [← Hz.out]; exact World.alloc_heap_new W _
  case body =>
    rintro l pre x a' W hl hr ⟨hbx, hbf, hbw, hbz⟩ ⟨q, hq3, rfl, hq2⟩ hplen
    have hsz := hbz.size
    have har0 : arP g (xs.drop 0) = true := by rw [List.drop_zero]; exact HAr.out
    have hax := outs_arP (g := g) xs.length 0 (by omega) har0 x.val.val x.property
    have hvb := valAt_b hax x.val.isLt
    have hsb := sumI_b HAr.out hlen pre
    obtain ⟨hv, ha2, hain, hanx⟩ := arP_at hax x.val.isLt
    have hvp := vld_parts hv
    have hval : valAt tk xs x.val.val = (xs.getD x.val.val oz).a1 * (if grp (xs.getD x.val.val oz) then sumP tk (inside xs x.val.val) else tk (xs.getD x.val.val oz).a0) := rfl
    have hil := inside_lt xs x.val.val x.val.isLt
    have HSn := hid (sumI_snoc (pre.map fun p => valAt tk xs p.val.val) (valAt tk xs x.val.val))
    have hIx : OpsC W w.heap.size (iv x) (inside xs x.val.val) := (HIv x).chg (lo := w.heap.size) (hi := W.heap.size) ⟨hbz.os, hbz.tape, hbz.output, hbz.size, fun k hk hn => hbz.block k (by omega)⟩ (.inl (Nat.le_refl _))
    have hbwz := hbw.size
    have HRec := hid (fun (X : World) (b : Below W.heap.size W X) => HIH.out (inside xs x.val.val).length (by omega) (inside xs x.val.val) (iv x) w.heap.size (g + 1) X rfl (hIx.below b) (by have := b.size; omega) (by omega) hain (stb.carry HT.out (hbw.trans (b.mono hbwz))))
    have HTk := hid (fun (k : Int) (X : World) (b : Below W.heap.size W X) => implTaken k X (stb.carry HT.out (hbw.trans (b.mono hbwz))))
    obtain ⟨aoi, capi, hiv⟩ := opsC_val hIx
    have HGp := hid (fun W => isGroupC (xs.getD x.val.val oz) W)
    obtain ⟨s, hs⟩ : ∃ s, s = sumI (pre.map fun p => valAt tk xs p.val.val) := ⟨_, rfl⟩
    rw [← hs] at hbx hsb HSn
    obtain ⟨r, hrr⟩ : ∃ r, r = valAt tk xs x.val.val := ⟨_, rfl⟩
    rw [← hrr] at hvb hval HSn
    have hfin : ∀ X, Below W.heap.size W X → KeepsFrom W1.heap.size W (X.setCell ⟨w.heap.size + 1, 0, none⟩ (.int .i64 (s + r))) ∧ KQ w.heap.size (w.heap.size + 2) W (X.setCell ⟨w.heap.size + 1, 0, none⟩ (.int .i64 (s + r))) ∧ SoI w W1 xs (pre ++ [x]) (X.setCell ⟨w.heap.size + 1, 0, none⟩ (.int .i64 (s + r))) := fun X b => by
      have hb1X : Boxed X (w.heap.size + 1) 2 (.int .i64 s) := hbx.kept (grown_of b) (by simp)
      have hbfX : Boxed X w.heap.size 55 fnT := hbf.kept (grown_of b) (by simp)
      have hset := hb1X.set (.int .i64 (s + r))
      refine ⟨((KeepsOthers.of_grownBy (grown_of b) (fun j o e => by cases e)).trans (KeepsOthers.setCell _ _ _)).from _, ⟨(b.mono (by omega)).setCell (p := ⟨w.heap.size + 1, 0, none⟩) (by simp) _, ?_⟩, ?_, ?_, (hbw.trans (b.mono hbwz)).setCell (p := ⟨w.heap.size + 1, 0, none⟩) (by simp) _, (hbz.trans (b.mono (by omega))).setCell (p := ⟨w.heap.size + 1, 0, none⟩) (by simp) _⟩
      · rw [heap_setCell_other X ⟨w.heap.size + 1, 0, none⟩ (w.heap.size + 2) _ (by simp)]
        exact b.block _ (by omega)
      · have e : sumI ((pre ++ [x]).map fun p => valAt tk xs p.val.val) = s + r := by
          rw [List.map_append, ← HSn.out, hrr]; rfl
        rw [e]; exact hset
      · exact (heap_setCell_other X ⟨w.heap.size + 1, 0, none⟩ w.heap.size _ (by simp)).trans hbfX
    have HFin := hid hfin
    have HC : Hid (∀ X, Below W.heap.size W X → X.cell? ⟨w.heap.size, 0, none⟩ = some fnT ∧ X.cell? ⟨w.heap.size + 1, 0, none⟩ = some (.int .i64 s) ∧ X.frozen? ⟨w.heap.size + 1, 0, none⟩ = false ∧ X.cell? ⟨q, 0, none⟩ = some (.int .i64 (xs.getD x.val.val oz).a0) ∧ X.cell? ⟨q, 1, none⟩ = some (.int .i64 (xs.getD x.val.val oz).a1) ∧ X.cell? ⟨q, 2, none⟩ = some (.int .i64 (xs.getD x.val.val oz).a2)) := hid fun X b => by
      have hb0X : Boxed X w.heap.size 55 fnT := hbf.kept (grown_of b) (by simp)
      have hb1X : Boxed X (w.heap.size + 1) 2 (.int .i64 s) := hbx.kept (grown_of b) (by simp)
      have hql := (Array.getElem?_eq_some_iff.1 hq2).1
      exact ⟨hb0X.cell, hb1X.cell, hb1X.frozen, (b.cell (p := ⟨q, 0, none⟩) hql).trans (by simp [World.cell?, hq2]), (b.cell (p := ⟨q, 1, none⟩) hql).trans (by simp [World.cell?, hq2]), (b.cell (p := ⟨q, 2, none⟩) hql).trans (by simp [World.cell?, hq2])⟩
    clear hfin hbx hbf hbw hbz hIx hq2 hs hrr hax hanx hv
    generalize inside xs x.val.val = ys at *
    generalize xs.getD x.val.val oz = z at *
    obtain ⟨z0, z1, z2⟩ := z
    simp only [V.val] at HGp HC hval hvp ⊢
    obtain ⟨c0, c1, f1, k0, k1, k2⟩ := HC.out W (Below.refl _ _)
    generalize iv x = u at *
    obtain ⟨yl, hyl⟩ : ∃ n, n = ys.length := ⟨_, rfl⟩
    simp only at ha2
    rw [← hyl] at ha2 hiv hil
    have HYL := hid hyl
    clear hyl
    subst hiv ha2
    have HA0 := hid ((Below.refl W.heap.size W).alloc (Nat.le_refl _) (.cells #[.int .i64 z0, .int .i64 z1, .int .i64 (yl : Int)] 51))
    cases hg : grp ⟨z0, z1, (yl : Int)⟩
    · rw [hg] at HGp hval
      simp only [Bool.false_eq_true, if_false] at hval
      obtain ⟨hkn, hz2⟩ := hvp.2.2.2.1 hg
      have hkb := tk_bound hkn
      have hm1 : IntKind.i64.wrap (z1 * tk z0) = r := by rw [← hval]; exact IntWalk.i64_in _ (by omega)
      have hm2 : IntKind.i64.wrap (s + r) = s + r := IntWalk.i64_in _ (by omega)
      have HTz := hid (fun X (b : Below W.heap.size W X) => HTk.out z0 X b)
      obtain ⟨tz, htz⟩ : ∃ t, t = tk z0 := ⟨_, rfl⟩
      rw [← htz] at HTz hm1
      clear hvp hval hkn hz2 hkb htz hg hvb hsb HRec HTk
      gi_wp2_with (refine ⟨trivial, ?_⟩; gi_at_call 54; refine (CallsIn.inRound l (callsIn_wide.2 (HGp.out _))).mono ?_; rintro e w' ⟨rfl, rfl⟩; obtain ⟨d0, d1, g1, e0, e1, e2⟩ := HC.out _ HA0.out)
      generalize hWa : W.alloc (.cells #[.int .i64 z0, .int .i64 z1, .int .i64 (yl : Int)] 51) = Wa at *
      clear hWa c0 c1 f1 k0 k1 k2 hb0 hb1 hb2 hB1 hS hseq HIv HA HIH hIown hvs HT HAr hplen hr hl hil har0 HSn hq3 hsz hbwz hN hB hlen HGp d0 d1 g1 e0 e1 e2
      have HX := hid (fun d os => HA0.out.trans ((below_regrown Wa d os).mono HA0.out.size))
      have c0 := fun d os => (HC.out _ (HX.out d os)).1
      have c1 := fun d os => (HC.out _ (HX.out d os)).2.1
      have c2 := fun d os => (HC.out _ (HX.out d os)).2.2.2.1
      have c3 := fun d os => (HC.out _ (HX.out d os)).2.2.2.2.1
      simp only [fnT] at c0
      refine ql.region_last [_, _, _, _, _, _, _, _, _] _ (by kernel_rfl) (by kernel_rfl) (by kernel_rfl) (by kernel_rfl) (by kernel_rfl) ?_
      have hwide : ∀ k : FuncId, Fence.wide.fn k := fun _ => trivial
      repeat (gi_big_quiet_step ((gi_at_call 29; exact CallsIn.inRound l (CallsIn.regrown_of (callsIn_wide.2 (HTz.out _ (HX.out _ _)))))))
      refine wpQuietIn_nil ?_
      intro _ hw'
      obtain ⟨⟨nq, osq⟩, hw''⟩ := hw'
      subst hw''
      clear c0 c1 c2 c3
      have HB2 := hid (HX.out nq osq)
      clear HX HA0
      simp only at HB2 ⊢
      generalize grow (redrawn Wa nq) osq = W2 at *
      obtain ⟨p0, p1, h1, n0, n1, n2⟩ := HC.out _ HB2.out
      refine wpOpIn_step rfl (fun K hK => ?_)
      go_simp
      refine hK _ _ ?_
      clear hK K
      exact HFin.out _ HB2.out
    · rw [hg] at HGp hval
      simp only [if_true] at hval
      have HRz := hid (fun X (b : Below W.heap.size W X) => HRec.out X b)
      obtain ⟨tz, htz⟩ : ∃ t, t = sumP tk ys := ⟨_, rfl⟩
      rw [← htz] at HRz hval
      have hm1 : IntKind.i64.wrap (z1 * tz) = r := by rw [← hval]; exact IntWalk.i64_in _ (by omega)
      have hm2 : IntKind.i64.wrap (s + r) = s + r := IntWalk.i64_in _ (by omega)
      clear hvp hval htz hg hvb hsb HRec HTk
      gi_wp2_with (refine ⟨trivial, ?_⟩; gi_at_call 54; refine (CallsIn.inRound l (callsIn_wide.2 (HGp.out _))).mono ?_; rintro e w' ⟨rfl, rfl⟩; obtain ⟨d0, d1, g1, e0, e1, e2⟩ := HC.out _ HA0.out)
      generalize hWa : W.alloc (.cells #[.int .i64 z0, .int .i64 z1, .int .i64 (yl : Int)] 51) = Wa at *
      clear hWa c0 c1 f1 k0 k1 k2 hb0 hb1 hb2 hB1 hS hseq HIv HA HIH hIown hvs HT HAr hplen hr hl hil hain HYL har0 HSn hq3 hsz hbwz hN hB hlen HGp d0 d1 g1 e0 e1 e2
      have HX := hid (fun d os => HA0.out.trans ((below_regrown Wa d os).mono HA0.out.size))
      have c0 := fun d os => (HC.out _ (HX.out d os)).1
      have c1 := fun d os => (HC.out _ (HX.out d os)).2.1
      have c3 := fun d os => (HC.out _ (HX.out d os)).2.2.2.2.1
      simp only [fnT] at c0
      refine ql.region_last [_, _, _, _, _, _, _, _] _ (by kernel_rfl) (by kernel_rfl) (by kernel_rfl) (by kernel_rfl) (by kernel_rfl) ?_
      have hwide : ∀ k : FuncId, Fence.wide.fn k := fun _ => trivial
      repeat (gi_big_quiet_step ((gi_at_call 28; exact CallsIn.inRound l (CallsIn.regrown_of (callsIn_wide.2 (HRz.out _ (HX.out _ _)))))))
      refine wpQuietIn_nil ?_
      intro _ hw'
      obtain ⟨⟨nq, osq⟩, hw''⟩ := hw'
      subst hw''
      clear c0 c1 c3
      have HB2 := hid (HX.out nq osq)
      clear HX HA0
      simp only at HB2 ⊢
      generalize grow (redrawn Wa nq) osq = W2 at *
      obtain ⟨p0, p1, h1, n0, n1, n2⟩ := HC.out _ HB2.out
      refine wpOpIn_step rfl (fun K hK => ?_)
      go_simp
      refine hK _ _ ?_
      clear hK K
      exact HFin.out _ HB2.out
  case done =>
    rintro D ys W hD hys ⟨hbx, hbf, hbw, hbz⟩ hK
    have c1 := hbx.cell
    have hR : sumI (ys.map fun p => valAt tk xs p.val.val) = sumP tk xs := by
      have hs := sumP_outs tk xs xs.length 0 (by omega)
      rw [List.drop_zero, ← hys, List.map_map] at hs
      exact hs.symm
    rw [hR] at c1
    have HBF := hid (hbw.trans (belowK_b (n₀ := w.heap.size) (w := W1) (by omega) W D _ (.deferred none) hD hK rfl rfl))
    have HKK := hid hK
    obtain ⟨T, hT9⟩ : ∃ T, T = sumP tk xs := ⟨_, rfl⟩
    rw [← hT9] at c1
    have HT9 := hid hT9
    clear hR hbx hbf hbw hbz hK hys hT9
    gi_wp2
    refine ⟨by simp, .inl ⟨_, _, rfl, run_takeDeferred HKK.out, ?_⟩⟩
    exact ⟨_, results_tmp rfl _ _ _, by rw [← HT9.out]; first | rfl | simp, HBF.out⟩
  case stop =>
    rintro D c pre W _ _ h _
    exact h.elim
end Go.Proofs.YtiacfejileeieabDoor.pc
