/-
  WalesOf: its rows; the program's continued and WalesOf.
-/
import Derived.Test.YtlhpipcmebmpdabWl0
import Derived.Test.YtlhpipcmebmpdabSr
namespace Go.Proofs.Ytlhpipcmebmpdab.mc
open Go.RowKit Go.Sort Go.Maps Go.Proofs.Ytlhpipcmebmpdab.sl Go.Proofs.Ytlhpipcmebmpdab.br Go.Proofs.Ytlhpipcmebmpdab.fn Go.Proofs.Ytlhpipcmebmpdab.ss Go.Proofs.Ytlhpipcmebmpdab.fb Go.Proofs.Ytlhpipcmebmpdab.wk
set_option linter.unusedVariables false
set_option linter.unusedSimpArgs false

/-- The first parents of the first k loops. -/
def ctL (ls : List nf.V) : Nat → List Int
  | 0 => []
  | k + 1 => match (ls.getD k nf.iz).ps with
    | [] => ctL ls k
    | q :: _ => ctL ls k ++ [q]
theorem ct_nil (ls : List nf.V) (k : Nat) (h : (ls.getD k nf.iz).ps = []) : ctL ls (k + 1) = ctL ls k := by simp only [ctL, h]
theorem ct_cons (ls : List nf.V) (k : Nat) (h : 0 < (ls.getD k nf.iz).ps.length) : ctL ls (k + 1) = ctL ls k ++ [(ls.getD k nf.iz).ps.getD 0 0] := by
  simp only [ctL]
  cases hp : (ls.getD k nf.iz).ps with
  | nil => rw [hp] at h; simp at h
  | cons q r => simp
theorem ct_len (ls : List nf.V) : ∀ k, (ctL ls k).length ≤ k := by
  intro k
  induction k with
  | zero => simp [ctL]
  | succ k ih =>
    simp only [ctL]
    split
    · omega
    · rw [List.length_append, List.length_singleton]; omega
/-- The wales of those of the first k loops that are not in c. -/
def wsR (ls : List nf.V) (c : List Int) : Nat → List (List Int)
  | 0 => []
  | k + 1 => if c.contains (k : Int) = true then wsR ls c k else wsR ls c k ++ [waleL ls k]
theorem wsR_yes (ls : List nf.V) (c : List Int) (k : Nat) (h : c.contains (k : Int) = true) : wsR ls c (k + 1) = wsR ls c k := by simp only [wsR, h, if_true]
theorem wsR_no (ls : List nf.V) (c : List Int) (k : Nat) (h : c.contains (k : Int) = false) : wsR ls c (k + 1) = wsR ls c k ++ [waleL ls k] := by
  simp only [wsR]
  rw [h]
  rfl
theorem wsR_len (ls : List nf.V) (c : List Int) : ∀ k, (wsR ls c k).length ≤ k := by
  intro k
  induction k with
  | zero => simp [wsR]
  | succ k ih =>
    simp only [wsR]
    split
    · omega
    · rw [List.length_append, List.length_singleton]; omega
theorem wsR_mem (ls : List nf.V) (c : List Int) : ∀ k, ∀ r ∈ wsR ls c k, r.length ≤ k + 1 := by
  intro k
  induction k with
  | zero => simp [wsR]
  | succ k ih =>
    intro r hr
    simp only [wsR] at hr
    split at hr
    · have := ih r hr; omega
    · rw [List.mem_append] at hr
      rcases hr with hr | hr
      · have := ih r hr; omega
      · simp only [List.mem_singleton] at hr
        subst hr
        have := waleT_len ls (k + 1) k
        rw [waleL, List.length_cons]
        omega
theorem tot_bound (rows : List (List Int)) (M : Nat) (h : ∀ r ∈ rows, r.length ≤ M) : ss.tot rows ≤ rows.length * M := by
  have e : ss.tot rows = (rows.map List.length).sum := by
    unfold ss.tot ss.pre ss.lens
    rw [List.take_of_length_le (by simp)]
  rw [e]
  clear e
  induction rows with
  | nil => simp
  | cons x rows ih =>
    have h1 := h x (by simp)
    have h2 := ih (fun r hr => h r (by simp [hr]))
    rw [List.map_cons, List.sum_cons, List.length_cons, Nat.succ_mul]
    omega
def wsW (a p : Int) (m : Mch) : List (List Int) := if okM a p m = true then wsR m.ls (ctL m.ls m.ls.length) m.ls.length else []
def wsC (a p : Int) (m : Mch) : Int := if okM a p m = true then 0 else 1
theorem wsW_ok (a p : Int) (m : Mch) : (wsW a p m).length ≤ 300 ∧ ∀ r ∈ wsW a p m, r.length ≤ 301 := by
  unfold wsW
  split
  · rename_i h
    have h1 := ls_len (okM_parts h)
    refine ⟨Nat.le_trans (wsR_len _ _ _) h1, fun r hr => ?_⟩
    have := wsR_mem _ _ _ r hr
    omega
  · simp
theorem wsW_len (a p : Int) (m : Mch) : (wsW a p m).length ≤ 1048576 ∧ ss.Short (wsW a p m) 1099511627776 ∧ ss.tot (wsW a p m) ≤ 1048576 := by
  obtain ⟨h1, h2⟩ := wsW_ok a p m
  refine ⟨by omega, fun j hj => ?_, ?_⟩
  · have := h2 ((wsW a p m).getD j []) (by simp [List.getD, List.getElem?_eq_getElem hj])
    omega
  · have := tot_bound (wsW a p m) 301 h2
    have h3 : (wsW a p m).length * 301 ≤ 300 * 301 := Nat.mul_le_mul_right 301 h1
    omega

set_option maxRecDepth 100000 in
set_option maxHeartbeats 4000000 in
theorem implCt (fp : Nat) (ls : List nf.V) (f3 : Value) (B : Nat) (w : World) (c0 : w.cell? ⟨fp, 0, none⟩ = some f3) (ha : nf.Infs w B f3 ls) (hB : B ≤ w.heap.size) (hl : ls.length ≤ 300) (hp : ParB ls) :
    Calls Try.prog 46 #[.pointer (some ⟨fp, 0, none⟩)] w fun e w' => e = .returned (.map (some w.heap.size)) ∧ SetM w' w.heap.size (ctL ls ls.length) ∧ Below w.heap.size w w' := by
  have hmm := @run_makeMap Try.prog
  have hpb := World.block_lt_of_cell? w _ c0
  have hB0 : Below w.heap.size w (w.alloc (.map #[] 0)) := (Below.refl _ w).alloc (Nat.le_refl _) _
  have HB0 := hid hB0
  have HC0 := hid c0
  have HPar := hid hp
  have HS0 : Hid (SetM (w.alloc (.map #[] 0)) w.heap.size []) := hid (World.ownsMap_made _ _ _ _)
  have y0 := (hB0.cell (p := ⟨fp, 0, none⟩) hpb).trans c0
  clear hB0 c0 hp
  rcases ha with ⟨rfl, ao, cap, rfl⟩ | ⟨hp, g, off, cap, F, rfl, hg, hc⟩
  · go_enter Try.func46, Try.ntmps46
    go_wp2
    refine wp_loop_rounds 1 ?_
    rw [rounds_succ]
    go_wp2
    go_ret
    exact ⟨rfl, HS0.out, HB0.out⟩
  · obtain ⟨n, hn⟩ : ∃ n, n = ls.length := ⟨_, rfl⟩
    have HN := hid hn
    have HC := hid hc
    rw [← hn] at hp hl y0 HC0 ⊢
    clear hc hn
    have hgl : g < w.heap.size := by omega
    go_enter Try.func46, Try.ntmps46
    go_wp2
    go_loopw [12] (fun i wr => ∃ k : Nat, k ≤ n ∧ i = .int .i64 k ∧ SetM wr w.heap.size (ctL ls k) ∧ Below w.heap.size w wr) (fun i _ => n - (intOf i).toNat)
    case atStart => exact ⟨0, Nat.zero_le _, rfl, HS0.out, HB0.out⟩
    case round =>
      obtain ⟨k, hk, rfl, hs, hbr⟩ := hrel
      have HS := hid hs
      have HBr := hid hbr
      have hzr := hbr.size
      clear hs hbr HS0 HB0 y0
      by_cases hlt : k < n
      · have hkl : k < ls.length := by rw [← HN.out]; exact hlt
        obtain ⟨hAt, hPs⟩ := HC.out k hkl
        obtain ⟨ao5, cap5, hfv⟩ := ints_val hPs
        rw [hfv] at hAt hPs
        have hAr := hAt.blk HBr.out.size (HBr.out.block g hgl)
        have z0 := hAr.c0
        have z1 := hAr.c1
        have z2 := hAr.c2
        have z3 := hAr.c3
        have z4 := hAr.c4
        have z5 := hAr.c5
        have HY := hid (fun h => ct_nil ls k h)
        have HNo := hid (fun h => ct_cons ls k h)
        have HLn := hid (ct_len ls k)
        have hk64 : IntKind.i64.wrap (k : Int) = (k : Int) := IntWalk.i64_in _ (by omega)
        generalize (ls.getD k nf.iz).a0 = v0 at *
        generalize (ls.getD k nf.iz).a1 = v1 at *
        generalize (ls.getD k nf.iz).a2 = v2 at *
        generalize (ls.getD k nf.iz).a3 = v3 at *
        generalize (ls.getD k nf.iz).a4 = v4 at *
        have hcase : ((ls.getD k nf.iz).ps = [] ∧ (ls.getD k nf.iz).ps.length = 0) ∨ (0 < (ls.getD k nf.iz).ps.length ∧ ∃ b6 off6 : Nat, ao5 = some ⟨b6, off6, none⟩ ∧ b6 < w.heap.size ∧ w.cell? ⟨b6, off6, none⟩ = some (.int .i64 ((ls.getD k nf.iz).ps.getD 0 0))) := by
          rcases hPs with ⟨h1, _⟩ | ⟨h1, b6, off6, cap6, hv, hb6, hc6⟩
          · exact .inl ⟨h1, by rw [h1]; rfl⟩
          · simp only [Value.slice.injEq, true_and] at hv
            exact .inr ⟨h1, b6, off6, hv.1, by omega, by have := hc6 0 h1; simpa using this⟩
        have HCs := hid hcase
        have HPk := hid (fun h => HPar.out k hkl 0 h)
        clear hAt hAr hfv hPs hcase
        generalize (ls.getD k nf.iz).ps.getD 0 0 = q at *
        obtain ⟨l5, hl5⟩ : ∃ l, l = (ls.getD k nf.iz).ps.length := ⟨_, rfl⟩
        rw [← hl5] at z5 HCs HPk HNo
        have bA : Below wr.heap.size wr (wr.alloc (.cells #[.int .i64 v0, .int .i64 v1, .int .i64 v2, .int .i64 v3, .int .i64 v4, .slice ao5 l5 cap5] 67)) := (Below.refl _ _).alloc (Nat.le_refl _) _
        have HBa := hid (HBr.out.trans (bA.mono HBr.out.size))
        have HSa := hid (HS.out.below bA)
        clear bA hl5
        rcases HCs.out with ⟨h0, h5⟩ | ⟨h5, b6, off6, rfl, hb6, hc6⟩
        · subst h5
          have HE := hid (HY.out h0)
          clear HY HNo HCs HPk h0
          go_wp2
          go_roundw
          case rel => exact ⟨k + 1, by omega, by go_num, by rw [HE.out]; exact HSa.out, HBa.out⟩
          case measure => simp [intOf]; omega
        · have HE := hid (HNo.out h5)
          have hq := HPk.out h5
          have h5I : (0 : Int) < (l5 : Int) := by omega
          have zy := (HBa.out.cell (p := ⟨b6, off6, none⟩) (by show b6 < _; omega)).trans hc6
          have HAd := hid (fun (W : World) (s : SetM W w.heap.size (ctL ls k)) => addC w.heap.size q (ctL ls k) W s (by omega) (by have := HLn.out; omega))
          clear HY HNo HCs HPk hc6 hq
          go_wp2_with (go_at_call 76; refine (HAd.out _ HSa.out).mono ?_; rintro e w1 ⟨⟨v, rfl⟩, hs1, hg1⟩; have HS1 := hid hs1; have HG1 := hid hg1; clear hs1 hg1)
          go_roundw
          case rel => exact ⟨k + 1, by omega, by go_num, by rw [HE.out]; exact HS1.out, HBa.out.grown HG1.out HBa.out.size (fun j hj => by cases hj; exact Nat.le_refl _)⟩
          case measure => simp [intOf]; omega
      · obtain rfl : k = n := by omega
        go_wp2
        go_ret
        exact ⟨rfl, HS.out, HBr.out⟩

set_option maxRecDepth 100000 in
set_option maxHeartbeats 4000000 in
theorem implWs (a p : Int) (m : Mch) (f0 f1 f2 f3 f4 : Value) (B : Nat) (w : World) (ha : MInC w B f0 f1 f2 f3 f4 m) (hB : B ≤ w.heap.size) (hq : Small m) :
    Calls Try.prog 14 #[.agg #[.int .i64 a, .int .i64 p, f0, f1, f2, f3, f4]] w fun e w' => ∃ v', e = .returned (.tuple #[v', .int .i64 (wsC a p m)]) ∧ ss.ROwn w' w.heap.size w'.heap.size v' (wsW a p m) ∧ Below w.heap.size w w' := by
  have HBad := hid (fun (h : okM a p m = false) W (hb : Below w.heap.size w W) => fabricBad a p m f0 f1 f2 f3 f4 B W (ha.below hb) (Nat.le_trans hB hb.size) hq h)
  have HGood := hid (fun (h : okM a p m = true) W (hb : Below w.heap.size w W) => fabricC a p m f0 f1 f2 f3 f4 B W (ha.below hb) (Nat.le_trans hB hb.size) hq h)
  have HInf := hid (fun (X : World) (h : Below w.heap.size w X) => (ha.below h).rd.h3)
  have HLs := hid (fun h : okM a p m = true => ls_len (okM_parts h))
  have HPar := hid (fun h : okM a p m = true => (fun k hk => (par_ok (okM_parts h) k hk).2.2 : ParB m.ls))
  obtain ⟨u, hu⟩ : ∃ u, u = okM a p m := ⟨_, rfl⟩
  obtain ⟨xs, hxs⟩ : ∃ xs, xs = wsW a p m := ⟨_, rfl⟩
  obtain ⟨d, hd⟩ : ∃ d, d = wsC a p m := ⟨_, rfl⟩
  rw [← hxs, ← hd]
  unfold wsW at hxs
  unfold wsC at hd
  rw [← hu] at hxs hd
  rw [← hu] at HBad HGood HLs HPar
  have HX1 := hid hxs
  have HD1 := hid hd
  obtain ⟨⟨a0, k0, rfl⟩, ⟨a1, k1, rfl⟩, ⟨a2, k2, rfl⟩, ⟨a3, k3, rfl⟩, ⟨a4, k4, rfl⟩⟩ := ha.vals
  clear ha hq hxs hd hu
  generalize m.fr.length = n0 at *
  generalize m.bk.length = n1 at *
  generalize m.cs.length = n2 at *
  obtain ⟨n3, hn3⟩ : ∃ n, n = m.ls.length := ⟨_, rfl⟩
  have HN3 := hid hn3
  rw [← hn3] at HBad HGood HInf HLs ⊢
  generalize m.dr.length = n4 at *
  have HX := hid (bx_new w 34 a p (.slice a0 n0 k0) (.slice a1 n1 k1) (.slice a2 n2 k2) (.slice a3 n3 k3) (.slice a4 n4 k4))
  clear hn3
  go_enter Try.func14, Try.ntmps14
  go_wp2_with fail
  generalize (w.alloc (.cells #[.int .i64 a, .int .i64 p, .slice a0 n0 k0, .slice a1 n1 k1, .slice a2 n2 k2, .slice a3 n3 k3, .slice a4 n4 k4] 34)) = W1 at *
  cases u with
  | false =>
    obtain rfl : xs = [] := HX1.out
    obtain rfl : d = 1 := HD1.out
    refine (HBad.out rfl W1 HX.out.b0).mono ?_
    rintro e W2 ⟨rfl, b2⟩
    have HB := hid (HX.out.b0.trans (b2.mono HX.out.b0.size))
    clear b2
    go_wp2
    go_ret2
    exact ⟨_, rfl, ⟨Nat.le_refl _, .inl ⟨rfl, _, _, rfl⟩⟩, HB.out⟩
  | true =>
    refine (HGood.out rfl W1 HX.out.b0).mono ?_
    rintro e W2 ⟨fp, cb, bL, bD, base, n, D, rfl, hF⟩
    have HF := hid hF
    have HB := hid (HX.out.b0.trans (hF.bl.mono HX.out.b0.size))
    have hl3 := HLs.out rfl
    have HPr := hid (HPar.out rfl)
    obtain rfl : d = 0 := HD1.out
    obtain rfl : xs = wsR m.ls (ctL m.ls m.ls.length) m.ls.length := HX1.out
    have hz2 : w.heap.size ≤ W2.heap.size := HB.out.size
    have hfp := World.block_lt_of_cell? W2 _ hF.c0
    have hc0 := hF.c0
    have HC0 := hid hc0
    clear hF HGood HBad HD1 HX1 HLs HPar
    have bE : Below W2.heap.size W2 (W2.alloc (.cells #[] 25)) := (Below.refl _ _).alloc (Nat.le_refl _) _
    have HBE := hid bE
    have HSE := hid (SR.made W2 W2.heap.size (Nat.le_refl _))
    have HFE := hid ((bE.cell (p := ⟨fp, 0, none⟩) hfp).trans hc0)
    have hzE : W2.heap.size < (W2.alloc (.cells #[] 25)).heap.size := by simp
    clear bE hc0
    go_wp2_with fail
    generalize W2.alloc (.cells #[] 25) = W3 at *
    refine (implCt fp m.ls (.slice a3 n3 k3) B W3 HFE.out (HInf.out W3 (HB.out.trans (HBE.out.mono hz2))) (Nat.le_trans hB (Nat.le_trans hz2 HBE.out.size)) (by rw [← HN3.out]; exact hl3) HPr.out).mono ?_
    rintro e W4 ⟨rfl, hs4, hb4⟩
    have HS4 := hid hs4
    have HB4 := hid (HBE.out.trans (hb4.mono HBE.out.size))
    have HSR4 := hid (HSE.out.below hb4)
    obtain ⟨c, hc⟩ : ∃ c, c = ctL m.ls m.ls.length := ⟨_, rfl⟩
    have HCx := hid hc
    rw [← hc] at HS4
    have z4 := (hb4.cell (p := ⟨fp, 0, none⟩) (by show fp < _; omega)).trans HFE.out
    clear hs4 hb4 HSE HFE hc HBE
    obtain ⟨pb, hpb⟩ : ∃ pb, pb = W3.heap.size := ⟨_, rfl⟩
    rw [← hpb] at HS4 hzE ⊢
    clear hpb
    have hne0 : (Value.slice (some ⟨W2.heap.size, 0, none⟩) 0 0).ownBlock ≠ some pb := by
      intro e
      have e2 : some W2.heap.size = some pb := e
      simp only [Option.some.injEq] at e2
      omega
    go_wp2
    go_loopw [6, 26] (fun v i wr => ∃ (k : Nat) (u : Value) (vals : List Value), k ≤ n3 ∧ v = u ∧ i = .int .i64 k ∧ SR wr W2.heap.size u vals (wsR m.ls c k) ∧ u.ownBlock ≠ some pb ∧ SetM wr pb c ∧ Below W2.heap.size W2 wr) (fun _ i _ => n3 - (intOf i).toNat)
    case atStart => exact ⟨0, _, _, Nat.zero_le _, rfl, rfl, HSR4.out, hne0, HS4.out, HB4.out⟩
    case round =>
      obtain ⟨k, u, vals, hk, rfl, rfl, hsr, hne, hsm, hbr⟩ := hrel
      have HSr := hid hsr
      have HNe := hid hne
      have HSm := hid hsm
      have HBr := hid hbr
      have HBw := hid (HB.out.trans (hbr.mono hz2))
      have hzr := hbr.size
      have hpr := World.ownsMap.lt hsm
      have HZr := hid ((hbr.cell (p := ⟨fp, 0, none⟩) hfp).trans HC0.out)
      have HLw := hid (wsR_len m.ls c k)
      clear hsr hsm hbr hne hne0 HSR4 HS4 HB4 z4
      by_cases hlt : k < n3
      · have HHas := hid (hasC pb (k : Int) c wr HSm.out (by omega))
        have HWl := hid (fun (W : World) (b : Below wr.heap.size wr W) => implWale fp k m.ls (.slice a3 n3 k3) B W ((b.cell (p := ⟨fp, 0, none⟩) (by show fp < _; omega)).trans HZr.out) (HInf.out W (HBw.out.trans (b.mono (by omega)))) (by have := b.size; omega) (by rw [← HN3.out]; exact hl3) (by rw [← HN3.out]; exact hlt) HPr.out)
        have HY := hid (wsR_yes m.ls c k)
        have HNo := hid (wsR_no m.ls c k)
        obtain ⟨t, ht⟩ : ∃ t, t = c.contains (k : Int) := ⟨_, rfl⟩
        rw [← ht] at HHas HY HNo
        clear ht
        cases t with
        | true =>
          have HE := hid (HY.out rfl)
          clear HY HNo HWl
          go_wp2_with (go_at_call 47; refine HHas.out.mono ?_; rintro e w5 ⟨rfl, b5⟩; have HB5 := hid b5; clear b5)
          go_roundw
          case rel => exact ⟨k + 1, _, _, by omega, rfl, by go_num, by rw [HE.out]; exact HSr.out.below HB5.out, HNe.out, HSm.out.below HB5.out, HBr.out.trans (HB5.out.mono hzr)⟩
          case measure => simp [intOf]; omega
        | false =>
          have HE := hid (HNo.out rfl)
          clear HY HNo
          go_wp2_with (first | (go_at_call 47; refine HHas.out.mono ?_; rintro e w5 ⟨rfl, b5⟩; have HB5 := hid b5; have HW5 := hid (HWl.out w5 b5); have hz5 := b5.size; clear b5) | (go_at_call 48; refine HW5.out.mono ?_; rintro e w6 ⟨v6, rfl, o6, b6⟩; have HO6 := hid o6; have HB6 := hid b6; have hz6 := b6.size; obtain ⟨ao6, cap6, hv6⟩ := br.own_val o6; generalize (waleL m.ls k).length = l6 at hv6; subst hv6; clear o6 b6) | (at_builtin; refine wp_appR rfl _ _ rfl W2.heap.size _ _ vals (wsR m.ls c k) (waleL m.ls k) (HSr.out.below HB5.out) HB6.out HO6.out rfl rfl rfl (by omega) (by have := HLw.out; omega) ?_; intro v7 w7 hs7 hb7 hg7 h57; have HS7 := hid hs7; have HB7 := hid hb7; have HG7 := hid hg7; have H57 := hid h57; clear hs7 hb7 hg7 h57))
          go_roundw
          case rel =>
            have hS6 : SetM (w6.alloc (.cells #[.slice ao6 l6 cap6] 25)) pb c := ((HSm.out.below HB5.out).below HB6.out).below ((Below.refl _ _).alloc (Nat.le_refl _) _)
            refine ⟨k + 1, _, vals ++ [.slice ao6 l6 cap6], by omega, rfl, by go_num, by rw [HE.out]; exact HS7.out, ?_, hS6.kept HG7.out (fun e => HNe.out e.symm), ((HBr.out.trans (HB5.out.mono hzr)).trans (HB6.out.mono (by omega))).trans HB7.out⟩
            rcases H57.out with h | h
            · rw [h]; exact HNe.out
            · rw [h]
              intro e
              simp only [Option.some.injEq] at e
              have : w6.heap.size ≤ (w6.alloc (.cells #[.slice ao6 l6 cap6] 25)).heap.size := by simp
              omega
          case measure => simp [intOf]; omega
      · obtain rfl : k = n3 := by omega
        go_wp2
        go_ret2
        have hR := (HSr.out.low hz2).rown
        rw [HN3.out, HCx.out] at hR
        exact ⟨_, rfl, hR, HBw.out⟩
end Go.Proofs.Ytlhpipcmebmpdab.mc
