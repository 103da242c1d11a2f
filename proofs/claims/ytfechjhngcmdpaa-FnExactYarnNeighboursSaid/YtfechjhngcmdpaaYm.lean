/-
  In one file: Yn0, Yn1.
-/
import Derived.Test.YtfechjhngcmdpaaFm
/- The yarn of a carrier: program and model. -/
namespace Go.Proofs.Ytfechjhngcmdpaa.mc
open Go.RowKit Go.Sort Go.Maps Go.Proofs.Ytfechjhngcmdpaa.sl Go.Proofs.Ytfechjhngcmdpaa.br Go.Proofs.Ytfechjhngcmdpaa.fn Go.Proofs.Ytfechjhngcmdpaa.ss Go.Proofs.Ytfechjhngcmdpaa.fb
set_option linter.unusedVariables false
set_option linter.unusedSimpArgs false

/-- The loops of a carrier among the first k. -/
def yarnL (ls : List nf.V) (c : Int) (k : Nat) : List Int := ((List.range k).filter fun i => decide ((ls.getD i nf.iz).a1 = c)).map Int.ofNat
theorem yarn_yes (ls : List nf.V) (c : Int) (k : Nat) (h : (ls.getD k nf.iz).a1 = c) : yarnL ls c (k + 1) = yarnL ls c k ++ [(k : Int)] := by
  have h' : (ls[k]?.getD nf.iz).a1 = c := h
  simp [yarnL, List.range_succ, List.filter_append, h']
theorem yarn_no (ls : List nf.V) (c : Int) (k : Nat) (h : ¬ (ls.getD k nf.iz).a1 = c) : yarnL ls c (k + 1) = yarnL ls c k := by
  have h' : ¬ (ls[k]?.getD nf.iz).a1 = c := h
  simp [yarnL, List.range_succ, List.filter_append, h']
theorem yarn_len (ls : List nf.V) (c : Int) (k : Nat) : (yarnL ls c k).length ≤ k := by
  have := List.length_filter_le (fun i => decide ((ls.getD i nf.iz).a1 = c)) (List.range k)
  simpa [yarnL] using this

set_option maxRecDepth 100000 in
set_option maxHeartbeats 4000000 in
theorem implYarn (pb : Nat) (c : Int) (ls : List nf.V) (f3 : Value) (B : Nat) (w : World) (c5 : w.cell? ⟨pb, 0, none⟩ = some f3) (ha : nf.Infs w B f3 ls) (hB : B ≤ w.heap.size) (hl : ls.length ≤ 300) :
    Calls Try.prog 72 #[.pointer (some ⟨pb, 0, none⟩), .int .i64 c] w fun e w' => ∃ v, e = .returned v ∧ sl.Own w' w.heap.size w'.heap.size v (yarnL ls c ls.length) ∧ Below w.heap.size w w' := by
  have hpb := World.block_lt_of_cell? w _ c5
  have hO0 := (Own.built w #[] rfl)
  have hB0 : Below w.heap.size w (w.alloc (.cells #[] 2)) := (Below.refl _ w).alloc (Nat.le_refl _) _
  have HO0 := hid hO0
  have HB0 := hid hB0
  have HC5 := hid c5
  have y5 := (hB0.cell (p := ⟨pb, 0, none⟩) hpb).trans c5
  clear hO0 hB0 c5
  rcases ha with ⟨rfl, ao, cap, rfl⟩ | ⟨hp, g, off, cap, F, rfl, hg, hc⟩
  · go_enter Try.func72, Try.ntmps72
    go_wp2
    refine wp_loop_rounds 1 ?_
    rw [rounds_succ]
    go_wp2
    go_ret
    exact ⟨_, rfl, HO0.out, HB0.out⟩
  · obtain ⟨n, hn⟩ : ∃ n, n = ls.length := ⟨_, rfl⟩
    have HN := hid hn
    have HC := hid hc
    rw [← hn] at hp hl y5 HC5 ⊢
    clear hc hn
    have hgl : g < w.heap.size := by omega
    go_enter Try.func72, Try.ntmps72
    go_wp2
    go_loopw [5, 14] (fun v i wr => ∃ (k : Nat) (u : Value), k ≤ n ∧ v = u ∧ i = .int .i64 k ∧ sl.Own wr w.heap.size wr.heap.size u (yarnL ls c k) ∧ Below w.heap.size w wr) (fun _ i _ => n - (intOf i).toNat)
    case atStart => exact ⟨0, _, Nat.zero_le _, rfl, rfl, HO0.out, HB0.out⟩
    case round =>
      obtain ⟨k, u, hk, rfl, rfl, hor, hbr⟩ := hrel
      have HOr := hid hor
      have HBr := hid hbr
      have y5 := (hbr.cell (p := ⟨pb, 0, none⟩) hpb).trans HC5.out
      clear hor hbr HO0 HB0
      by_cases hlt : k < n
      · obtain ⟨hAt, hPs⟩ := HC.out k (by rw [← HN.out]; exact hlt)
        obtain ⟨ao5, cap5, hfv⟩ := ints_val hPs
        rw [hfv] at hAt
        clear hPs
        have hAr := hAt.blk HBr.out.size (HBr.out.block g hgl)
        have z0 := hAr.c0
        have z1 := hAr.c1
        have z2 := hAr.c2
        have z3 := hAr.c3
        have z4 := hAr.c4
        have z5 := hAr.c5
        have HLn := hid (yarn_len ls c k)
        have HY := hid (fun h => yarn_yes ls c k h)
        have HNo := hid (fun h => yarn_no ls c k h)
        generalize (ls.getD k nf.iz).a0 = v0 at *
        generalize (ls.getD k nf.iz).a1 = v1 at *
        generalize (ls.getD k nf.iz).a2 = v2 at *
        generalize (ls.getD k nf.iz).a3 = v3 at *
        generalize (ls.getD k nf.iz).a4 = v4 at *
        generalize (ls.getD k nf.iz).ps.length = l5 at *
        have hk64 : IntKind.i64.wrap (k : Int) = (k : Int) := IntWalk.i64_in _ (by omega)
        clear hAt hAr hfv
        have bA : Below wr.heap.size wr (wr.alloc (.cells #[.int .i64 v0, .int .i64 v1, .int .i64 v2, .int .i64 v3, .int .i64 v4, .slice ao5 l5 cap5] 91)) := (Below.refl _ _).alloc (Nat.le_refl _) _
        have HBa := hid (HBr.out.trans (bA.mono HBr.out.size))
        have HOa := hid (HOr.out.chg (Chg.ofBelow (lo := 0) bA) (.inr (.inr (Nat.zero_le _))))
        have hsa : wr.heap.size ≤ (wr.alloc (.cells #[.int .i64 v0, .int .i64 v1, .int .i64 v2, .int .i64 v3, .int .i64 v4, .slice ao5 l5 cap5] 91)).heap.size := bA.size
        clear bA
        by_cases he : v1 = c
        · have HE := hid (HY.out he)
          subst v1
          clear HY HNo
          go_wp2_with (at_builtin; refine wp_append' rfl _ _ rfl w.heap.size wr.heap.size _ (yarnL ls c k) (k : Int) HOa.out rfl (wr.heap.size + 1) (by simp) rfl HBa.out.size (by have := HLn.out; omega) ?_; intro v9 w1 hown1 hchg1 hsz1)
          go_roundw
          case rel => exact ⟨k + 1, _, by omega, rfl, by go_num, by rw [HE.out]; exact hown1, HBa.out.trans (hchg1.below (Nat.le_refl _) HBa.out.size)⟩
          case measure => simp [intOf]; omega
        · have HE := hid (HNo.out he)
          have hdc : decide (v1 = c) = false := decide_eq_false he
          have hbc : (v1 == c) = false := by simp [he]
          clear HY HNo
          go_wp2
          go_roundw
          case rel => exact ⟨k + 1, _, by omega, rfl, by go_num, by rw [HE.out]; exact HOa.out.hi (by first | exact hsa | exact Nat.le_refl _) (Nat.le_refl _), HBa.out⟩
          case measure => simp [intOf]; omega
      · obtain rfl : k = n := by omega
        go_wp2
        go_ret
        exact ⟨_, rfl, HOr.out, HBr.out⟩

set_option maxRecDepth 100000 in
set_option maxHeartbeats 4000000 in
theorem specYarn (pb : Nat) (c : Int) (ls : List nf.V) (f3 : Value) (B : Nat) (w : World) (c5 : w.cell? ⟨pb, 5, none⟩ = some f3) (ha : nf.Infs w B f3 ls) (hB : B ≤ w.heap.size) (hl : ls.length ≤ 300) :
    Calls Try.prog 69 #[.pointer (some ⟨pb, 0, none⟩), .int .i64 c] w fun e w' => ∃ v, e = .returned v ∧ sl.Own w' w.heap.size w'.heap.size v (yarnL ls c ls.length) ∧ Below w.heap.size w w' := by
  have hpb := World.block_lt_of_cell? w _ c5
  have hO0 := (Own.built w #[] rfl)
  have hB0 : Below w.heap.size w (w.alloc (.cells #[] 2)) := (Below.refl _ w).alloc (Nat.le_refl _) _
  have HO0 := hid hO0
  have HB0 := hid hB0
  have HC5 := hid c5
  have y5 := (hB0.cell (p := ⟨pb, 5, none⟩) hpb).trans c5
  clear hO0 hB0 c5
  rcases ha with ⟨rfl, ao, cap, rfl⟩ | ⟨hp, g, off, cap, F, rfl, hg, hc⟩
  · go_enter Try.func69, Try.ntmps69
    go_wp2
    refine wp_loop_rounds 1 ?_
    rw [rounds_succ]
    go_wp2
    go_ret
    exact ⟨_, rfl, HO0.out, HB0.out⟩
  · obtain ⟨n, hn⟩ : ∃ n, n = ls.length := ⟨_, rfl⟩
    have HN := hid hn
    have HC := hid hc
    rw [← hn] at hp hl y5 HC5 ⊢
    clear hc hn
    have hgl : g < w.heap.size := by omega
    go_enter Try.func69, Try.ntmps69
    go_wp2
    go_loopw [5, 6] (fun v i wr => ∃ (k : Nat) (u : Value), k ≤ n ∧ v = u ∧ i = .int .i64 k ∧ sl.Own wr w.heap.size wr.heap.size u (yarnL ls c k) ∧ Below w.heap.size w wr) (fun _ i _ => n - (intOf i).toNat)
    case atStart => exact ⟨0, _, Nat.zero_le _, rfl, rfl, HO0.out, HB0.out⟩
    case round =>
      obtain ⟨k, u, hk, rfl, rfl, hor, hbr⟩ := hrel
      have HOr := hid hor
      have HBr := hid hbr
      have y5 := (hbr.cell (p := ⟨pb, 5, none⟩) hpb).trans HC5.out
      clear hor hbr HO0 HB0
      by_cases hlt : k < n
      · obtain ⟨hAt, hPs⟩ := HC.out k (by rw [← HN.out]; exact hlt)
        obtain ⟨ao5, cap5, hfv⟩ := ints_val hPs
        rw [hfv] at hAt
        clear hPs
        have hAr := hAt.blk HBr.out.size (HBr.out.block g hgl)
        have z0 := hAr.c0
        have z1 := hAr.c1
        have z2 := hAr.c2
        have z3 := hAr.c3
        have z4 := hAr.c4
        have z5 := hAr.c5
        have HLn := hid (yarn_len ls c k)
        have HY := hid (fun h => yarn_yes ls c k h)
        have HNo := hid (fun h => yarn_no ls c k h)
        generalize (ls.getD k nf.iz).a0 = v0 at *
        generalize (ls.getD k nf.iz).a1 = v1 at *
        generalize (ls.getD k nf.iz).a2 = v2 at *
        generalize (ls.getD k nf.iz).a3 = v3 at *
        generalize (ls.getD k nf.iz).a4 = v4 at *
        generalize (ls.getD k nf.iz).ps.length = l5 at *
        have hk64 : IntKind.i64.wrap (k : Int) = (k : Int) := IntWalk.i64_in _ (by omega)
        clear hAt hAr hfv
        have bA : Below wr.heap.size wr wr := (Below.refl _ _)
        have HBa := hid (HBr.out.trans (bA.mono HBr.out.size))
        have HOa := hid (HOr.out.chg (Chg.ofBelow (lo := 0) bA) (.inr (.inr (Nat.zero_le _))))
        have hsa : wr.heap.size ≤ wr.heap.size := bA.size
        clear bA
        by_cases he : v1 = c
        · have HE := hid (HY.out he)
          subst v1
          clear HY HNo
          go_wp2_with (at_builtin; refine wp_append rfl _ _ rfl w.heap.size wr.heap.size _ (yarnL ls c k) (k : Int) HOa.out rfl rfl HBa.out.size (by have := HLn.out; omega) ?_; intro v9 w1 hown1 hchg1 hsz1)
          go_roundw
          case rel => exact ⟨k + 1, _, by omega, rfl, by go_num, by rw [HE.out]; exact hown1, HBa.out.trans (hchg1.below (Nat.le_refl _) HBa.out.size)⟩
          case measure => simp [intOf]; omega
        · have HE := hid (HNo.out he)
          have hdc : decide (v1 = c) = false := decide_eq_false he
          have hbc : (v1 == c) = false := by simp [he]
          clear HY HNo
          go_wp2
          go_roundw
          case rel => exact ⟨k + 1, _, by omega, rfl, by go_num, by rw [HE.out]; exact HOa.out.hi (by first | exact hsa | exact Nat.le_refl _) (Nat.le_refl _), HBa.out⟩
          case measure => simp [intOf]; omega
      · obtain rfl : k = n := by omega
        go_wp2
        go_ret
        exact ⟨_, rfl, HOr.out, HBr.out⟩
end Go.Proofs.Ytfechjhngcmdpaa.mc

/- YarnOf of program and model. -/
namespace Go.Proofs.Ytfechjhngcmdpaa.mc
open Go.RowKit Go.Sort Go.Maps Go.Proofs.Ytfechjhngcmdpaa.sl Go.Proofs.Ytfechjhngcmdpaa.br Go.Proofs.Ytfechjhngcmdpaa.fn Go.Proofs.Ytfechjhngcmdpaa.ss Go.Proofs.Ytfechjhngcmdpaa.fb
set_option linter.unusedVariables false
set_option linter.unusedSimpArgs false

set_option maxRecDepth 100000 in
set_option maxHeartbeats 4000000 in
theorem fabricBad (a p : Int) (m : Mch) (f0 f1 f2 f3 f4 : Value) (B : Nat) (w : World) (ha : MInC w B f0 f1 f2 f3 f4 m) (hB : B ≤ w.heap.size) (hq : Small m) (hok : okM a p m = false) :
    Calls Try.prog 70 #[.agg #[.int .i64 a, .int .i64 p, f0, f1, f2, f3, f4]] w fun e w' => e = .returned (.tuple #[.pointer none, .int .i64 1]) ∧ Below w.heap.size w w' := by
  have HV := hid (fun W (h : Below w.heap.size w W) => implVM a p m f0 f1 f2 f3 f4 B W (ha.below h) (Nat.le_trans hB h.size) hq)
  rw [hok] at HV
  obtain ⟨⟨a0, k0, rfl⟩, ⟨a1, k1, rfl⟩, ⟨a2, k2, rfl⟩, ⟨a3, k3, rfl⟩, ⟨a4, k4, rfl⟩⟩ := ha.vals
  clear ha hq hok
  generalize m.fr.length = n0 at *
  generalize m.bk.length = n1 at *
  generalize m.cs.length = n2 at *
  generalize m.ls.length = n3 at *
  generalize m.dr.length = n4 at *
  have HX := hid (bx_new w 37 a p (.slice a0 n0 k0) (.slice a1 n1 k1) (.slice a2 n2 k2) (.slice a3 n3 k3) (.slice a4 n4 k4))
  go_enter Try.func70, Try.ntmps70
  go_wp2_with fail
  generalize (w.alloc (.cells #[.int .i64 a, .int .i64 p, .slice a0 n0 k0, .slice a1 n1 k1, .slice a2 n2 k2, .slice a3 n3 k3, .slice a4 n4 k4] 37)) = W1 at *
  refine (HV.out W1 HX.out.b0).mono ?_
  rintro e W2 ⟨rfl, b2⟩
  have HB := hid (HX.out.b0.trans (b2.mono HX.out.b0.size))
  clear b2 HX HV
  go_wp2
  go_ret2
  exact ⟨rfl, HB.out⟩

def yoL (a p : Int) (m : Mch) (c : Int) : List Int := if okM a p m = true then (if vo.carB c = true then yarnL m.ls c m.ls.length else []) else []
def yoC (a p : Int) (m : Mch) (c : Int) : Int := if okM a p m = true then (if vo.carB c = true then 0 else 2) else 1
theorem yoL_len (a p : Int) (m : Mch) (c : Int) : (yoL a p m c).length ≤ 20000 := by
  unfold yoL
  split
  · rename_i h
    split
    · have h1 := yarn_len m.ls c m.ls.length
      have h2 := ls_len (okM_parts h)
      omega
    · simp
  · simp
theorem carImpl (c : Int) (w : World) : Calls Try.prog 71 #[.int .i64 c] w fun e w' => e = .returned (.bool (vo.carB c)) ∧ w = w' := vo.implCar c w
theorem carSpec (c : Int) (w : World) : Calls Try.prog 68 #[.int .i64 c] w fun e w' => e = .returned (.bool (vo.carB c)) ∧ w = w' := vo.specYarn c w

set_option maxRecDepth 100000 in
set_option maxHeartbeats 4000000 in
theorem implYo (a p : Int) (m : Mch) (c : Int) (f0 f1 f2 f3 f4 : Value) (B : Nat) (w : World) (ha : MInC w B f0 f1 f2 f3 f4 m) (hB : B ≤ w.heap.size) (hq : Small m) :
    Calls Try.prog 29 #[.agg #[.int .i64 a, .int .i64 p, f0, f1, f2, f3, f4], .int .i64 c] w fun e w' => ∃ v', e = .returned (.tuple #[v', .int .i64 (yoC a p m c)]) ∧ sl.Own w' w.heap.size w'.heap.size v' (yoL a p m c) ∧ Below w.heap.size w w' := by
  have HBad := hid (fun (h : okM a p m = false) W (hb : Below w.heap.size w W) => fabricBad a p m f0 f1 f2 f3 f4 B W (ha.below hb) (Nat.le_trans hB hb.size) hq h)
  have HGood := hid (fun (h : okM a p m = true) W (hb : Below w.heap.size w W) => fabricC a p m f0 f1 f2 f3 f4 B W (ha.below hb) (Nat.le_trans hB hb.size) hq h)
  have HInf := hid (fun (X : World) (h : Below w.heap.size w X) => (ha.below h).rd.h3)
  have HLs := hid (fun h : okM a p m = true => ls_len (okM_parts h))
  have HCr := hid (fun W => carImpl c W)
  obtain ⟨u, hu⟩ : ∃ u, u = okM a p m := ⟨_, rfl⟩
  obtain ⟨q, hqq⟩ : ∃ q, q = vo.carB c := ⟨_, rfl⟩
  obtain ⟨xs, hxs⟩ : ∃ xs, xs = yoL a p m c := ⟨_, rfl⟩
  obtain ⟨d, hd⟩ : ∃ d, d = yoC a p m c := ⟨_, rfl⟩
  rw [← hxs, ← hd]
  unfold yoL at hxs
  unfold yoC at hd
  rw [← hu, ← hqq] at hxs hd
  rw [← hu] at HBad HGood HLs
  rw [← hqq] at HCr
  have HX1 := hid hxs
  have HD1 := hid hd
  obtain ⟨⟨a0, k0, rfl⟩, ⟨a1, k1, rfl⟩, ⟨a2, k2, rfl⟩, ⟨a3, k3, rfl⟩, ⟨a4, k4, rfl⟩⟩ := ha.vals
  clear ha hq hxs hd hu hqq
  generalize m.fr.length = n0 at *
  generalize m.bk.length = n1 at *
  generalize m.cs.length = n2 at *
  obtain ⟨n3, hn3⟩ : ∃ n, n = m.ls.length := ⟨_, rfl⟩
  have HN3 := hid hn3
  rw [← hn3] at HBad HGood HInf HLs ⊢
  generalize m.dr.length = n4 at *
  have HX := hid (bx_new w 37 a p (.slice a0 n0 k0) (.slice a1 n1 k1) (.slice a2 n2 k2) (.slice a3 n3 k3) (.slice a4 n4 k4))
  clear hn3
  go_enter Try.func29, Try.ntmps29
  go_wp2_with fail
  generalize (w.alloc (.cells #[.int .i64 a, .int .i64 p, .slice a0 n0 k0, .slice a1 n1 k1, .slice a2 n2 k2, .slice a3 n3 k3, .slice a4 n4 k4] 37)) = W1 at *
  cases u with
  | false =>
    obtain rfl : xs = [] := HX1.out
    obtain rfl : d = 1 := HD1.out
    refine (HBad.out rfl W1 HX.out.b0).mono ?_
    rintro e W2 ⟨rfl, b2⟩
    have HB := hid (HX.out.b0.trans (b2.mono HX.out.b0.size))
    clear b2
    go_wp2
    go_ret2
    exact ⟨_, rfl, Own.nil W2 w.heap.size, HB.out⟩
  | true =>
    refine (HGood.out rfl W1 HX.out.b0).mono ?_
    rintro e W2 ⟨fp, cb, bL, bD, base, n, D, rfl, hF⟩
    have HF := hid hF
    have HB := hid (HX.out.b0.trans (hF.bl.mono HX.out.b0.size))
    clear hF HGood HBad
    cases q with
    | false =>
      obtain rfl : xs = [] := HX1.out
      obtain rfl : d = 2 := HD1.out
      go_wp2_with (go_at_call 71; refine (HCr.out _).mono ?_; rintro e w9 ⟨rfl, rfl⟩)
      go_ret2
      exact ⟨_, rfl, Own.nil _ w.heap.size, HB.out⟩
    | true =>
      obtain rfl : xs = yarnL m.ls c m.ls.length := HX1.out
      obtain rfl : d = 0 := HD1.out
      have HY := hid (implYarn fp c m.ls (.slice a3 n3 k3) B W2 HF.out.c0 (HInf.out W2 HB.out) (Nat.le_trans hB HB.out.size) (by rw [← HN3.out]; exact HLs.out rfl))
      clear HInf HX1 HD1
      go_wp2_with (first | (go_at_call 71; refine (HCr.out _).mono ?_; rintro e w9 ⟨rfl, hw9⟩; subst w9) | (go_at_call 72; refine HY.out.mono ?_; rintro e W3 ⟨v3, rfl, o3, b3⟩; have HO := hid (o3.lo HB.out.size); have HB3 := hid (HB.out.trans (b3.mono HB.out.size)); clear o3 b3))
      go_ret2
      exact ⟨_, rfl, HO.out, HB3.out⟩

set_option maxRecDepth 100000 in
set_option maxHeartbeats 4000000 in
theorem specYo (a p : Int) (m : Mch) (c : Int) (f0 f1 f2 f3 f4 : Value) (B : Nat) (w : World) (ha : MInC w B f0 f1 f2 f3 f4 m) (hB : B ≤ w.heap.size) (hq : Small m) :
    Calls Try.prog 28 #[.agg #[.int .i64 a, .int .i64 p, f0, f1, f2, f3, f4], .int .i64 c] w fun e w' => ∃ v', e = .returned (.tuple #[v', .int .i64 (yoC a p m c)]) ∧ sl.Own w' w.heap.size w'.heap.size v' (yoL a p m c) ∧ Below w.heap.size w w' := by
  have HV := hid (fun W (h : Below w.heap.size w W) (hx : Bx w W w.heap.size a p f0 f1 f2 f3 f4) => specOkC a p m f0 f1 f2 f3 f4 B w.heap.size w W (ha.below h) hq hx)
  have HInf := hid (fun (X : World) (h : Below w.heap.size w X) => (ha.below h).rd.h3)
  have HLs := hid (fun h : okM a p m = true => ls_len (okM_parts h))
  have HCr := hid (fun W => carSpec c W)
  obtain ⟨u, hu⟩ : ∃ u, u = okM a p m := ⟨_, rfl⟩
  obtain ⟨q, hqq⟩ : ∃ q, q = vo.carB c := ⟨_, rfl⟩
  obtain ⟨xs, hxs⟩ : ∃ xs, xs = yoL a p m c := ⟨_, rfl⟩
  obtain ⟨d, hd⟩ : ∃ d, d = yoC a p m c := ⟨_, rfl⟩
  rw [← hxs, ← hd]
  unfold yoL at hxs
  unfold yoC at hd
  rw [← hu, ← hqq] at hxs hd
  rw [← hu] at HV HLs
  rw [← hqq] at HCr
  have HX1 := hid hxs
  have HD1 := hid hd
  obtain ⟨⟨a0, k0, rfl⟩, ⟨a1, k1, rfl⟩, ⟨a2, k2, rfl⟩, ⟨a3, k3, rfl⟩, ⟨a4, k4, rfl⟩⟩ := ha.vals
  clear ha hq hxs hd hu hqq
  generalize m.fr.length = n0 at *
  generalize m.bk.length = n1 at *
  generalize m.cs.length = n2 at *
  obtain ⟨n3, hn3⟩ : ∃ n, n = m.ls.length := ⟨_, rfl⟩
  have HN3 := hid hn3
  rw [← hn3] at HV HInf HLs ⊢
  generalize m.dr.length = n4 at *
  have HX := hid (bx_new w 37 a p (.slice a0 n0 k0) (.slice a1 n1 k1) (.slice a2 n2 k2) (.slice a3 n3 k3) (.slice a4 n4 k4))
  clear hn3
  go_enter Try.func28, Try.ntmps28
  go_wp2_with fail
  generalize (w.alloc (.cells #[.int .i64 a, .int .i64 p, .slice a0 n0 k0, .slice a1 n1 k1, .slice a2 n2 k2, .slice a3 n3 k3, .slice a4 n4 k4] 37)) = W1 at *
  refine (HV.out W1 HX.out.b0 HX.out).mono ?_
  rintro e W2 ⟨rfl, b2⟩
  have HX2 := hid (HX.out.below b2)
  clear b2 HX HV
  cases u with
  | false =>
    obtain rfl : xs = [] := HX1.out
    obtain rfl : d = 1 := HD1.out
    go_wp2
    go_ret2
    exact ⟨_, rfl, Own.nil W2 w.heap.size, HX2.out.b0⟩
  | true =>
    cases q with
    | false =>
      obtain rfl : xs = [] := HX1.out
      obtain rfl : d = 2 := HD1.out
      go_wp2_with (go_at_call 68; refine (HCr.out _).mono ?_; rintro e w9 ⟨rfl, rfl⟩)
      go_ret2
      exact ⟨_, rfl, Own.nil _ w.heap.size, HX2.out.b0⟩
    | true =>
      obtain rfl : xs = yarnL m.ls c m.ls.length := HX1.out
      obtain rfl : d = 0 := HD1.out
      have HY := hid (specYarn w.heap.size c m.ls (.slice a3 n3 k3) B W2 HX2.out.c5 (HInf.out W2 HX2.out.b0) (Nat.le_trans hB HX2.out.b0.size) (by rw [← HN3.out]; exact HLs.out rfl))
      clear HInf HX1 HD1
      go_wp2_with (first | (go_at_call 68; refine (HCr.out _).mono ?_; rintro e w9 ⟨rfl, hw9⟩; subst w9) | (go_at_call 69; refine HY.out.mono ?_; rintro e W3 ⟨v3, rfl, o3, b3⟩; have HO := hid (o3.lo HX2.out.b0.size); have HB3 := hid (HX2.out.b0.trans (b3.mono HX2.out.b0.size)); clear o3 b3))
      go_ret2
      exact ⟨_, rfl, HO.out, HB3.out⟩
end Go.Proofs.Ytfechjhngcmdpaa.mc
