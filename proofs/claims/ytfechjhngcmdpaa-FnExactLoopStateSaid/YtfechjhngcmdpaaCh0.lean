/-
  The children of a loop: model; ChildrenOf of both sides.
-/
import Derived.Test.YtfechjhngcmdpaaFw
namespace Go.Proofs.Ytfechjhngcmdpaa.mc
open Go.RowKit Go.Sort Go.Maps Go.Proofs.Ytfechjhngcmdpaa.sl Go.Proofs.Ytfechjhngcmdpaa.br Go.Proofs.Ytfechjhngcmdpaa.fn Go.Proofs.Ytfechjhngcmdpaa.ss Go.Proofs.Ytfechjhngcmdpaa.fb
set_option linter.unusedVariables false
set_option linter.unusedSimpArgs false

theorem chF_yes (ls : List nf.V) (x : Int) (k : Nat) (h : x ∈ (ls.getD k nf.iz).ps) : chF ls (k + 1) x = chF ls k x ++ [(k : Int)] := by
  have h' : x ∈ (ls[k]?.getD nf.iz).ps := h
  simp [chF, List.range_succ, List.filter_append, h']
theorem chF_no (ls : List nf.V) (x : Int) (k : Nat) (h : ¬ x ∈ (ls.getD k nf.iz).ps) : chF ls (k + 1) x = chF ls k x := by
  have h' : ¬ x ∈ (ls[k]?.getD nf.iz).ps := h
  simp [chF, List.range_succ, List.filter_append, h']
theorem chF_len (ls : List nf.V) (x : Int) (k : Nat) : (chF ls k x).length ≤ k := by
  have := List.length_filter_le (fun i => decide (x ∈ (ls.getD i nf.iz).ps)) (List.range k)
  simpa [chF] using this

set_option maxRecDepth 100000 in
set_option maxHeartbeats 4000000 in
theorem specChi (pb : Nat) (x : Int) (ls : List nf.V) (f3 : Value) (B : Nat) (w : World) (c5 : w.cell? ⟨pb, 5, none⟩ = some f3) (ha : nf.Infs w B f3 ls) (hB : B ≤ w.heap.size) (hl : ls.length ≤ 300) (hsm : ∀ j, j < ls.length → (ls.getD j nf.iz).ps.length ≤ 1048576) :
    Calls Try.prog 74 #[.pointer (some ⟨pb, 0, none⟩), .int .i64 x] w fun e w' => ∃ v, e = .returned v ∧ sl.Own w' w.heap.size w'.heap.size v (chF ls ls.length x) ∧ Below w.heap.size w w' := by
  have hpb := World.block_lt_of_cell? w _ c5
  have hO0 := (Own.built w #[] rfl)
  have hB0 : Below w.heap.size w (w.alloc (.cells #[] 2)) := (Below.refl _ w).alloc (Nat.le_refl _) _
  have HO0 := hid hO0
  have HB0 := hid hB0
  have HC5 := hid c5
  have HSm := hid hsm
  have y5 := (hB0.cell (p := ⟨pb, 5, none⟩) hpb).trans c5
  clear hO0 hB0 c5 hsm
  rcases ha with ⟨rfl, ao, cap, rfl⟩ | ⟨hp, g, off, cap, F, rfl, hg, hc⟩
  · go_enter Try.func74, Try.ntmps74
    go_wp2
    refine wp_loop_rounds 1 ?_
    rw [rounds_succ]
    go_wp2
    go_ret
    exact ⟨_, rfl, HO0.out, HB0.out⟩
  · obtain ⟨n, hn⟩ : ∃ n, n = ls.length := ⟨_, rfl⟩
    have HN := hid hn
    have HC := hid hc
    rw [← hn] at hp hl y5 HC5 ⊢
    clear hc hn
    have hgl : g < w.heap.size := by omega
    go_enter Try.func74, Try.ntmps74
    go_wp2
    go_loopw [5, 6] (fun v i wr => ∃ (k : Nat) (u : Value), k ≤ n ∧ v = u ∧ i = .int .i64 k ∧ sl.Own wr w.heap.size wr.heap.size u (chF ls k x) ∧ Below w.heap.size w wr) (fun _ i _ => n - (intOf i).toNat)
    case atStart => exact ⟨0, _, Nat.zero_le _, rfl, rfl, HO0.out, HB0.out⟩
    case round =>
      obtain ⟨k, u, hk, rfl, rfl, hor, hbr⟩ := hrel
      have HOr := hid hor
      have HBr := hid hbr
      have y5 := (hbr.cell (p := ⟨pb, 5, none⟩) hpb).trans HC5.out
      clear hor hbr HO0 HB0
      by_cases hlt : k < n
      · obtain ⟨hAt, hPs⟩ := HC.out k (by rw [← HN.out]; exact hlt)
        obtain ⟨ao5, cap5, hfv⟩ := ints_val hPs
        have HPs := hid (hPs.chg (Chg.ofBelow (lo := 0) HBr.out) (.inr (Nat.zero_le _)))
        rw [hfv] at hAt HPs
        have z5 := (hAt.blk HBr.out.size (HBr.out.block g hgl)).c5
        have HLn := hid (chF_len ls x k)
        have HY := hid (fun h => chF_yes ls x k h)
        have HNo := hid (fun h => chF_no ls x k h)
        obtain ⟨t, ht⟩ : ∃ t, vr.hasB (ls.getD k nf.iz).ps x = t := ⟨_, rfl⟩
        have HT := hid ht
        have HH := hid (fun W (h : Ints W B (.slice ao5 (ls.getD k nf.iz).ps.length cap5) (ls.getD k nf.iz).ps) => vr.hasQ (ls.getD k nf.iz).ps x t HT.out _ B W h (by have := HSm.out k (by rw [← HN.out]; exact hlt); omega))
        have HH2 := hid (HH.out wr HPs.out)
        clear hAt hPs hfv HPs HH ht
        obtain ⟨l5, hl5⟩ : ∃ l, l = (ls.getD k nf.iz).ps.length := ⟨_, rfl⟩
        rw [← hl5] at z5 HH2
        clear hl5
        cases t with
        | true =>
          have HE := hid (HY.out ((vr.has_mem _ _).1 HT.out))
          clear HY HNo HT
          go_wp2_with (first | (go_at_call 81; refine HH2.out.mono ?_; rintro e w9 ⟨rfl, hw9⟩; subst w9) | (at_builtin; refine wp_append rfl _ _ rfl w.heap.size wr.heap.size _ (chF ls k x) (k : Int) HOr.out rfl rfl HBr.out.size (by have := HLn.out; omega) ?_; intro v9 w1 hown1 hchg1 hsz1))
          go_roundw
          case rel => exact ⟨k + 1, _, by omega, rfl, by go_num, by rw [HE.out]; exact hown1, HBr.out.trans (hchg1.below (Nat.le_refl _) HBr.out.size)⟩
          case measure => simp [intOf]; omega
        | false =>
          have HE := hid (HNo.out ((vr.has_not _ _).1 HT.out))
          clear HY HNo HT
          go_wp2_with (go_at_call 81; refine HH2.out.mono ?_; rintro e w9 ⟨rfl, hw9⟩; subst w9)
          go_roundw
          case rel => exact ⟨k + 1, _, by omega, rfl, by go_num, by rw [HE.out]; exact HOr.out, HBr.out⟩
          case measure => simp [intOf]; omega
      · obtain rfl : k = n := by omega
        go_wp2
        go_ret
        exact ⟨_, rfl, HOr.out, HBr.out⟩

def chL (a p : Int) (m : Mch) (x : Int) : List Int := if askC a p m x = 0 then chF m.ls m.ls.length x else []
theorem chL_len (a p : Int) (m : Mch) (x : Int) : (chL a p m x).length ≤ 20000 := by
  unfold chL
  split
  · rename_i h
    have h1 := chF_len m.ls x m.ls.length
    have h2 := ls_len (okM_parts (ask_ok h).1)
    omega
  · simp

set_option maxRecDepth 100000 in
set_option maxHeartbeats 4000000 in
theorem implChi (a p : Int) (m : Mch) (x : Int) (f0 f1 f2 f3 f4 : Value) (B : Nat) (w : World) (ha : MInC w B f0 f1 f2 f3 f4 m) (hB : B ≤ w.heap.size) (hq : Small m) :
    Calls Try.prog 33 #[.agg #[.int .i64 a, .int .i64 p, f0, f1, f2, f3, f4], .int .i64 x] w fun e w' => ∃ v', e = .returned (.tuple #[v', .int .i64 (askC a p m x)]) ∧ sl.Own w' w.heap.size w'.heap.size v' (chL a p m x) ∧ Below w.heap.size w w' := by
  have HW := hid (fun W (hb : Below w.heap.size w W) => fabW a p m x f0 f1 f2 f3 f4 B W (ha.below hb) (Nat.le_trans hB hb.size) hq)
  have HAsk := hid (@ask_ok a p m x)
  obtain ⟨xs, hxs⟩ : ∃ xs, xs = chL a p m x := ⟨_, rfl⟩
  obtain ⟨d, hd⟩ : ∃ d, d = askC a p m x := ⟨_, rfl⟩
  rw [← hxs, ← hd]
  unfold chL at hxs
  rw [← hd] at hxs HW HAsk
  have HX1 := hid hxs
  obtain ⟨⟨a0, k0, rfl⟩, ⟨a1, k1, rfl⟩, ⟨a2, k2, rfl⟩, ⟨a3, k3, rfl⟩, ⟨a4, k4, rfl⟩⟩ := ha.vals
  clear ha hq hxs hd
  generalize m.fr.length = n0 at *
  generalize m.bk.length = n1 at *
  generalize m.cs.length = n2 at *
  obtain ⟨n3, hn3⟩ : ∃ n, n = m.ls.length := ⟨_, rfl⟩
  have HN3 := hid hn3
  rw [← hn3] at HW ⊢
  generalize m.dr.length = n4 at *
  have HX := hid (bx_new w 37 a p (.slice a0 n0 k0) (.slice a1 n1 k1) (.slice a2 n2 k2) (.slice a3 n3 k3) (.slice a4 n4 k4))
  clear hn3
  go_enter Try.func33, Try.ntmps33
  go_wp2_with fail
  generalize (w.alloc (.cells #[.int .i64 a, .int .i64 p, .slice a0 n0 k0, .slice a1 n1 k1, .slice a2 n2 k2, .slice a3 n3 k3, .slice a4 n4 k4] 37)) = W1 at *
  refine (HW.out W1 HX.out.b0).mono ?_
  rintro e W2 (⟨hne, rfl, b2⟩ | ⟨h0, fp, cb, bL, bD, base, n, D, rfl, hF⟩)
  · obtain rfl : xs = [] := by rw [HX1.out, if_neg hne]
    have HB := hid (HX.out.b0.trans (b2.mono HX.out.b0.size))
    have hnb : (d == 0) = false := by simp [hne]
    have hnd : decide (d = 0) = false := decide_eq_false hne
    clear b2 HW
    go_wp2
    go_ret2
    exact ⟨_, rfl, Own.nil W2 w.heap.size, HB.out⟩
  · subst h0
    obtain ⟨hok, hx0, hx1⟩ := HAsk.out rfl
    have hl3 := ls_len (okM_parts hok)
    have hxs : xs = chF m.ls m.ls.length x := by rw [HX1.out, if_pos rfl]
    have HF := hid hF
    have y1 := hF.c1
    have HB := hid (HX.out.b0.trans (hF.bl.mono HX.out.b0.size))
    have hnn : n ≤ 1200 := by have := hF.nn; omega
    have hkey : keyOf Try.prog 2 (.int .i64 x) = some (.int .i64 x) := keyOf_int_mk Try.underlying2 (WalkArith.wf_i64 (by omega))
    have HXs := hid hxs
    clear hF HW hxs HX1 hx0 hx1 hl3 hok HAsk
    go_wp2_with (at_lookup; refine wpList_lookup_groups _ rfl _ _ 92 rfl 2 25 2 .i64 lawK Try.underlying92 (zeroSl _) base cb n _ rfl HF.out.gr (by unfold maxLen; omega) _ _ rfl hkey ?_; intro v zs hat hoi hzl hback; have HHat := hid hat; have HHo := hid hoi; clear hat hoi hzl hback)
    go_ret2
    refine ⟨_, rfl, ?_, HB.out⟩
    rw [HXs.out, ← rd_at HF.out.rd HHat.out HHo.out]
    exact (sl.Own.mk' HHo.out.1).lo (Nat.le_trans HX.out.b0.size HF.out.wb)

set_option maxRecDepth 100000 in
set_option maxHeartbeats 4000000 in
theorem specCho (a p : Int) (m : Mch) (x : Int) (f0 f1 f2 f3 f4 : Value) (B : Nat) (w : World) (ha : MInC w B f0 f1 f2 f3 f4 m) (hB : B ≤ w.heap.size) (hq : Small m) :
    Calls Try.prog 32 #[.agg #[.int .i64 a, .int .i64 p, f0, f1, f2, f3, f4], .int .i64 x] w fun e w' => ∃ v', e = .returned (.tuple #[v', .int .i64 (askC a p m x)]) ∧ sl.Own w' w.heap.size w'.heap.size v' (chL a p m x) ∧ Below w.heap.size w w' := by
  have HV := hid (fun W (h : Below w.heap.size w W) (hx : Bx w W w.heap.size a p f0 f1 f2 f3 f4) => askS a p m x f0 f1 f2 f3 f4 B w.heap.size w W (ha.below h) hq hx)
  have HInf := hid (fun (X : World) (h : Below w.heap.size w X) => (ha.below h).rd.h3)
  have HSm := hid hq.s3.short
  have HAsk := hid (@ask_ok a p m x)
  obtain ⟨xs, hxs⟩ : ∃ xs, xs = chL a p m x := ⟨_, rfl⟩
  obtain ⟨d, hd⟩ : ∃ d, d = askC a p m x := ⟨_, rfl⟩
  rw [← hxs, ← hd]
  unfold chL at hxs
  rw [← hd] at hxs HV HAsk
  have HX1 := hid hxs
  obtain ⟨⟨a0, k0, rfl⟩, ⟨a1, k1, rfl⟩, ⟨a2, k2, rfl⟩, ⟨a3, k3, rfl⟩, ⟨a4, k4, rfl⟩⟩ := ha.vals
  clear ha hq hxs hd
  generalize m.fr.length = n0 at *
  generalize m.bk.length = n1 at *
  generalize m.cs.length = n2 at *
  obtain ⟨n3, hn3⟩ : ∃ n, n = m.ls.length := ⟨_, rfl⟩
  rw [← hn3] at HV HInf ⊢
  generalize m.dr.length = n4 at *
  have HX := hid (bx_new w 37 a p (.slice a0 n0 k0) (.slice a1 n1 k1) (.slice a2 n2 k2) (.slice a3 n3 k3) (.slice a4 n4 k4))
  clear hn3
  go_enter Try.func32, Try.ntmps32
  go_wp2_with fail
  generalize (w.alloc (.cells #[.int .i64 a, .int .i64 p, .slice a0 n0 k0, .slice a1 n1 k1, .slice a2 n2 k2, .slice a3 n3 k3, .slice a4 n4 k4] 37)) = W1 at *
  refine (HV.out W1 HX.out.b0 HX.out).mono ?_
  rintro e W2 ⟨rfl, b2⟩
  have HX2 := hid (HX.out.below b2)
  clear b2 HX HV
  by_cases h0 : d = 0
  · subst h0
    obtain ⟨hok, hx0, hx1⟩ := HAsk.out rfl
    have hxs : xs = chF m.ls m.ls.length x := by rw [HX1.out, if_pos rfl]
    have HY := hid (specChi w.heap.size x m.ls (.slice a3 n3 k3) B W2 HX2.out.c5 (HInf.out W2 HX2.out.b0) (Nat.le_trans hB HX2.out.b0.size) (ls_len (okM_parts hok)) HSm.out)
    have HXs := hid hxs
    clear hxs HX1 hok hx0 hx1 HInf HAsk
    go_wp2_with (go_at_call 74; refine HY.out.mono ?_; rintro e W3 ⟨v3, rfl, o3, b3⟩; have HO := hid (o3.lo HX2.out.b0.size); have HB3 := hid (HX2.out.b0.trans (b3.mono HX2.out.b0.size)); clear o3 b3)
    go_ret2
    exact ⟨_, rfl, by rw [HXs.out]; exact HO.out, HB3.out⟩
  · obtain rfl : xs = [] := by rw [HX1.out, if_neg h0]
    have hnb : (d == 0) = false := by simp [h0]
    have hnd : decide (d = 0) = false := decide_eq_false h0
    go_wp2
    go_ret2
    exact ⟨_, rfl, Own.nil W2 w.heap.size, HX2.out.b0⟩
end Go.Proofs.Ytfechjhngcmdpaa.mc
