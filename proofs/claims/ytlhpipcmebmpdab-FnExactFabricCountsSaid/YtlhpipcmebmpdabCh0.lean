/-
  The children of a loop: model; ChildrenOf of both sides.
-/
import Derived.Test.YtlhpipcmebmpdabFw
namespace Go.Proofs.Ytlhpipcmebmpdab.mc
open Go.RowKit Go.Sort Go.Maps Go.Proofs.Ytlhpipcmebmpdab.sl Go.Proofs.Ytlhpipcmebmpdab.br Go.Proofs.Ytlhpipcmebmpdab.fn Go.Proofs.Ytlhpipcmebmpdab.ss Go.Proofs.Ytlhpipcmebmpdab.fb
set_option linter.unusedVariables false
set_option linter.unusedSimpArgs false

theorem chF_yes (ls : List nf.V) (x : Int) (k : Nat) (h : x ∈ (ls.getD k nf.iz).ps) : chF ls (k + 1) x = chF ls k x ++ [(k : Int)] := by
  have h' : x ∈ (ls[k]?.getD nf.iz).ps := h
  simp [chF, List.range_succ, List.filter_append, h']
theorem chF_no (ls : List nf.V) (x : Int) (k : Nat) (h : ¬ x ∈ (ls.getD k nf.iz).ps) : chF ls (k + 1) x = chF ls k x := by
  have h' : ¬ x ∈ (ls[k]?.getD nf.iz).ps := h
  simp [chF, List.range_succ, List.filter_append, h']
theorem chF_len (ls : List nf.V) (x : Int) (k : Nat) : (chF ls k x).length ≤ k := by
  have := List.length_filter_le (fun i => decide (x ∈ (ls.getD i nf.iz).ps)) (List.range k)
  simpa [chF] using this

set_option maxRecDepth 100000 in
set_option maxHeartbeats 4000000 in
theorem specChi (pb : Nat) (x : Int) (ls : List nf.V) (f3 : Value) (B : Nat) (w : World) (c5 : w.cell? ⟨pb, 5, none⟩ = some f3) (ha : nf.Infs w B f3 ls) (hB : B ≤ w.heap.size) (hl : ls.length ≤ 300) (hsm : ∀ j, j < ls.length → (ls.getD j nf.iz).ps.length ≤ 1048576) :
    Calls Try.prog 77 #[.pointer (some ⟨pb, 0, none⟩), .int .i64 x] w fun e w' => ∃ v, e = .returned v ∧ sl.Own w' w.heap.size w'.heap.size v (chF ls ls.length x) ∧ Below w.heap.size w w' := by
  have hpb := World.block_lt_of_cell? w _ c5
  have hO0 := (Own.built w #[] rfl)
  have hB0 : Below w.heap.size w (w.alloc (.cells #[] 2)) := (Below.refl _ w).alloc (Nat.le_refl _) _
  have HO0 := hid hO0
  have HB0 := hid hB0
  have HC5 := hid c5
  have HSm := hid hsm
  have y5 := (hB0.cell (p := ⟨pb, 5, none⟩) hpb).trans c5
  clear hO0 hB0 c5 hsm
  rcases ha with ⟨rfl, ao, cap, rfl⟩ | ⟨hp, g, off, cap, F, rfl, hg, hc⟩
  · go_enter Try.func77, Try.ntmps77
    go_wp2
    refine wp_loop_rounds 1 ?_
    rw [rounds_succ]
    go_wp2
    go_ret
    exact ⟨_, rfl, HO0.out, HB0.out⟩
  · obtain ⟨n, hn⟩ : ∃ n, n = ls.length := ⟨_, rfl⟩
    have HN := hid hn
    have HC := hid hc
    rw [← hn] at hp hl y5 HC5 ⊢
    clear hc hn
    have hgl : g < w.heap.size := by omega
    go_enter Try.func77, Try.ntmps77
    go_wp2
    go_loopw [5, 6] (fun v i wr => ∃ (k : Nat) (u : Value), k ≤ n ∧ v = u ∧ i = .int .i64 k ∧ sl.Own wr w.heap.size wr.heap.size u (chF ls k x) ∧ Below w.heap.size w wr) (fun _ i _ => n - (intOf i).toNat)
    case atStart => exact ⟨0, _, Nat.zero_le _, rfl, rfl, HO0.out, HB0.out⟩
    case round =>
      obtain ⟨k, u, hk, rfl, rfl, hor, hbr⟩ := hrel
      have HOr := hid hor
      have HBr := hid hbr
      have y5 := (hbr.cell (p := ⟨pb, 5, none⟩) hpb).trans HC5.out
      clear hor hbr HO0 HB0
      by_cases hlt : k < n
      · obtain ⟨hAt, hPs⟩ := HC.out k (by rw [← HN.out]; exact hlt)
        obtain ⟨ao5, cap5, hfv⟩ := ints_val hPs
        have HPs := hid (hPs.chg (Chg.ofBelow (lo := 0) HBr.out) (.inr (Nat.zero_le _)))
        rw [hfv] at hAt HPs
        have z5 := (hAt.blk HBr.out.size (HBr.out.block g hgl)).c5
        have HLn := hid (chF_len ls x k)
        have HY := hid (fun h => chF_yes ls x k h)
        have HNo := hid (fun h => chF_no ls x k h)
        obtain ⟨t, ht⟩ : ∃ t, vr.hasB (ls.getD k nf.iz).ps x = t := ⟨_, rfl⟩
        have HT := hid ht
        have HH := hid (fun W (h : Ints W B (.slice ao5 (ls.getD k nf.iz).ps.length cap5) (ls.getD k nf.iz).ps) => vr.hasQ (ls.getD k nf.iz).ps x t HT.out _ B W h (by have := HSm.out k (by rw [← HN.out]; exact hlt); omega))
        have HH2 := hid (HH.out wr HPs.out)
        clear hAt hPs hfv HPs HH ht
        obtain ⟨l5, hl5⟩ : ∃ l, l = (ls.getD k nf.iz).ps.length := ⟨_, rfl⟩
        rw [← hl5] at z5 HH2
        clear hl5
        cases t with
        | true =>
          have HE := hid (HY.out ((vr.has_mem _ _).1 HT.out))
          clear HY HNo HT
          go_wp2_with (first | (go_at_call 43; refine HH2.out.mono ?_; rintro e w9 ⟨rfl, hw9⟩; subst w9) | (at_builtin; refine wp_append rfl _ _ rfl w.heap.size wr.heap.size _ (chF ls k x) (k : Int) HOr.out rfl rfl HBr.out.size (by have := HLn.out; omega) ?_; intro v9 w1 hown1 hchg1 hsz1))
          go_roundw
          case rel => exact ⟨k + 1, _, by omega, rfl, by go_num, by rw [HE.out]; exact hown1, HBr.out.trans (hchg1.below (Nat.le_refl _) HBr.out.size)⟩
          case measure => simp [intOf]; omega
        | false =>
          have HE := hid (HNo.out ((vr.has_not _ _).1 HT.out))
          clear HY HNo HT
          go_wp2_with (go_at_call 43; refine HH2.out.mono ?_; rintro e w9 ⟨rfl, hw9⟩; subst w9)
          go_roundw
          case rel => exact ⟨k + 1, _, by omega, rfl, by go_num, by rw [HE.out]; exact HOr.out, HBr.out⟩
          case measure => simp [intOf]; omega
      · obtain rfl : k = n := by omega
        go_wp2
        go_ret
        exact ⟨_, rfl, HOr.out, HBr.out⟩

def chL (a p : Int) (m : Mch) (x : Int) : List Int := if askC a p m x = 0 then chF m.ls m.ls.length x else []
theorem chL_len (a p : Int) (m : Mch) (x : Int) : (chL a p m x).length ≤ 20000 := by
  unfold chL
  split
  · rename_i h
    have h1 := chF_len m.ls x m.ls.length
    have h2 := ls_len (okM_parts (ask_ok h).1)
    omega
  · simp


end Go.Proofs.Ytlhpipcmebmpdab.mc
