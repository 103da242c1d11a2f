/-
  CrossingBraid of the model.
-/
import Derived.Test.YtlhpipcmebmpdaaEvc
import Derived.Test.YtlhpipcmebmpdaaEvu
import Derived.Test.YtlhpipcmebmpdaaWjf
namespace Go.Proofs.Ytlhpipcmebmpdaa.ev
open Go.RowKit Go.Sort Go.Proofs.Ytlhpipcmebmpdaa.sl Go.Proofs.Ytlhpipcmebmpdaa.bw Go.Proofs.Ytlhpipcmebmpdaa.br Go.Proofs.Ytlhpipcmebmpdaa.fn
set_option linter.unusedVariables false
set_option linter.unusedSimpArgs false

/-- Both boxes of the model's call. -/
structure Bxs (w W : World) (s : Int) (ao : Option Addr) (n cap : Nat) (l : List Int) : Prop where
  sz : w.heap.size + 2 ≤ W.heap.size
  r0 : W.cell? ⟨w.heap.size, 0, none⟩ = some (.int .i64 0)
  r1 : W.cell? ⟨w.heap.size, 1, none⟩ = some (.slice none 0 0)
  g0 : W.frozen? ⟨w.heap.size, 0, none⟩ = false
  g1 : W.frozen? ⟨w.heap.size, 1, none⟩ = false
  o0 : W.cell? ⟨w.heap.size + 1, 0, none⟩ = some (.int .i64 s)
  o1 : W.cell? ⟨w.heap.size + 1, 1, none⟩ = some (.slice ao n cap)
  h1 : W.frozen? ⟨w.heap.size + 1, 1, none⟩ = false
  own : Own W (w.heap.size + 2) W.heap.size (.slice ao n cap) l
  bel : Below w.heap.size w W
theorem Bxs.below {w W W' : World} {s : Int} {ao : Option Addr} {n cap : Nat} {l : List Int} (h : Bxs w W s ao n cap l) (b : Below W.heap.size W W') : Bxs w W' s ao n cap l := by
  have hs := h.sz
  have f : ∀ (p i : Nat), p < W.heap.size → W'.cell? ⟨p, i, none⟩ = W.cell? ⟨p, i, none⟩ := fun p i hp => b.cell (p := ⟨p, i, none⟩) hp
  have g : ∀ (p i : Nat), p < W.heap.size → W'.frozen? ⟨p, i, none⟩ = W.frozen? ⟨p, i, none⟩ := fun p i hp => b.frozen (p := ⟨p, i, none⟩) hp
  exact ⟨Nat.le_trans hs b.size, (f _ _ (by omega)).trans h.r0, (f _ _ (by omega)).trans h.r1, (g _ _ (by omega)).trans h.g0, (g _ _ (by omega)).trans h.g1, (f _ _ (by omega)).trans h.o0, (f _ _ (by omega)).trans h.o1, (g _ _ (by omega)).trans h.h1, (h.own.chg (Chg.ofBelow (lo := 0) b) (.inr (.inr (Nat.zero_le _)))).hi b.size (Nat.le_refl _), h.bel.trans (b.mono h.bel.size)⟩

theorem Bxs.push {w W W' : World} {s y : Int} {ao ao3 : Option Addr} {n cap cap3 : Nat} {l : List Int} (h : Bxs w W s ao n cap l) (o : Own W' (w.heap.size + 2) W'.heap.size (.slice ao3 (n + 1) cap3) (l ++ [y])) (c : Chg (w.heap.size + 2) W.heap.size W W') :
    Bxs w (W'.setCell ⟨w.heap.size + 1, 1, none⟩ (.slice ao3 (n + 1) cap3)) s ao3 (n + 1) cap3 (l ++ [y]) := by
  have hs := h.sz
  have hs' := c.size
  have f : ∀ (p i : Nat), p < w.heap.size + 2 → W'.cell? ⟨p, i, none⟩ = W.cell? ⟨p, i, none⟩ := fun p i hp => World.cell?_of_block (w := W) (w' := W') (a := ⟨p, i, none⟩) (c.block p (by omega) (by omega))
  have g : ∀ (p i : Nat), p < w.heap.size + 2 → W'.frozen? ⟨p, i, none⟩ = W.frozen? ⟨p, i, none⟩ := fun p i hp => World.frozen?_of_block (w := W) (w' := W') (a := ⟨p, i, none⟩) (c.block p (by omega) (by omega))
  have ne : ∀ (i : Nat) (u : Value), (W'.setCell ⟨w.heap.size + 1, 1, none⟩ u).cell? ⟨w.heap.size, i, none⟩ = W'.cell? ⟨w.heap.size, i, none⟩ := fun i u => World.cell?_setCell_other _ _ _ _ (by simp)
  refine ⟨by simp; omega, ?_, ?_, ?_, ?_, ?_, ?_, ?_, ?_, ?_⟩
  · rw [ne, f _ _ (by omega)]; exact h.r0
  · rw [ne, f _ _ (by omega)]; exact h.r1
  · rw [World.frozen?_setCell, g _ _ (by omega)]; exact h.g0
  · rw [World.frozen?_setCell, g _ _ (by omega)]; exact h.g1
  · rw [ss.other_at (by omega), f _ _ (by omega)]; exact h.o0
  · exact ss.same_at ((f _ _ (by omega)).trans h.o1)
  · rw [World.frozen?_setCell, g _ _ (by omega)]; exact h.h1
  · have h2 := own_other o (w.heap.size + 1) 1 (.slice ao3 (n + 1) cap3) (by omega)
    simpa using h2
  · exact (h.bel.trans (c.below (B := w.heap.size) (by omega) (by omega))).setCell (by simp) _

set_option maxRecDepth 100000 in
set_option maxHeartbeats 4000000 in
theorem specCB (s : Int) (xs : List V) (v : Value) (B : Nat) (w : World) (ha : Ops w B v xs) (hB : B ≤ w.heap.size) (hq : Small xs) :
    Calls Try.prog 43 #[.int .i64 s, v] w fun e w' => ∃ ao cap, e = .returned (.tuple #[.agg #[.int .i64 (cbS s xs), .slice ao (cbW s xs).length cap], .int .i64 (cbC s xs)]) ∧ Own w' w.heap.size w'.heap.size (.slice ao (cbW s xs).length cap) (cbW s xs) ∧ Below w.heap.size w w' := by
  have hn := hq.len
  clear hq
  have hb0 := (Below.refl w.heap.size w).alloc (Nat.le_refl _) (.cells #[.int .i64 0, .slice none 0 0] 26)
  obtain ⟨q1, hq1⟩ : ∃ q, q = cbC s xs := ⟨_, rfl⟩
  obtain ⟨q2, hq2⟩ : ∃ q, q = cbS s xs := ⟨_, rfl⟩
  obtain ⟨q3, hq3⟩ : ∃ q, q = cbW s xs := ⟨_, rfl⟩
  rw [← hq1, ← hq2, ← hq3]
  cases hr : rngS s with
  | false =>
    obtain ⟨h1, h2, h3⟩ := cb_rng (xs := xs) hr
    rw [← hq1] at h1
    rw [← hq2] at h2
    rw [← hq3] at h3
    subst h1 h2 h3
    have HI := hid (fun W => show Calls Try.prog 56 #[.int .i64 s, .int .i64 0, .int .i64 12] W fun e w' => e = .returned (.bool false) ∧ W = w' from (nd.specIn s 0 12 W).mono fun _ _ h => ⟨by rw [h.1, show decide (0 ≤ s ∧ s ≤ 12) = false from hr], h.2⟩)
    obtain ⟨ao, cap, rfl⟩ := ops_val ha
    clear ha hq1 hq2 hq3 hr
    generalize xs.length = n at *
    go_enter Try.func43, Try.ntmps43
    go_wp2_with (go_at_call 56; refine (HI.out _).mono ?_; rintro e w' ⟨rfl, rfl⟩)
    refine bodyPost_ret (v := .tuple #[.agg #[.int .i64 0, .slice none 0 0], .int .i64 2]) (by simp [results, Try.results43, go_sem]) rfl ⟨none, 0, rfl, Own.nil _ _, ?_⟩
    first | exact hb0 | exact (hb0.setCell (by simp) _).setCell (by simp) _
  | true =>
    have hs12 : 0 ≤ s ∧ s ≤ 12 := of_decide_eq_true hr
    obtain ⟨hs0, hs1⟩ := hs12
    have HI := hid (fun W => show Calls Try.prog 56 #[.int .i64 s, .int .i64 0, .int .i64 12] W fun e w' => e = .returned (.bool true) ∧ W = w' from (nd.specIn s 0 12 W).mono fun _ _ h => ⟨by rw [h.1, show decide (0 ≤ s ∧ s ≤ 12) = true from hr], h.2⟩)
    have HBd : Hid (∀ k, k < xs.length → okC s (xs.getD k oz) = false → q1 = 1 ∧ q2 = 0 ∧ q3 = []) := hid (fun k h1 h2 => by rw [hq1, hq2, hq3]; exact cb_bad hr (all_bad (okC s) xs k h1 h2))
    have HGd := hid (fun h => all_good (okC s) xs h)
    have HFl : Hid (crB s xs = true → ¬ xs.length ≤ 40 → q1 = 5 ∧ q2 = 0 ∧ q3 = []) := hid (fun h2 h3 => by rw [hq1, hq2, hq3]; exact cb_full hr h2 h3)
    have HOk : Hid (crB s xs = true → xs.length ≤ 40 → q1 = 0 ∧ q2 = s ∧ q3 = xs.map letV) := hid (fun h2 h3 => by rw [hq1, hq2, hq3]; exact cb_ok hr h2 h3)
    have HBx : Hid (Bxs w ((w.alloc (.cells #[.int .i64 0, .slice none 0 0] 26)).alloc (.cells #[.int .i64 s, .slice none 0 0] 26)) s none 0 0 []) := hid (by
      have b1 := (Below.refl (w.alloc (.cells #[.int .i64 0, .slice none 0 0] 26)).heap.size (w.alloc (.cells #[.int .i64 0, .slice none 0 0] 26))).alloc (Nat.le_refl _) (.cells #[.int .i64 s, .slice none 0 0] 26)
      have e : (w.alloc (.cells #[.int .i64 0, .slice none 0 0] 26)).heap.size = w.heap.size + 1 := by simp
      refine ⟨by simp, ?_, ?_, ?_, ?_, ?_, ?_, ?_, Own.nil _ _, hb0.trans (b1.mono hb0.size)⟩
      · exact (b1.cell (p := ⟨w.heap.size, 0, none⟩) (by simp)).trans (World.cell?_alloc_at _ _ _ _ rfl)
      · exact (b1.cell (p := ⟨w.heap.size, 1, none⟩) (by simp)).trans (World.cell?_alloc_at _ _ _ _ rfl)
      · exact (b1.frozen (p := ⟨w.heap.size, 0, none⟩) (by simp)).trans (World.frozen?_alloc_at _ _ _ _ rfl)
      · exact (b1.frozen (p := ⟨w.heap.size, 1, none⟩) (by simp)).trans (World.frozen?_alloc_at _ _ _ _ rfl)
      · exact World.cell?_alloc_at _ _ _ _ e.symm
      · exact World.cell?_alloc_at _ _ _ _ e.symm
      · exact World.frozen?_alloc_at _ _ _ _ e.symm)
    have HA := hid (fun W (b : Below w.heap.size w W) => ha.below b)
    have HTk := hid (fun k h => take_let xs k h)
    obtain ⟨ao, cap, hv⟩ := ops_val ha
    obtain ⟨n, hnn⟩ : ∃ n, n = xs.length := ⟨_, rfl⟩
    rw [← hnn] at hv hn HBd HFl HOk HGd HTk
    subst hv
    have HN := hid hnn
    have HCell : Hid (∀ j, j < n → ∃ b off, ao = some ⟨b, off, none⟩ ∧ At w b (off + j * 6) (xs.getD j oz)) := hid (fun j hj => by
      rcases ha with ⟨h0, _⟩ | ⟨hp, b, off, cap, hv, hbb, hc⟩
      · rw [h0] at hnn; simp at hnn; omega
      · simp only [Value.slice.injEq] at hv
        exact ⟨b, off, hv.1, hc j (by omega)⟩)
    clear ha hnn hr hq1 hq2 hq3 hb0
    go_enter Try.func43, Try.ntmps43
    go_wp2_with (go_at_call 56; refine (HI.out _).mono ?_; rintro e w' ⟨rfl, rfl⟩)
    generalize (w.alloc (.cells #[.int .i64 0, .slice none 0 0] 26)).alloc (.cells #[.int .i64 s, .slice none 0 0] 26) = W0 at *
    go_loopw [7] (fun iv wr => ∃ (k : Nat) (ao2 : Option Addr) (cap2 : Nat), k ≤ n ∧ iv = .int .i64 k ∧ (∀ j, j < k → okC s (xs.getD j oz) = true) ∧ Bxs w wr s ao2 k cap2 ((xs.take k).map letV)) (fun iv _ => n - (intOf iv).toNat)
    case atStart => exact ⟨0, none, 0, Nat.zero_le _, rfl, fun j hj => by omega, by simpa using HBx.out⟩
    case round =>
      obtain ⟨k, ao2, cap2, hk, rfl, hall, hbx⟩ := hrel
      have HX := hid hbx
      have HAll := hid hall
      clear hbx hall HBx
      by_cases hlt : k < n
      · obtain ⟨b, off, rfl, hA0⟩ := HCell.out k hlt
        have hA := hA0.below HX.out.bel
        have HBk := hid (HBd.out k hlt)
        have HTkk := hid (HTk.out k hlt)
        have HSt : Hid (okC s (xs.getD k oz) = true → ∀ j, j < k + 1 → okC s (xs.getD j oz) = true) := hid (fun h j hj => by
          rcases Nat.lt_or_ge j k with h' | h'
          · exact HAll.out j h'
          · obtain rfl : j = k := by omega
            exact h)
        clear hA0
        have hll : ((xs.take k).map letV).length = k := by rw [List.length_map, List.length_take, ← HN.out]; omega
        generalize (xs.take k).map letV = l at *
        generalize xs.getD k oz = x at *
        have HPr := hid (okC_parts (s := s) (x := x))
        have HV := hid (specV x s b (off + k * 6) wr hA hs0 (by omega))
        have HKd : Hid (okC s x = (isX x && evB s x)) := hid rfl
        obtain ⟨x0, x1, x2, x3, x4, x5⟩ := x
        have HAx := hid hA
        clear hA
        go_wp2_with fail
        refine HV.out.mono ?_
        rintro e w4 ⟨z, rfl, _, b4⟩
        have HX4 := hid (HX.out.below b4)
        have HA4 := hid (HAx.out.below b4)
        have hs4 := b4.size
        clear b4 HV HX HAx
        have r0 := HX4.out.r0
        have r1 := HX4.out.r1
        have g0 := HX4.out.g0
        have g1 := HX4.out.g1
        obtain ⟨t, ht⟩ : ∃ t, t = evB s ⟨x0, x1, x2, x3, x4, x5⟩ := ⟨_, rfl⟩
        rw [← ht] at HKd ⊢
        clear ht
        cases t with
        | false =>
          obtain ⟨rfl, rfl, rfl⟩ := HBk.out (by rw [HKd.out, Bool.and_false])
          go_wp2
          refine bodyPost_ret (v := .tuple #[.agg #[.int .i64 0, .slice none 0 0], .int .i64 1]) (by simp [results, Try.results43, go_sem, r0, r1]) rfl ⟨none, 0, rfl, Own.nil _ _, ?_⟩
          exact (HX4.out.bel.setCell (by simp) _).setCell (by simp) _
        | true =>
          obtain ⟨u, hu⟩ : ∃ u, (x0 == 1) = u := ⟨_, rfl⟩
          have hu2 : (x0 != 1) = !u := by rw [← hu]; rfl
          have hu3 : isX ⟨x0, x1, x2, x3, x4, x5⟩ = u := hu
          rw [hu3] at HKd
          have k0 := HA4.out.c0
          simp only at k0
          clear hu hu3
          cases u with
          | false =>
            obtain ⟨rfl, rfl, rfl⟩ := HBk.out (by rw [HKd.out]; rfl)
            go_wp2
            refine bodyPost_ret (v := .tuple #[.agg #[.int .i64 0, .slice none 0 0], .int .i64 1]) (by simp [results, Try.results43, go_sem, r0, r1]) rfl ⟨none, 0, rfl, Own.nil _ _, ?_⟩
            exact (HX4.out.bel.setCell (by simp) _).setCell (by simp) _
          | true =>
            have hok : okC s ⟨x0, x1, x2, x3, x4, x5⟩ = true := HKd.out
            have hpp := HPr.out hok
            obtain ⟨_, hp2, hp3, hp4⟩ := hpp
            have HSt2 := hid (HSt.out hok)
            have hy : letV ⟨x0, x1, x2, x3, x4, x5⟩ = x2 * (x1 + 1) := rfl
            have hyb : -100 ≤ x2 * (x1 + 1) ∧ x2 * (x1 + 1) ≤ 100 := by rcases hp2 with rfl | rfl <;> omega
            obtain ⟨y, hyy⟩ : ∃ y, y = x2 * (x1 + 1) := ⟨_, rfl⟩
            rw [← hyy] at hyb hy
            rw [hy] at HTkk
            have e1 : IntKind.i64.wrap (x1 + 1) = x1 + 1 := IntWalk.i64_in _ (by omega)
            have e2 : IntKind.i64.wrap (x2 * (x1 + 1)) = y := by rw [← hyy]; exact IntWalk.i64_in _ (by omega)
            clear hok hy hyy HKd HBk HSt HPr r0 r1 g0 g1 hp2
            have k1 := HA4.out.c1
            have k2 := HA4.out.c2
            simp only at k1 k2
            have o1 := HX4.out.o1
            have h1 := HX4.out.h1
            have bA : Below w4.heap.size w4 (w4.alloc (.cells #[.int .i64 y] 2)) := (Below.refl _ _).alloc (Nat.le_refl _) _
            have hsz4 := HX4.out.sz
            have z1 := (bA.cell (p := ⟨w.heap.size + 1, 1, none⟩) (by show w.heap.size + 1 < w4.heap.size; omega)).trans o1
            clear bA
            have HO'' : Hid (Own w4.drew (w.heap.size + 2) w4.drew.heap.size (.slice ao2 k cap2) l) := hid (HX4.out.own.chg (Chg.ofBelow (lo := 0) ((Below.refl w4.heap.size w4).drew)) (.inr (.inr (Nat.zero_le _))))
            go_wp2
            go_region_law (refine step_append rfl _ _ rfl (w.heap.size + 2) w4.heap.size _ l _ HO''.out rfl rfl (by show w.heap.size + 2 ≤ w4.heap.size; omega) (by rw [hll]; omega) ?_; intro v' w3 hown3 hchg3 hsz3; obtain ⟨ao3, cap3, hv3⟩ := br.own_val hown3; rw [List.length_append, hll, List.length_singleton] at hv3; subst hv3; have hszd : w4.heap.size < w3.heap.size := hsz3; have s1 := (World.cell?_of_block (w := w4.drew) (w' := w3) (a := ⟨w.heap.size + 1, 1, none⟩) (hchg3.block (w.heap.size + 1) (by show w.heap.size + 1 < w4.heap.size; omega) (by omega))).trans o1; have sf := (World.frozen?_of_block (w := w4.drew) (w' := w3) (a := ⟨w.heap.size + 1, 1, none⟩) (hchg3.block (w.heap.size + 1) (by show w.heap.size + 1 < w4.heap.size; omega) (by omega))).trans h1; have HP3 := hid (HX4.out.push hown3 (show Chg (w.heap.size + 2) w4.heap.size w4 w3 from ⟨hchg3.os, hchg3.tape, hchg3.output, hchg3.size, hchg3.block⟩)); clear hown3 hchg3 o1 h1 z1)
            all_goals (try go_wp2)
            all_goals
              go_roundw
              case rel => exact ⟨k + 1, ao3, cap3, by omega, by go_num, HSt2.out, by rw [HTkk.out]; exact HP3.out⟩
              case measure => simp [intOf]; omega
      · obtain rfl : k = n := by omega
        have hcr : crB s xs = true := HGd.out (fun j hj => HAll.out j (by first | exact hj | (rw [HN.out]; exact hj)))
        have HT : Hid ((xs.take k).map letV = xs.map letV) := hid (by rw [HN.out, List.take_length])
        have hlm : (xs.map letV).length = k := by rw [List.length_map, ← HN.out]
        have r0 := HX.out.r0
        have r1 := HX.out.r1
        have g0 := HX.out.g0
        have g1 := HX.out.g1
        have o0 := HX.out.o0
        have o1 := HX.out.o1
        by_cases h40 : k ≤ 40
        · have hd : decide ((40 : Int) < (k : Int)) = false := decide_eq_false (by omega)
          have hdn : decide (40 < k) = false := decide_eq_false (by omega)
          obtain ⟨e1, e2, e3⟩ := HOk.out hcr (by first | exact h40 | (rw [← HN.out]; exact h40))
          have HLm := hid hlm
          have e2 := e2.symm
          subst e1 e3
          subst e2
          clear hcr hlm
          go_wp2
          refine bodyPost_ret (v := .tuple #[.agg #[.int .i64 s, .slice ao2 k cap2], .int .i64 0]) (by simp [results, Try.results43, go_sem, r0, r1]) rfl ⟨ao2, cap2, by first | rw [HLm.out] | rw [← HN.out], ?_, ?_⟩
          · have ho := HX.out.own
            rw [HT.out] at ho
            first | rw [HLm.out] | rw [← HN.out]
            have h := own_other (own_other ho w.heap.size 0 (.int .i64 s) (by omega)) w.heap.size 1 (.slice ao2 k cap2) (by omega)
            have h2 := h.lo (lo' := w.heap.size) (by omega)
            simpa using h2
          · exact (HX.out.bel.setCell (by simp) _).setCell (by simp) _
        · have hd : decide ((40 : Int) < (k : Int)) = true := decide_eq_true (by omega)
          have hdn : decide (40 < k) = true := decide_eq_true (by omega)
          obtain ⟨rfl, rfl, rfl⟩ := HFl.out hcr (by first | exact h40 | (rw [← HN.out]; exact h40))
          clear hcr hlm
          go_wp2
          refine bodyPost_ret (v := .tuple #[.agg #[.int .i64 0, .slice none 0 0], .int .i64 5]) (by simp [results, Try.results43, go_sem, r0, r1]) rfl ⟨none, 0, rfl, Own.nil _ _, ?_⟩
          exact (HX.out.bel.setCell (by simp) _).setCell (by simp) _
end Go.Proofs.Ytlhpipcmebmpdaa.ev
