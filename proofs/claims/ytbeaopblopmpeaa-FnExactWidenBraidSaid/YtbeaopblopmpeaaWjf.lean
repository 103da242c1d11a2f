/-
  WidenBraid, one case.
-/
import Derived.Test.YtbeaopblopmpeaaWi
import Derived.Deep.RegionLaw
namespace Go.Proofs.Ytbeaopblopmpeaa.br
open Go.RowKit Go.Proofs.Ytbeaopblopmpeaa.sl Go.Proofs.Ytbeaopblopmpeaa.pm Go.Proofs.Ytbeaopblopmpeaa.bw Go.Proofs.Ytbeaopblopmpeaa.fn

/-- append(out, x) as one step of a region that draws its order. -/
theorem step_append {ops : Array Oper} {o : Oper} {a : Act} {K : Act → World → Prop} {Q : Exit → Act → World → Prop} {E : Prop} {w : World} (hgd : o.guard = none) (s x : Operand)
    (hop : o.op = .call { callee := .builtin .append, args := #[s, x], argTypes := #[22, 22] })
    (lo hi : Nat) (v : Value) (xs : List Int) (x0 : Int) (ho : Own w lo hi v xs) (hs : a.eval s = v) (hx : a.eval x = .slice (some ⟨w.heap.size, 0, none⟩) 1 1) (hlo : lo ≤ w.heap.size) (hn : xs.length ≤ 1099511627776)
    (hK : ∀ v' w', Own w' lo w'.heap.size v' (xs ++ [x0]) → Chg lo hi w w' → w.heap.size < w'.heap.size → K (a.put o.dst v') w') : if Region.wanted o (yielded ops a.tmps) = true then Oper.wp Try.prog o a (w.alloc (.cells #[.int .i64 x0] 2)) K Q else E := by
  have hw : Region.wanted o (yielded ops a.tmps) = true := by simp [Region.wanted, hgd]
  rw [if_pos hw]
  obtain ⟨i0, hi', hz0, hz1, hz2⟩ := info_parts info64
  refine wp_append_own (P := Try.prog) (w.alloc (.cells #[.int .i64 x0] 2)) s x 22 hop lo 2 i0 (.int .i64 0) 1 8 Try.underlying22 hi' hz0 hz1 hz2 rfl (by decide) v xs.length (xs.map (Value.int .i64)) hs (ho.1.alloc _) ⟨w.heap.size, 0, none⟩ 1 1 [.int .i64 x0] hx rfl ?_ ?_ ?_ ?_ ?_ ?_
  · intro j u hj
    match j, hj with
    | 0, hj =>
      simp only [List.getElem?_cons_zero, Option.some.injEq] at hj
      subst hj
      rw [Addr.add_lit, World.cell?_alloc_at _ _ _ _ rfl]; rfl
  · intro u hu; simp at hu; subst hu; rfl
  · unfold maxLen; omega
  · omega
  · simp; omega
  · intro v' w' h1 h2 _
    have hsz : w.heap.size + 1 ≤ w'.heap.size := by have := h2.size; simpa using this
    refine hK v' w' (Own.mk' (by simpa using h1)) ⟨h2.os, h2.tape, h2.output, by omega, fun k hk hk' => ?_⟩ (by omega)
    rw [h2.block k (by simp; omega) (by intro e; have h3 := ho.2.1 k e.symm; have h4 := (ho.1.lt k e.symm).1; exact hk' ⟨h4, h3⟩)]
    exact Below.heap_alloc _ _ _ hk

theorem wid_at (l x : Int) (h : 0 < x) : widF l x = x + l := by rw [widF, sg, if_neg (by omega)]; omega
theorem wid_at' (l x : Int) (h : ¬ 0 < x) (h0 : x ≠ 0) : widF l x = x - l := by rw [widF, sg, if_pos (by omega)]; omega

set_option maxHeartbeats 2000000 in
theorem specWidenF (s : Int) (xs : List Int) (l r : Int) (v : Value) (B : Nat) (w : World) (ha : Ints w B v xs) (hB : B ≤ w.heap.size) (hn : xs.length ≤ 1099511627776) (h : okB s xs = true) (hr : rngB l r = true) :
    Calls Try.prog 35 #[.agg #[.int .i64 s, v], .int .i64 l, .int .i64 r] w fun e w' => ∃ ao cap, e = .returned (.tuple #[.agg #[.int .i64 (widS s xs l r), .slice ao (widW s xs l r).length cap], .int .i64 (widC s xs l r)]) ∧ Own w' w.heap.size w'.heap.size (.slice ao (widW s xs l r).length cap) (widW s xs l r) ∧ Below w.heap.size w w' := by
  obtain ⟨ao, cap, hv⟩ := ints_val ha
  obtain ⟨n, hnn⟩ : ∃ n, n = xs.length := ⟨_, rfl⟩
  rw [← hnn] at hv
  subst hv
  have HA := hid ha
  have HN := hid hnn
  clear ha hnn
  have HV := hid (specOkA2 s xs (.slice ao n cap) B w (.cells #[.int .i64 0, .slice none 0 0] 27) HA.out hn)
  have hrr : decide (0 ≤ l ∧ l ≤ 12) = true ∧ decide (0 ≤ r ∧ r ≤ 12) = true := by simpa [rngB] using hr
  obtain ⟨hl, hr2⟩ := hrr
  have hl12 : 0 ≤ l ∧ l ≤ 12 := of_decide_eq_true hl
  have hr12 : 0 ≤ r ∧ r ≤ 12 := of_decide_eq_true hr2
  have hs12 : 0 ≤ s ∧ s ≤ 12 := ⟨(ok_parts h).1, (ok_parts h).2.1⟩
  have HK := hid (ok_small h)
  have HKne := hid (fun k hk => ((ok_parts h).2.2.2 k hk).1)
  have h40 : n ≤ 40 := by rw [HN.out]; exact (ok_parts h).2.2.1
  obtain ⟨hl0, hl1⟩ := hl12
  obtain ⟨hr0, hr1⟩ := hr12
  obtain ⟨hs0, hs1⟩ := hs12
  rw [h] at HV
  by_cases hsum : l + s + r ≤ 12
  · have hyes : widOk s xs l r = true := by simp [widOk, h, hr, hsum]
    have HW : Hid (widS s xs l r = l + s + r ∧ widW s xs l r = xs.map (widF l) ∧ widC s xs l r = 0) := hid ⟨(wid_yes hyes).1, (wid_yes hyes).2, by rw [widC, if_neg (by rw [h]; simp), if_neg (by rw [hr]; simp), if_pos hsum]⟩
    have HL : Hid ((xs.map (widF l)).length = n) := hid (by rw [HN.out]; simp)
    rw [HW.out.1, HW.out.2.1, HW.out.2.2, HL.out]
    clear h hr hyes
    go_enter Try.func35, Try.ntmps35
    go_wp2_with fail
    refine HV.out.mono ?_
    rintro e w1 ⟨rfl, q, rfl⟩
    have HB1 := hid (box2 (bdrewN (Below.refl _ ((w.alloc (.cells #[.int .i64 s, .slice ao n cap] 27)).alloc (.cells #[.int .i64 0, .slice none 0 0] 27))) q))
    generalize ((w.alloc (.cells #[.int .i64 s, .slice ao n cap] 27)).alloc (.cells #[.int .i64 0, .slice none 0 0] 27)).drewN q = w1 at *
    have d0 := HB1.out.1 0
    have d1 := HB1.out.1 1
    have r0 := (HB1.out.2.1 0).1
    have r1 := (HB1.out.2.1 1).1
    have f0 := (HB1.out.2.1 0).2
    have f1 := (HB1.out.2.1 1).2
    have hz := HB1.out.2.2.2
    simp at d0 d1 r0 r1
    have HA1 := hid (HA.out.chg (Chg.ofBelow (lo := 0) HB1.out.2.2.1) (.inr (Nat.zero_le _)))
    clear HA HV
    go_wp2_with (go_at_call 78; refine (specIn _ _ _ _).mono ?_; rintro e w' ⟨rfl, rfl⟩)
    go_loopw [9] (fun iv wr => ∃ (k : Nat) (ao2 : Option Addr) (cap2 : Nat), k ≤ n ∧ iv = .int .i64 k ∧ wr.cell? ⟨w1.heap.size, 0, none⟩ = some (.int .i64 (l + s + r)) ∧ wr.cell? ⟨w1.heap.size, 1, none⟩ = some (.slice ao2 k cap2) ∧ wr.frozen? ⟨w1.heap.size, 1, none⟩ = false ∧ Own wr (w1.heap.size + 1) wr.heap.size (.slice ao2 k cap2) (mapTo (widF l) xs k) ∧ Below w1.heap.size w1 wr ∧ w1.heap.size + 1 ≤ wr.heap.size)
      (fun iv _ => n - (intOf iv).toNat)
    case atStart => exact ⟨0, none, 0, Nat.zero_le _, rfl, World.cell?_alloc_at _ _ _ _ rfl, World.cell?_alloc_at _ _ _ _ rfl, World.frozen?_alloc_at _ _ _ _ rfl, Own.nil _ _, (Below.refl _ _).alloc (Nat.le_refl _) _, by simp⟩
    case round =>
      obtain ⟨k, ao2, cap2, hk, rfl, c0, c1, cf, hown, hbel, hzr⟩ := hrel
      have HO := hid hown
      have HB := hid hbel
      have x0 := (HB.out.cell (p := ⟨w.heap.size, 0, none⟩) (by show w.heap.size < w1.heap.size; omega)).trans d0
      have x1 := (HB.out.cell (p := ⟨w.heap.size, 1, none⟩) (by show w.heap.size < w1.heap.size; omega)).trans d1
      have y0 := (HB.out.cell (p := ⟨w.heap.size + 1, 0, none⟩) (by show w.heap.size + 1 < w1.heap.size; omega)).trans r0
      have y1 := (HB.out.cell (p := ⟨w.heap.size + 1, 1, none⟩) (by show w.heap.size + 1 < w1.heap.size; omega)).trans r1
      have q0 := (HB.out.frozen (p := ⟨w.heap.size + 1, 0, none⟩) (by show w.heap.size + 1 < w1.heap.size; omega)).trans f0
      have q1 := (HB.out.frozen (p := ⟨w.heap.size + 1, 1, none⟩) (by show w.heap.size + 1 < w1.heap.size; omega)).trans f1
      clear d0 d1 r0 r1 f0 f1 hown hbel
      by_cases hlt : k < n
      · rcases HA1.out with ⟨hx, _⟩ | ⟨hp, b, off, cap', hv, hb, hc⟩
        · rw [HN.out, hx] at hlt; simp at hlt
        · simp only [Value.slice.injEq] at hv
          obtain ⟨rfl, hlen, rfl⟩ := hv
          clear hlen
          have h1 : wr.cell? ⟨b, off + k, none⟩ = some (.int .i64 (xs.getD k 0)) := (HB.out.cell (p := ⟨b, off + k, none⟩) (by show b < w1.heap.size; omega)).trans (hc k (by rw [← HN.out]; exact hlt))
          have hx := HK.out k (by rw [← HN.out]; exact hlt)
          have HS := hid (mapTo_succ (widF l) xs k (by rw [← HN.out]; exact hlt))
          have hne := (HKne.out k (by rw [← HN.out]; exact hlt))
          clear hc hp
          generalize xs.getD k 0 = x at *
          obtain ⟨hx0, hx1⟩ := hx
          by_cases h : 0 < x
          · have HF : Hid (widF l x = x + l) := hid (wid_at l x h)
            have e1 : IntKind.i64.wrap (x + l) = x + l := IntWalk.i64_in _ (by omega)
            go_wp2
            have bA : Below wr.heap.size wr (wr.alloc (.cells #[.int .i64 (x + l)] 2)) := (Below.refl _ _).alloc (Nat.le_refl _) _
            have z0 := (bA.cell (p := ⟨w1.heap.size, 0, none⟩) (by show w1.heap.size < wr.heap.size; omega)).trans c0
            have z1 := (bA.cell (p := ⟨w1.heap.size, 1, none⟩) (by show w1.heap.size < wr.heap.size; omega)).trans c1
            clear bA
            have HB' : Hid (Below w1.heap.size w1 wr.drew) := hid HB.out.drew
            have HO'' : Hid (Own wr.drew (w1.heap.size + 1) wr.drew.heap.size (.slice ao2 k cap2) (mapTo (widF l) xs k)) := hid (HO.out.chg (Chg.ofBelow (lo := 0) ((Below.refl wr.heap.size wr).drew)) (.inr (.inr (Nat.zero_le _))))
            go_region_law (refine step_append rfl _ _ rfl (w1.heap.size + 1) wr.heap.size _ (mapTo (widF l) xs k) _ HO''.out rfl rfl (by show w1.heap.size + 1 ≤ wr.heap.size; omega) (by rw [mapTo_len _ xs k (by rw [← HN.out]; omega)]; omega) ?_; intro v' w3 hown3 hchg3 hsz3; obtain ⟨ao3, cap3, hv3⟩ := own_val hown3; rw [List.length_append, mapTo_len _ xs k (by rw [← HN.out]; omega), List.length_singleton] at hv3; subst hv3; have hszd : wr.heap.size < w3.heap.size := hsz3; have s0 := (World.cell?_of_block (w := wr.drew) (w' := w3) (a := ⟨w1.heap.size, 0, none⟩) (hchg3.block w1.heap.size (by show w1.heap.size < wr.heap.size; omega) (by omega))).trans c0; have s1 := (World.cell?_of_block (w := wr.drew) (w' := w3) (a := ⟨w1.heap.size, 1, none⟩) (hchg3.block w1.heap.size (by show w1.heap.size < wr.heap.size; omega) (by omega))).trans c1; have sf := (World.frozen?_of_block (w := wr.drew) (w' := w3) (a := ⟨w1.heap.size, 1, none⟩) (hchg3.block w1.heap.size (by show w1.heap.size < wr.heap.size; omega) (by omega))).trans cf; have HO3 := hid hown3; have HB3 := hid (HB'.out.trans (hchg3.below (B := w1.heap.size) (by omega) (by show w1.heap.size ≤ wr.heap.size; omega))); clear hown3 hchg3 c0 c1 cf z0 z1)
            all_goals (try go_wp2)
            all_goals
              go_roundw
              case rel => exact ⟨k + 1, ao3, cap3, by omega, by go_num, (World.cell?_setCell_other _ _ _ _ (by simp)).trans s0, World.cell?_setCell_same _ _ _ s1, (World.frozen?_setCell _ _ _ _).trans sf, by
                rw [HS.out, HF.out]
                have h := own_other HO3.out w1.heap.size 1 (.slice ao3 (k + 1) cap3) (by omega)
                simpa using h, HB3.out.setCell (by simp) _, by simp; omega⟩
              case measure => simp [intOf]; omega
          · have HF : Hid (widF l x = x - l) := hid (wid_at' l x h hne)
            have e1 : IntKind.i64.wrap (x - l) = x - l := IntWalk.i64_in _ (by omega)
            go_wp2
            have bA : Below wr.heap.size wr (wr.alloc (.cells #[.int .i64 (x - l)] 2)) := (Below.refl _ _).alloc (Nat.le_refl _) _
            have z0 := (bA.cell (p := ⟨w1.heap.size, 0, none⟩) (by show w1.heap.size < wr.heap.size; omega)).trans c0
            have z1 := (bA.cell (p := ⟨w1.heap.size, 1, none⟩) (by show w1.heap.size < wr.heap.size; omega)).trans c1
            clear bA
            have HB' : Hid (Below w1.heap.size w1 wr.drew) := hid HB.out.drew
            have HO'' : Hid (Own wr.drew (w1.heap.size + 1) wr.drew.heap.size (.slice ao2 k cap2) (mapTo (widF l) xs k)) := hid (HO.out.chg (Chg.ofBelow (lo := 0) ((Below.refl wr.heap.size wr).drew)) (.inr (.inr (Nat.zero_le _))))
            go_region_law (refine step_append rfl _ _ rfl (w1.heap.size + 1) wr.heap.size _ (mapTo (widF l) xs k) _ HO''.out rfl rfl (by show w1.heap.size + 1 ≤ wr.heap.size; omega) (by rw [mapTo_len _ xs k (by rw [← HN.out]; omega)]; omega) ?_; intro v' w3 hown3 hchg3 hsz3; obtain ⟨ao3, cap3, hv3⟩ := own_val hown3; rw [List.length_append, mapTo_len _ xs k (by rw [← HN.out]; omega), List.length_singleton] at hv3; subst hv3; have hszd : wr.heap.size < w3.heap.size := hsz3; have s0 := (World.cell?_of_block (w := wr.drew) (w' := w3) (a := ⟨w1.heap.size, 0, none⟩) (hchg3.block w1.heap.size (by show w1.heap.size < wr.heap.size; omega) (by omega))).trans c0; have s1 := (World.cell?_of_block (w := wr.drew) (w' := w3) (a := ⟨w1.heap.size, 1, none⟩) (hchg3.block w1.heap.size (by show w1.heap.size < wr.heap.size; omega) (by omega))).trans c1; have sf := (World.frozen?_of_block (w := wr.drew) (w' := w3) (a := ⟨w1.heap.size, 1, none⟩) (hchg3.block w1.heap.size (by show w1.heap.size < wr.heap.size; omega) (by omega))).trans cf; have HO3 := hid hown3; have HB3 := hid (HB'.out.trans (hchg3.below (B := w1.heap.size) (by omega) (by show w1.heap.size ≤ wr.heap.size; omega))); clear hown3 hchg3 c0 c1 cf z0 z1)
            all_goals (try go_wp2)
            all_goals
              go_roundw
              case rel => exact ⟨k + 1, ao3, cap3, by omega, by go_num, (World.cell?_setCell_other _ _ _ _ (by simp)).trans s0, World.cell?_setCell_same _ _ _ s1, (World.frozen?_setCell _ _ _ _).trans sf, by
                rw [HS.out, HF.out]
                have h := own_other HO3.out w1.heap.size 1 (.slice ao3 (k + 1) cap3) (by omega)
                simpa using h, HB3.out.setCell (by simp) _, by simp; omega⟩
              case measure => simp [intOf]; omega
      · obtain rfl : k = n := by omega
        have HS : Hid (mapTo (widF l) xs k = xs.map (widF l)) := hid (by rw [HN.out]; exact mapTo_all _ xs)
        go_wp2
        show bodyPost Try.prog Try.f35 _ Exit.ret _ _
        refine bodyPost_ret (v := .tuple #[.agg #[.int .i64 (l + s + r), .slice ao2 k cap2], .int .i64 0]) (by simp [results, Try.results35, go_sem, y0, y1]) rfl ?_
        refine ⟨_, _, rfl, ?_, ?_⟩
        · have h := own_other (own_other HO.out (w.heap.size + 1) 0 (.int .i64 (l + s + r)) (by omega)) (w.heap.size + 1) 1 (.slice ao2 k cap2) (by omega)
          have h2 := h.lo (lo' := w.heap.size) (by omega)
          rw [HS.out] at h2
          simpa using h2
        · exact ((HB1.out.2.2.1.trans (HB.out.mono (by omega))).setCell (by simp) _).setCell (by simp) _
  · have hno : widOk s xs l r = false := by simp [widOk, hsum]
    have HW : Hid (widS s xs l r = 0 ∧ widW s xs l r = [] ∧ widC s xs l r = 5) := hid ⟨(wid_no hno).1, (wid_no hno).2, by rw [widC, if_neg (by rw [h]; simp), if_neg (by rw [hr]; simp), if_neg hsum]⟩
    rw [HW.out.1, HW.out.2.1, HW.out.2.2, List.length_nil]
    clear h hr hno
    go_enter Try.func35, Try.ntmps35
    go_wp2_with fail
    refine HV.out.mono ?_
    rintro e w1 ⟨rfl, q, rfl⟩
    have HB1 := hid (box2 (bdrewN (Below.refl _ ((w.alloc (.cells #[.int .i64 s, .slice ao n cap] 27)).alloc (.cells #[.int .i64 0, .slice none 0 0] 27))) q))
    generalize ((w.alloc (.cells #[.int .i64 s, .slice ao n cap] 27)).alloc (.cells #[.int .i64 0, .slice none 0 0] 27)).drewN q = w1 at *
    have d0 := HB1.out.1 0
    have d1 := HB1.out.1 1
    have r0 := (HB1.out.2.1 0).1
    have r1 := (HB1.out.2.1 1).1
    have f0 := (HB1.out.2.1 0).2
    have f1 := (HB1.out.2.1 1).2
    have hz := HB1.out.2.2.2
    simp at d0 d1 r0 r1
    have bE : Below w1.heap.size w1 (w1.alloc (.cells #[.int .i64 (l + s + r), .slice none 0 0] 27)) := (Below.refl _ _).alloc (Nat.le_refl _) _
    have y0 := (bE.cell (p := ⟨w.heap.size + 1, 0, none⟩) (by show w.heap.size + 1 < w1.heap.size; omega)).trans r0
    have y1 := (bE.cell (p := ⟨w.heap.size + 1, 1, none⟩) (by show w.heap.size + 1 < w1.heap.size; omega)).trans r1
    have q0 := (bE.frozen (p := ⟨w.heap.size + 1, 0, none⟩) (by show w.heap.size + 1 < w1.heap.size; omega)).trans f0
    have q1 := (bE.frozen (p := ⟨w.heap.size + 1, 1, none⟩) (by show w.heap.size + 1 < w1.heap.size; omega)).trans f1
    have HBE := hid bE
    clear bE
    go_wp2_with (go_at_call 78; refine (specIn _ _ _ _).mono ?_; rintro e w' ⟨rfl, rfl⟩)
    refine bodyPost_ret (v := .tuple #[.agg #[.int .i64 0, .slice none 0 0], .int .i64 5]) (by simp [results, Try.results35, go_sem, y0, y1]) rfl ⟨none, 0, rfl, Own.nil _ _, ?_⟩
    exact ((HB1.out.2.2.1.trans (HBE.out.mono (by omega))).setCell (by simp) _).setCell (by simp) _

end Go.Proofs.Ytbeaopblopmpeaa.br
