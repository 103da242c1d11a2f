/-
  IsAction of the program.
-/
import Derived.Test.YtkpilmcaeemfmaaIm
namespace Go.Proofs.Ytkpilmcaeemfmaa.ia
open Go.RowKit Go.Proofs.Ytkpilmcaeemfmaa.sl Go.Proofs.Ytkpilmcaeemfmaa.pm Go.Proofs.Ytkpilmcaeemfmaa.bw Go.Proofs.Ytkpilmcaeemfmaa.br Go.Proofs.Ytkpilmcaeemfmaa.fv Go.Proofs.Ytkpilmcaeemfmaa.fn Go.Proofs.Ytkpilmcaeemfmaa.fr Go.Proofs.Ytkpilmcaeemfmaa.ss Go.Proofs.Ytkpilmcaeemfmaa.ai Go.Proofs.Ytkpilmcaeemfmaa.ao Go.Proofs.Ytkpilmcaeemfmaa.pv
set_option linter.unusedVariables false

/-- slices.IndexFunc over rows at a closure over one variable. -/
theorem idxRowsC (p : List Int → Bool) (g : Nat) (cps : Array Value) (rows : List (List Int)) (v : Value) (B : Nat) (w : World) (ha : RowsC w B v rows) (hB : B ≤ w.heap.size) (hn : rows.length ≤ 1048576)
    (eg : ∀ args w, (callFunc g args).run Try.prog w = .ok (.enter g args) w) (hp : ∀ (k : Nat) (V : Value) (W : World), k < rows.length → Below w.heap.size w W → Ints W B V (rows.getD k []) → CapOk V → Calls Try.prog g (#[V] ++ cps) W fun e w' => e = .returned (.bool (p (rows.getD k []))) ∧ Below W.heap.size W w') :
    Calls Try.prog 158 #[v, .func (.func g) #[] cps] w fun e w' => ∃ z : Int, e = .returned (.int .i64 z) ∧ Hid (rows.any p = decide (0 ≤ z)) ∧ Below w.heap.size w w' := by
  have HP := hid hp
  clear hp
  rcases ha with ⟨rfl, ao, cap, rfl⟩ | ⟨hp, b, off, cap, V, rfl, hb, hc⟩
  · go_enter Try.func158, Try.ntmps158
    go_wp2
    refine wp_loop_rounds 1 ?_
    rw [rounds_succ]
    go_wp2
    go_ret
    exact ⟨-1, rfl, hid rfl, Below.refl _ _⟩
  · have HYes := hid (fun k h1 h2 => rany_yes p rows k h1 h2)
    have HNo := hid (rany_no p rows)
    obtain ⟨n, hnn⟩ : ∃ n, n = rows.length := ⟨_, rfl⟩
    rw [← hnn] at hp hc hn HP HYes HNo ⊢
    have HN := hid hnn
    have HC := hid hc
    clear hnn hc
    go_enter Try.func158, Try.ntmps158
    go_wp2
    go_loopw [8] (fun i wr => ∃ k : Nat, k ≤ n ∧ i = .int .i64 k ∧ (∀ j, j < k → p (rows.getD j []) = false) ∧ Below w.heap.size w wr) (fun i _ => n - (intOf i).toNat)
    case atStart => exact ⟨0, Nat.zero_le _, rfl, fun j hj => by omega, Below.refl _ _⟩
    case round =>
      obtain ⟨k, hk, rfl, hg, hbel⟩ := hrel
      have HG := hid hg
      have HB := hid hbel
      clear hg hbel
      by_cases hlt : k < n
      · have h1 : wr.cell? ⟨b, off + k, none⟩ = some (V k) := (HB.out.cell (p := ⟨b, off + k, none⟩) (by show b < _; omega)).trans (HC.out k hlt).1
        have HI := hid ((HC.out k hlt).2.1.chg (Chg.ofBelow (lo := 0) HB.out) (.inr (Nat.zero_le _)))
        have HPk := hid (HP.out k (V k) wr hlt HB.out HI.out (HC.out k hlt).2.2)
        generalize V k = x at *
        clear HI
        go_wp2_with fail
        refine HPk.out.mono ?_
        rintro e w1 ⟨rfl, b1⟩
        have HB1 := hid (HB.out.trans (b1.mono HB.out.size))
        clear b1 HPk
        obtain ⟨q, hq⟩ : ∃ q, q = p (rows.getD k []) := ⟨_, rfl⟩
        rw [← hq]
        have HQ := hid hq
        clear hq
        cases q
        · go_wp2
          go_roundw
          case rel => exact ⟨k + 1, by omega, by go_num, fun j hj => by
            rcases Nat.lt_or_ge j k with h | h
            · exact HG.out j h
            · obtain rfl : j = k := by omega
              exact HQ.out.symm, HB1.out⟩
          case measure => simp [intOf]; omega
        · have HF := hid (HYes.out k hlt HQ.out.symm)
          go_wp2
          go_ret
          exact ⟨k, rfl, hid (by rw [HF.out]; simp), HB1.out⟩
      · obtain rfl : k = n := by omega
        have HF := hid (HNo.out HG.out)
        go_wp2
        go_ret
        exact ⟨-1, rfl, hid (by rw [HF.out]; rfl), HB.out⟩

theorem contRowsC (p : List Int → Bool) (g : Nat) (cps : Array Value) (rows : List (List Int)) (v : Value) (B : Nat) (w : World) (ha : RowsC w B v rows) (hB : B ≤ w.heap.size) (hn : rows.length ≤ 1048576)
    (eg : ∀ args w, (callFunc g args).run Try.prog w = .ok (.enter g args) w) (hp : ∀ (k : Nat) (V : Value) (W : World), k < rows.length → Below w.heap.size w W → Ints W B V (rows.getD k []) → CapOk V → Calls Try.prog g (#[V] ++ cps) W fun e w' => e = .returned (.bool (p (rows.getD k []))) ∧ Below W.heap.size W w') :
    Calls Try.prog 84 #[v, .func (.func g) #[] cps] w fun e w' => e = .returned (.bool (rows.any p)) ∧ Below w.heap.size w w' := by
  have H := hid (idxRowsC p g cps rows v B w ha hB hn eg hp)
  obtain ⟨ao, cap, rfl⟩ := rows_val ha.rows
  clear ha hp
  generalize rows.length = n at *
  go_enter Try.func84, Try.ntmps84
  go_wp2_with fail
  refine H.out.mono ?_
  rintro e w1 ⟨z, rfl, HZ, b1⟩
  have HB := hid b1
  clear b1
  by_cases hz : 0 ≤ z
  · have HF : Hid (rows.any p = true) := hid (by rw [HZ.out]; simpa using hz)
    go_wp2
    go_ret
    exact ⟨by rw [HF.out]; rfl, HB.out⟩
  · have HF : Hid (rows.any p = false) := hid (by rw [HZ.out]; simpa using hz)
    have hz2 : decide (0 ≤ z) = false := decide_eq_false hz
    go_wp2
    go_ret
    exact ⟨by rw [HF.out]; rfl, HB.out⟩


/-- The closure: is a row longer than its reduced word? -/
theorem shorter (xs : List Int) (v : Value) (B : Nat) (w : World) (ha : Ints w B v xs) (hB : B ≤ w.heap.size) (hcp : CapOk v) (hn : xs.length ≤ 20000) (hs : fr.Small xs) :
    Calls Try.prog 85 #[v] w fun e w' => e = .returned (.bool (shB xs)) ∧ Below w.heap.size w w' := by
  obtain ⟨ao, cap, hv⟩ := ints_val ha
  have HR := hid (reduced xs v B w ha hB ⟨ao, cap, hv, hcp _ _ _ hv⟩ (by omega) hs)
  have hle := redL_len xs
  have HS : Hid (shB xs = decide ((redL xs).length < xs.length)) := hid rfl
  subst hv
  clear ha hcp hs
  generalize shB xs = q at *
  generalize xs.length = n at *
  generalize redL xs = zs at *
  go_enter Try.func85, Try.ntmps85
  go_wp2_with fail
  refine HR.out.mono ?_
  rintro e w1 ⟨v1, rfl, o1, b1⟩
  have HB := hid b1
  obtain ⟨ao1, cap1, hv1⟩ := br.own_val o1
  generalize zs.length = m at *
  subst hv1
  clear o1 b1 HR
  by_cases hlt : m < n
  · have hq : q = true := by rw [HS.out]; exact decide_eq_true hlt
    subst hq
    go_wp2
    go_ret
    exact ⟨rfl, HB.out⟩
  · have hq : q = false := by rw [HS.out]; exact decide_eq_false hlt
    subst hq
    go_wp2
    go_ret
    exact ⟨rfl, HB.out⟩

set_option maxRecDepth 100000 in
set_option maxHeartbeats 1600000 in
/-- The words of one letter. -/
theorem generators (n : Nat) (hn : n ≤ 12) (w : World) :
    Calls Try.prog 88 #[.int .i64 n] w fun e w' => ∃ cap, e = .returned (.slice (some ⟨w.heap.size, 0, none⟩) n cap) ∧ br.Wds w' w'.heap.size w.heap.size (genL n) ∧ Below w.heap.size w w' ∧ w.heap.size < w'.heap.size := by
  obtain ⟨i0, hi, hz0, hz1, hz2⟩ := info_parts infoS
  have HGl := hid (gen_len n)
  have HGa := hid (fun k h => gen_at n k h)
  go_enter Try.func88, Try.ntmps88
  go_wp2_with (at_make; refine wpList_make_full _ rfl (.tmp 5) (.tmp 5) 28 rfl w.heap.size 29 i0 (.slice none 0 0) 1 Try.underlying28 hi hz0 hz1 .i64 .i64 _ _ n rfl rfl (by omega) (by omega) (by rw [hz2]; omega) (by unfold maxLen; omega) (Nat.le_refl _) ?_; intro w1 hown1 hgrow1)
  rw [zerosS] at hown1
  have HP0 : Hid (PrtE w.heap.size w.heap.size n 0 (genL n) w1) := hid ⟨fun _ => .slice none 0 0, fun _ => 0, fun _ => 0, Nat.le_refl _, (hown1.lt _ rfl).2, fun j hj => ⟨hown1.frozenAt j, .slice none 0 0, by rw [hown1.cellAt j (by omega)]; simp [hj]⟩, fun j hj => by omega⟩
  have HB1 := hid ((Below.refl w.heap.size w).grown hgrow1 (Nat.le_refl _) (fun k hk => by cases hk))
  clear hown1 hgrow1
  go_loopw [8] (fun i wr => ∃ k : Nat, k ≤ n ∧ i = .int .i64 k ∧ PrtE w.heap.size w.heap.size n k (genL n) wr ∧ Below w.heap.size w wr)
    (fun i _ => n - (intOf i).toNat)
  case atStart => exact ⟨0, Nat.zero_le _, rfl, HP0.out, HB1.out⟩
  case round =>
    obtain ⟨k, hk, rfl, ⟨V1, Lo, Hi, hpr⟩, hbel⟩ := hrel
    have HPr := hid hpr
    have HBel := hid hbel
    have hgs := hpr.gsz
    clear hpr hbel
    by_cases hlt : k < n
    · have hw1 : IntKind.i64.wrap ((k : Int) + 1) = (k : Int) + 1 := IntWalk.i64_in _ (by omega)
      have b2 : Below wr.heap.size wr (wr.alloc (.cells #[.int .i64 ((k : Int) + 1)] 2)) := (Below.refl _ _).alloc (Nat.le_refl _) _
      have o2 : sl.Own (wr.alloc (.cells #[.int .i64 ((k : Int) + 1)] 2)) wr.heap.size (wr.alloc (.cells #[.int .i64 ((k : Int) + 1)] 2)).heap.size (.slice (some ⟨wr.heap.size, 0, none⟩) 1 1) ((genL n).getD k []) := by
        rw [HGa.out k hlt]
        exact sl.Own.mk' (xs := [(k : Int) + 1]) (World.ownsRow_lit wr #[.int .i64 ((k : Int) + 1)] 1 (Nat.le_refl _) (by unfold maxLen; omega) rfl)
      have hcell : ∃ u, (wr.alloc (.cells #[.int .i64 ((k : Int) + 1)] 2)).cell? ⟨w.heap.size, k, none⟩ = some u := by
        obtain ⟨u, hu⟩ := (HPr.out.fr k hlt).2
        exact ⟨u, (b2.cell (p := ⟨w.heap.size, k, none⟩) hgs).trans hu⟩
      obtain ⟨u0, hcell⟩ := hcell
      have hfr : (wr.alloc (.cells #[.int .i64 ((k : Int) + 1)] 2)).frozen? ⟨w.heap.size, k, none⟩ = false := (b2.frozen (p := ⟨w.heap.size, k, none⟩) hgs).trans (HPr.out.fr k hlt).1
      have he := World.setCell_alloc_past (w := wr) (.cells #[.int .i64 ((k : Int) + 1)] 2) w.heap.size k (.slice (some ⟨wr.heap.size, 0, none⟩) 1 1) hgs
      have HP2 := hid (HPr.out.step hlt b2 _ o2)
      have HB2 := hid ((HBel.out.trans (b2.mono HBel.out.size)).setCell (p := ⟨w.heap.size, k, none⟩) (by simp) (.slice (some ⟨wr.heap.size, 0, none⟩) 1 1))
      rw [he] at HP2 HB2
      clear o2 b2 he
      go_wp2
      go_roundw
      case rel => exact ⟨k + 1, by omega, by go_num, ⟨_, _, _, HP2.out⟩, HB2.out⟩
      case measure => simp [intOf]; omega
    · obtain rfl : k = n := by omega
      go_wp2
      go_ret
      refine ⟨k, rfl, fun j hj => ?_, HBel.out, hgs⟩
      rw [HGl.out] at hj
      obtain ⟨a1, a2, a3, a4, _⟩ := HPr.out.row j hj
      obtain ⟨ao, cap, hv⟩ := br.own_val a2
      refine ⟨ao, cap, by rw [Nat.zero_add] at a1; rw [a1, hv], ?_, ?_⟩
      · rw [← hv]; exact a2.ints.mono a4
      · rw [← hv]; exact nilok_own a2

/-- The product of rows behind slices.Values. -/
theorem prodRows (rows : List (List Int)) (v : Value) (B : Nat) (w : World) (ha : RowsC w B v rows) (hB : B ≤ w.heap.size) (hap : apB rows = true) (hsh : rows.any shB = false) :
    Calls Try.prog 90 #[.func (.func 161) #[] #[.pointer (some ⟨w.heap.size, 0, none⟩)]] (w.alloc (.cells #[v] 28)) fun e W' => ∃ v', e = .returned v' ∧ sl.Own W' (w.alloc (.cells #[v] 28)).heap.size W'.heap.size v' (redL rows.flatten) ∧ Below (w.alloc (.cells #[v] 28)).heap.size (w.alloc (.cells #[v] 28)) W' := by
  have hp := ap_parts hap
  have h12 := im_small hp.1
  have hc0 : (w.alloc (.cells #[v] 28)).cell? ⟨w.heap.size, 0, none⟩ = some v := World.cell?_alloc_at _ _ _ _ rfl
  have hz : (w.alloc (.cells #[v] 28)).heap.size = w.heap.size + 1 := by simp
  have hbl : Below w.heap.size w (w.alloc (.cells #[v] 28)) := (Below.refl _ _).alloc (Nat.le_refl _) _
  generalize w.alloc (.cells #[v] 28) = W at *
  rcases ha with ⟨rfl, ao, cap, rfl⟩ | ⟨hpos, b, off, cap, V, rfl, hb, hc⟩
  · exact productV [] 0 w.heap.size 0 (fun _ => .slice none 0 0) rfl W (Nat.zero_le _) (fun X hX hsX => vals0_stops Fence.wide _ trivial rfl _ _ cap ao _ X (by omega) ((hX.cell (p := ⟨w.heap.size, 0, none⟩) (by show w.heap.size < W.heap.size; omega)).trans hc0)) (fun j hj => by omega) (by omega)
  · refine productV rows rows.length w.heap.size B V rfl W (by omega) (fun X hX hsX => vals_stops Fence.wide _ trivial rfl (by omega) _ _ b off rows.length cap V (by omega) (by omega) X (by omega) (by omega) ((hX.cell (p := ⟨w.heap.size, 0, none⟩) (by show w.heap.size < W.heap.size; omega)).trans hc0) (fun j hj => ((hbl.trans (hX.mono (by omega))).cell (p := ⟨b, off + j, none⟩) (by show b < _; omega)).trans (hc j hj).1)) (fun j hj => ?_) h12
    obtain ⟨h1, h2, h3⟩ := hc j hj
    have h4 := im_rows hp.1 j hj
    refine ⟨?_, h2.chg (Chg.ofBelow (lo := 0) hbl) (.inr (Nat.zero_le _)), h4.1, h4.2, sh_reduced (any_not hsh j hj)⟩
    rcases h2 with ⟨h5, _⟩ | ⟨_, b2, o2, c2, h6, _, _⟩
    · have := hp.2 j hj
      rw [h5] at this; simp at this
    · exact ⟨b2, o2, c2, h6, h3 _ _ _ h6⟩

set_option maxRecDepth 100000 in
set_option maxHeartbeats 1600000 in
theorem implIA (rows : List (List Int)) (v : Value) (B : Nat) (w : World) (ha : RowsC w B v rows) (hB : B ≤ w.heap.size) (hq : SmallR rows) :
    Calls Try.prog 29 #[v] w fun e w' => e = .returned (.bool (isB rows)) ∧ Below w.heap.size w w' := by
  have HA := hid (implAP rows v B w ha hB hq)
  obtain ⟨ao, cap, hv⟩ := rows_val ha.rows
  cases hap : apB rows
  · rw [hap] at HA
    have HF := hid (is_ap hap)
    subst hv
    clear ha hq hap
    generalize apL rows = l at *
    generalize rows.length = n at *
    go_enter Try.func29, Try.ntmps29
    go_wp2_with fail
    refine HA.out.mono ?_
    rintro e w1 ⟨v1, rfl, o1, b1⟩
    have HB := hid b1
    clear o1 b1 HA
    go_wp2
    go_ret
    exact ⟨by rw [HF.out]; rfl, HB.out⟩
  · rw [hap] at HA
    have hp := ap_parts hap
    have h12 := im_small hp.1
    have eg := enters_of Try.func85 (by kernel_rfl) rfl
    have HRo := hid ha
    have HCt : Hid (∀ W : World, Below w.heap.size w W → Calls Try.prog 84 #[v, .func (.func 85) #[] #[]] W fun e w' => e = .returned (.bool (rows.any shB)) ∧ Below W.heap.size W w') :=
      hid (fun W hW => contRowsC shB 85 #[] rows v B W (ha.chg (Chg.ofBelow (lo := 0) hW) (.inr (Nat.zero_le _))) (Nat.le_trans hB hW.size) hq.len eg (fun k V X hk hX hI hC =>
        shorter (rows.getD k []) V B X hI (Nat.le_trans hB (Nat.le_trans hW.size hX.size)) hC (im_rows hp.1 k hk).1 (im_rows hp.1 k hk).2))
    have HPr := hid (fun (hsh : rows.any shB = false) (W : World) (hW : Below w.heap.size w W) => prodRows rows v B W (ha.chg (Chg.ofBelow (lo := 0) hW) (.inr (Nat.zero_le _))) (Nat.le_trans hB hW.size) hap hsh)
    have HSh := hid (@is_sh rows)
    have HLs := hid (fun h => @is_last rows hap h)
    have HFl := hid (flat_bound hp.1)
    have HRl := hid (redL_len rows.flatten)
    have HGf := hid (flat_length rows.length)
    have HGl := hid (gen_len rows.length)
    clear ha hq hap eg hp
    generalize apL rows = l at *
    obtain ⟨n, hnn⟩ : ∃ n, n = rows.length := ⟨_, rfl⟩
    rw [← hnn] at hv h12 HLs HGf HGl
    clear hnn
    subst hv
    cases hs : rows.any shB
    · rw [hs] at HCt
      have HP2 := hid (HPr.out hs)
      have HF := hid (HLs.out hs)
      clear hs HPr HSh HLs
      generalize isB rows = q at *
      generalize redL rows.flatten = zs at *
      go_enter Try.func29, Try.ntmps29
      go_wp2_with fail
      refine HA.out.mono ?_
      rintro e w1 ⟨v1, rfl, o1, b1⟩
      have HB1 := hid b1
      clear o1 b1 HA
      go_wp2_with fail
      refine (HCt.out w1 HB1.out).mono ?_
      rintro e w2 ⟨rfl, b2⟩
      have HB2 := hid (HB1.out.trans (b2.mono HB1.out.size))
      clear b2 HCt
      go_wp2_with fail
      refine (generators n h12 w2).mono ?_
      rintro e w3 ⟨c3, rfl, g3, b3, s3⟩
      have HG3 := hid g3
      have HB3 := hid (HB2.out.trans (b3.mono HB2.out.size))
      have HCc := hid (br.concat (genL n) w2.heap.size c3 w3.heap.size w3 HG3.out (Nat.le_refl _) s3 (by rw [HGl.out]; omega) (by rw [HGf.out]; omega))
      rw [HGl.out] at HCc
      clear b3 g3
      go_wp2_with fail
      refine HCc.out.mono ?_
      rintro e w4 ⟨v4, rfl, o4, b4⟩
      have HO4 := hid o4
      have HB4 := hid (HB3.out.trans (b4.mono HB3.out.size))
      obtain ⟨ao4, cap4, hv4⟩ := br.own_val o4
      rw [HGf.out] at hv4
      subst hv4
      clear o4 b4 HCc HG3
      go_wp2_with fail
      refine (values ao n cap w4).mono ?_
      rintro e w5 ⟨rfl, rfl⟩
      have bA : Below w4.heap.size w4 (w4.alloc (.cells #[.slice ao n cap] 28)) := (Below.refl _ _).alloc (Nat.le_refl _) _
      have hz5 : (w4.alloc (.cells #[.slice ao n cap] 28)).heap.size = w4.heap.size + 1 := by simp
      have HB5 := hid (HB4.out.trans (bA.mono HB4.out.size))
      have HO5 := hid (HO4.out.ints.chg (Chg.ofBelow (lo := 0) bA) (.inr (Nat.zero_le _)))
      have HP5 := hid (HP2.out w4 HB4.out)
      generalize w4.alloc (.cells #[.slice ao n cap] 28) = w5 at *
      clear bA HO4 HP2
      go_wp2_with fail
      refine HP5.out.mono ?_
      rintro e w6 ⟨v6, rfl, o6, b6⟩
      have HB6 := hid (HB5.out.trans (b6.mono HB5.out.size))
      have HEq := hid (nb.equalQ zs (genL n).flatten v6 (.slice ao4 n cap4) w6.heap.size w4.heap.size w6 o6.ints (HO5.out.chg (Chg.ofBelow (lo := 0) b6) (.inr (Nat.zero_le _))) (by have := HRl.out; have := HFl.out; omega) (by rw [HGf.out]; omega))
      obtain ⟨ao6, cap6, hv6⟩ := br.own_val o6
      generalize zs.length = m at *
      subst hv6
      rw [← HF.out] at HEq
      clear o6 b6 HP5 HO5
      go_wp2_with fail
      refine HEq.out.mono ?_
      rintro e w7 ⟨rfl, m7, rfl⟩
      have HB7 := hid (bdrewN HB6.out m7)
      generalize w6.drewN m7 = w7 at *
      clear HEq
      go_wp2
      go_ret
      exact ⟨rfl, HB7.out⟩
    · rw [hs] at HCt
      have HF := hid (HSh.out hs)
      clear hs HPr HSh HLs
      go_enter Try.func29, Try.ntmps29
      go_wp2_with fail
      refine HA.out.mono ?_
      rintro e w1 ⟨v1, rfl, o1, b1⟩
      have HB1 := hid b1
      clear o1 b1 HA
      go_wp2_with fail
      refine (HCt.out w1 HB1.out).mono ?_
      rintro e w2 ⟨rfl, b2⟩
      have HB2 := hid (HB1.out.trans (b2.mono HB1.out.size))
      clear b2 HCt
      go_wp2
      go_ret
      exact ⟨by rw [HF.out]; rfl, HB2.out⟩
end Go.Proofs.Ytkpilmcaeemfmaa.ia
