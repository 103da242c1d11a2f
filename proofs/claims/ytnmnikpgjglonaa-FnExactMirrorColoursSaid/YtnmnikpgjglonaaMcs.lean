/-
  MirrorColours of the model.
-/
import Derived.Test.YtnmnikpgjglonaaMcp
import Derived.Test.YtnmnikpgjglonaaVc1
import Derived.OwnWalk
namespace Go.Proofs.Ytnmnikpgjglonaa.cu
open Go.RowKit Go.Proofs.Ytnmnikpgjglonaa.sl Go.Proofs.Ytnmnikpgjglonaa.br Go.Proofs.Ytnmnikpgjglonaa.ss Go.Proofs.Ytnmnikpgjglonaa.nb
set_option linter.unusedVariables false
set_option linter.unusedSimpArgs false
set_option maxRecDepth 100000

theorem mx_c (w1 : World) (c : Int) : MX w1 (w1.alloc (.cells #[.int .i64 c, .slice none 0 0] 27)) c w1.heap.size (.slice none 0 0) [] [] := by
  have b1 : Below w1.heap.size w1 (w1.alloc (.cells #[.int .i64 c, .slice none 0 0] 27)) := (Below.refl _ _).alloc (Nat.le_refl _) _
  refine ⟨by omega, by first | (simp; done) | (simp; omega), ?_, ?_, ?_, SG.ofRow (World.ownsRow_nil _ _ _ _), fun b hb => ?_, b1⟩
  · go_simp
  · go_simp
  · go_simp
  · simp [Value.ownBlock] at hb

set_option maxHeartbeats 8000000 in
theorem specMI (c : Int) (rows : List (List Int)) (f : Value) (B : Nat) (w : World) (ha : RowsN w B f rows) (hB : B ≤ w.heap.size) (hq : nb.Small rows) :
    Calls Try.prog 32 #[.agg #[.int .i64 c, f]] w fun e w' => ∃ ao cap, e = .returned (.tuple #[.agg #[.int .i64 (miS c rows), .slice ao (miR c rows).length cap], .int .i64 (colC c rows)]) ∧ ss.ROwn w' w.heap.size w'.heap.size (.slice ao (miR c rows).length cap) (miR c rows) ∧ Below w.heap.size w w' := by
  have HB0 : Hid (Below w.heap.size w ((w.alloc (.cells #[.int .i64 c, f] 27)).alloc (.cells #[.int .i64 0, .slice none 0 0] 27))) := hid (((Below.refl _ w).alloc (Nat.le_refl _) _).alloc (by simp) _)
  have HV := hid (specOk19 c rows f B w.heap.size ((w.alloc (.cells #[.int .i64 c, f] 27)).alloc (.cells #[.int .i64 0, .slice none 0 0] 27)) (by go_simp) (by go_simp) (ha.rows.below HB0.out) hq)
  have HC : Hid (miS c rows = if colB c rows = true then c else 0) := hid rfl
  have HR : Hid (miR c rows = if colB c rows = true then rows.map List.reverse else []) := hid rfl
  have HK : Hid (colC c rows = if colB c rows = true then 0 else 1) := hid rfl
  have HCl := hid (fun h => @col_k c rows h)
  have HA := hid ha.rows
  obtain ⟨ao, cap, hv⟩ := rows_val ha.rows
  clear ha hq
  generalize miS c rows = C at *
  generalize miR c rows = R at *
  generalize colC c rows = K at *
  obtain ⟨q, hq⟩ : ∃ q, q = colB c rows := ⟨_, rfl⟩
  rw [← hq] at HV HC HR HK HCl
  clear hq
  have hz0 : ((w.alloc (.cells #[.int .i64 c, f] 27)).alloc (.cells #[.int .i64 0, .slice none 0 0] 27)).heap.size = w.heap.size + 2 := by simp
  have HX := hid (fun (w1 : World) (b1 : Below (w.heap.size + 2) ((w.alloc (.cells #[.int .i64 c, f] 27)).alloc (.cells #[.int .i64 0, .slice none 0 0] 27)) w1) => (show w1.cell? ⟨w.heap.size, 0, none⟩ = some (.int .i64 c) ∧ w1.cell? ⟨w.heap.size, 1, none⟩ = some f ∧ w1.cell? ⟨w.heap.size + 1, 0, none⟩ = some (.int .i64 0) ∧ w1.cell? ⟨w.heap.size + 1, 1, none⟩ = some (.slice none 0 0) ∧ w1.frozen? ⟨w.heap.size + 1, 0, none⟩ = false ∧ w1.frozen? ⟨w.heap.size + 1, 1, none⟩ = false from
    ⟨(b1.cell (p := ⟨w.heap.size, 0, none⟩) (by simp)).trans (by go_simp), (b1.cell (p := ⟨w.heap.size, 1, none⟩) (by simp)).trans (by go_simp), (b1.cell (p := ⟨w.heap.size + 1, 0, none⟩) (by simp)).trans (by go_simp), (b1.cell (p := ⟨w.heap.size + 1, 1, none⟩) (by simp)).trans (by go_simp), (b1.frozen (p := ⟨w.heap.size + 1, 0, none⟩) (by simp)).trans (by go_simp), (b1.frozen (p := ⟨w.heap.size + 1, 1, none⟩) (by simp)).trans (by go_simp)⟩))
  cases q with
  | false =>
    clear HCl HA
    generalize rows.length = n at *
    subst hv
    go_enter Try.func32, Try.ntmps32
    go_wp2_with fail
    refine HV.out.mono ?_
    rintro e w1 ⟨rfl, b1⟩
    rw [hz0] at b1
    obtain ⟨c0, c1, d0, d1, e0, e1⟩ := HX.out w1 b1
    have HB1 := hid (HB0.out.trans (b1.mono (by omega)))
    clear b1
    go_wp2
    refine bodyPost_ret (v := .tuple #[.agg #[.int .i64 0, .slice none 0 0], .int .i64 1]) (by simp [results, Try.results32, go_sem, d0, d1]) rfl ⟨none, 0, ?_, ?_, ?_⟩
    · rw [HC.out, HR.out, HK.out]; rfl
    · rw [HR.out]; exact ⟨Nat.le_refl _, .inl ⟨rfl, _, _, rfl⟩⟩
    · exact (HB1.out.setCell (by simp) _).setCell (by simp) _
  | true =>
    have hcol := HCl.out (by trivial)
    have hl1 := hcol.n1
    have hl8 := hcol.n8
    have HC2 : Hid (C = c) := hid (by rw [HC.out]; rfl)
    have HK2 : Hid (K = 0) := hid (by rw [HK.out]; rfl)
    have HR2 : Hid (R = rows.map List.reverse) := hid (by rw [HR.out]; rfl)
    have HLn : Hid (∀ j, j < rows.length → (rows.getD j []).length ≤ 8) := hid (fun j hj => by have h1 := hcol.len j hj; have h2 := hcol.c8; omega)
    clear HC HR HK HCl hcol
    rcases HA.out with ⟨h0, _⟩ | ⟨hp, b, off, cap', V, hv', hb, hc⟩
    · rw [h0] at hl1; simp at hl1
    have HCc := hid hc
    have HTk := hid (rev_snoc rows)
    obtain ⟨n, hnn⟩ : ∃ n, n = rows.length := ⟨_, rfl⟩
    have HN := hid hnn
    rw [← hnn] at hv' hl1 hl8 HCc HTk HLn
    clear hnn hv hc HA hp
    subst hv'
    go_enter Try.func32, Try.ntmps32
    go_wp2_with fail
    refine HV.out.mono ?_
    rintro e w1 ⟨rfl, b1⟩
    rw [hz0] at b1
    obtain ⟨c0, c1, d0, d1, e0, e1⟩ := HX.out w1 b1
    have HB1 := hid (HB0.out.trans (b1.mono (by omega)))
    have hz1 : w.heap.size + 2 ≤ w1.heap.size := by have := b1.size; rw [hz0] at this; exact this
    have HBx := hid b1
    have HM0 := hid (mx_c w1 c)
    clear b1 HV d0 d1 e0 e1
    go_wp2
    go_loopw [5] (fun i wr => ∃ (k : Nat) (z : Value) (vals : List Value) (L : List (List Int)), k ≤ n ∧ i = .int .i64 k ∧ MX w1 wr c w1.heap.size z vals L ∧ L = (rows.map List.reverse).take k) (fun i _ => n - (intOf i).toNat)
    case atStart => exact ⟨0, _, [], [], Nat.zero_le _, rfl, HM0.out, rfl⟩
    case round =>
      obtain ⟨k, z, vals, L, hk, rfl, hmx, hL⟩ := hrel
      have HMX := hid hmx
      have HL := hid hL
      have hzr := hmx.bl.size
      have hgr := hmx.g1
      clear hmx hL HM0
      have HBw : Hid (Below w.heap.size w wr) := hid (HB1.out.trans (HMX.out.bl.mono (by omega)))
      obtain ⟨c0', c1', d0, d1, e0, e1⟩ := HX.out wr (HBx.out.trans (HMX.out.bl.mono hz1))
      by_cases hlt : k < n
      · clear d0 d1 e0 e1 c0'
        obtain ⟨hcv, hI⟩ := HCc.out k hlt
        have hblt := World.block_lt_of_cell? w _ hcv
        have hcv2 := (HBw.out.cell (p := ⟨b, off + k, none⟩) hblt).trans hcv
        have hsk := HLn.out k hlt
        have HI := hid hI
        have HT2 := hid (HTk.out k hlt)
        have hLl : L.length ≤ 1048576 := by have := congrArg List.length HL.out; simp at this; omega
        have m1 := HMX.out.c1
        have m0 := HMX.out.c0
        have q1 := HMX.out.fz
        obtain ⟨a9, c9, hv9⟩ := ints_val hI
        obtain ⟨az, cz, hvz⟩ := HMX.out.sr.sr.val
        have hk0 : (0 : Int) ≤ (k : Int) := by omega
        have hkn : (k : Int) < (n : Int) := by omega
        have bA0 := (Below.refl wr.heap.size wr).alloc (Nat.le_refl _) (.cells #[] 2)
        have hA1 := (bA0.cell (p := ⟨w.heap.size, 1, none⟩) (by show w.heap.size < wr.heap.size; omega)).trans c1'
        have hA2 := (bA0.cell (p := ⟨b, off + k, none⟩) (by show b < wr.heap.size; omega)).trans hcv2
        have HRv := hid (rvTo_succ (rows.getD k []))
        have HRa := hid (rvTo_all (rows.getD k []))
        have HCv := hid hcv
        generalize rows.getD k [] = xs at *
        generalize V k = u at *
        clear hI hcv
        obtain ⟨m, hm⟩ : ∃ m, m = xs.length := ⟨_, rfl⟩
        rw [← hm] at hsk hv9 HRv HRa
        have HM := hid hm
        clear hm
        subst hv9
        obtain ⟨ll, hll⟩ : ∃ l, l = L.length := ⟨_, rfl⟩
        rw [← hll] at hvz hLl
        have HLl := hid hll
        clear hll
        subst hvz
        have hO := (Own.built wr #[] rfl)
        have HOl : Hid (Own (wr.alloc (.cells #[] 2)) wr.heap.size (wr.alloc (.cells #[] 2)).heap.size (.slice (some ⟨wr.heap.size, 0, none⟩) 0 0) (rvTo xs 0)) := hid (by simpa [rvTo] using hO)
        have hwm : IntKind.i64.wrap ((m : Int) - 1) = (m : Int) - 1 := IntWalk.i64_in _ (by omega)
        clear hO m1 m0 q1 bA0
        go_wp2
        clear hA1 hA2 c1' hcv2
        go_loopw [6, 7] (fun l kk wq => ∃ (q : Nat) (zz : Value) (j : Int), q ≤ m ∧ l = zz ∧ kk = .int .i64 j ∧ j = (m : Int) - 1 - (q : Int) ∧ sl.Own wq wr.heap.size wq.heap.size zz (rvTo xs q) ∧ Below wr.heap.size wr wq) (fun _ kk _ => (intOf kk + 1).toNat)
        case atStart => exact ⟨0, _, _, Nat.zero_le _, rfl, rfl, by simp, HOl.out, (Below.refl _ _).alloc (Nat.le_refl _) _⟩
        case round =>
          rename World => wq
          obtain ⟨q, zz, j, hqm, rfl, rfl, hj, hoq, hbq⟩ := hrel
          have HOq := hid hoq
          have HBq := hid hbq
          have hzq := hbq.size
          clear hoq hbq
          have HBwq : Hid (Below w.heap.size w wq) := hid (HBw.out.trans (HBq.out.mono (by omega)))
          obtain ⟨c0', c1', d0, d1, e0, e1⟩ := HX.out wq (HBx.out.trans ((HMX.out.bl.trans (HBq.out.mono hzr)).mono hz1))
          have hcv2 := (HBwq.out.cell (p := ⟨b, off + k, none⟩) hblt).trans HCv.out
          clear c0' d0 d1 e0 e1
          by_cases hqlt : q < m
          · obtain ⟨j', rfl⟩ := Int.eq_ofNat_of_zero_le (show 0 ≤ j by omega)
            have hjn : j' = m - 1 - q := by omega
            have HPt2 := hid (HRv.out q hqlt)
            rw [← hjn] at HPt2
            rcases HI.out with ⟨h0, _⟩ | ⟨_, g, o9, c8, hv8, hg, hcc⟩
            · have := HM.out; rw [h0] at this; simp at this; omega
            simp only [Value.slice.injEq] at hv8
            obtain ⟨rfl, hmm, rfl⟩ := hv8
            clear hmm
            have hcj0 := hcc j' (by rw [← HM.out]; omega)
            have hcj := (HBwq.out.cell (p := ⟨g, o9 + j', none⟩) (World.block_lt_of_cell? w _ hcj0)).trans hcj0
            have hlq : (rvTo xs q).length ≤ 1048576 := by unfold rvTo; rw [List.length_take]; omega
            generalize xs.getD j' 0 = y at *
            have hj0 : (0 : Int) ≤ (j' : Int) := by omega
            have hjm : (j' : Int) < (m : Int) := by omega
            have hwj : IntKind.i64.wrap ((j' : Int) - 1) = (j' : Int) - 1 := IntWalk.i64_in _ (by omega)
            have Hj := hid hj
            clear hj hjn hcc hcj0
            go_wp2_with (at_builtin; refine wp_append rfl _ _ rfl wr.heap.size wq.heap.size _ (rvTo xs q) y HOq.out rfl rfl hzq (by omega) ?_; intro v9 w9 hown1 hchg1 hsz1; have HO9 := hid hown1; have HB9 := hid (HBq.out.trans (hchg1.below (Nat.le_refl _) hzq)); clear hown1 hchg1)
            go_roundw
            case rel => exact ⟨q + 1, _, _, by omega, rfl, rfl, by have := Hj.out; omega, by rw [← HPt2.out]; exact HO9.out, HB9.out⟩
            case measure => first | (simp [intOf]; done) | (simp [intOf]; omega)
          · obtain rfl : q = m := by omega
            have hjneg : ¬ (0 : Int) ≤ j := by omega
            have HOm := HOq.out
            rw [HRa.out] at HOm
            have HOm2 := hid HOm
            obtain ⟨zo2, zc2, hzz⟩ := own_val HOm
            clear HOm
            have s1 := (HBq.out.cell (p := ⟨w1.heap.size, 1, none⟩) hgr).trans HMX.out.c1
            have s0 := (HBq.out.cell (p := ⟨w1.heap.size, 0, none⟩) hgr).trans HMX.out.c0
            have s2 := (HBq.out.frozen (p := ⟨w1.heap.size, 1, none⟩) hgr).trans HMX.out.fz
            clear HOl HRv HI HOq HRa
            generalize xs.reverse.length = m2 at *
            subst hzz
            go_wp2_with (at_builtin; go_loud (refine wk.wp_appR rfl _ _ rfl w1.heap.size _ (.slice zo2 m2 zc2) vals L xs.reverse HMX.out.sr.sr HBq.out HOm2.out rfl rfl rfl hzr (by rw [← HLl.out]; exact hLl) ?_; intro v9 w9 hsr9 hbl9 hg9 h59; have HS9 := HMX.out.sr.app hgr HBq.out HOm2.out ((Below.refl _ _).alloc (Nat.le_refl _) _) hzr (by have h := hsr9.row; simpa using h) hg9 h59; obtain ⟨a9', c9', hv9'⟩ := HS9.sr.val; have hz2 : (wq.alloc (.cells #[.slice zo2 m2 zc2] 33)).heap.size = wq.heap.size + 1 := (by simp); have hb9 : w9.heap[w1.heap.size]? = wq.heap[w1.heap.size]? := (hg9.block w1.heap.size (by rw [hz2]; omega) (fun e => HMX.out.ap w1.heap.size (by first | exact e | exact e.symm) rfl)).trans (Below.heap_alloc wq _ w1.heap.size (by omega)); have t1 := (World.cell?_of_block (a := ⟨w1.heap.size, 1, none⟩) hb9).trans s1; have t2 := (World.frozen?_of_block (a := ⟨w1.heap.size, 1, none⟩) hb9).trans s2; have t0 := (World.cell?_of_block (a := ⟨w1.heap.size, 0, none⟩) hb9).trans s0; have hz9 : w1.heap.size < w9.heap.size := (by have := hg9.size; rw [hz2] at this; omega); have HB9 : Hid (Below w1.heap.size w1 w9) := hid (((HMX.out.bl.trans (HBq.out.mono hzr)).alloc (by omega) _).grown hg9 (by rw [hz2]; omega) (fun j e => by have := (HMX.out.sr.row.lt j e).1; omega)); have hap : ∀ b, v9.ownBlock = some b → b ≠ w1.heap.size := (fun b hb e => by
                 rcases h59 with h | h
                 · rw [h] at hb; exact HMX.out.ap b hb e
                 · rw [h] at hb; rw [hz2] at hb; simp only [Option.some.injEq] at hb; omega); have HM9 : Hid (MX w1 (w9.setCell ⟨w1.heap.size, 1, none⟩ v9) c w1.heap.size v9 (vals ++ [.slice zo2 m2 zc2]) (L ++ [xs.reverse])) := hid ⟨HMX.out.g0, by simpa using hz9, by rw [ss.other_at (by omega)]; exact t0, ss.same_at t1, by rw [World.frozen?_setCell]; exact t2, HS9.set hap _ _, hap, HB9.out.setCell HMX.out.g0 _⟩; obtain ⟨q9, hq9⟩ : ∃ q, q = (L ++ [xs.reverse]).length := ⟨_, rfl⟩; rw [← hq9] at hv9'; clear hq9 hb9 t0 hap HS9 hsr9 hbl9 hg9 h59; subst hv9'))
            go_roundw
            case rel => exact ⟨k + 1, _, _, _, by omega, by go_num, HM9.out, by rw [HL.out]; exact HT2.out⟩
            case measure => simp [intOf]; omega
      · obtain rfl : k = n := by omega
        have HEq : Hid (L = R) := hid (by rw [HL.out, HR2.out, HN.out, List.take_of_length_le (by simp)])
        obtain ⟨a9, c9, hv9⟩ := HMX.out.sr.sr.val
        have HOw := hid (HMX.out.sr.sr.rown)
        rw [HEq.out] at HOw hv9
        have m0 := HMX.out.c0
        have m1 := HMX.out.c1
        obtain ⟨r9, hr9⟩ : ∃ r, r = R.length := ⟨_, rfl⟩
        rw [← hr9] at hv9
        have HR9 := hid hr9
        clear hr9 HX c0'
        subst hv9
        go_wp2
        refine bodyPost_ret (v := .tuple #[.agg #[.int .i64 c, .slice a9 r9 c9], .int .i64 0]) (by simp [results, Try.results32, go_sem, d0, d1]) rfl ⟨a9, c9, by rw [HC2.out, HK2.out, HR9.out], ?_, ?_⟩
        · rw [← HR9.out]
          have h2 := nb.rown_other (nb.rown_other HOw.out (w.heap.size + 1) 0 (.int .i64 c) (by omega)) (w.heap.size + 1) 1 (.slice a9 r9 c9) (by omega)
          have h3 := h2.lo (lo' := w.heap.size) (by omega)
          simpa using h3
        · exact (HBw.out.setCell (by simp) _).setCell (by simp) _
end Go.Proofs.Ytnmnikpgjglonaa.cu
