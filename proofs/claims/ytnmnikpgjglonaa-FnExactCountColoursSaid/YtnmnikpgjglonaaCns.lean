/-
  CountColours of the model.
-/
import Derived.Test.YtnmnikpgjglonaaVc1
import Derived.Test.YtnmnikpgjglonaaCnp
namespace Go.Proofs.Ytnmnikpgjglonaa.cu
open Go.RowKit Go.Proofs.Ytnmnikpgjglonaa.sl Go.Proofs.Ytnmnikpgjglonaa.br Go.Proofs.Ytnmnikpgjglonaa.ss Go.Proofs.Ytnmnikpgjglonaa.nb
set_option linter.unusedVariables false
set_option linter.unusedSimpArgs false
set_option maxRecDepth 100000

set_option maxHeartbeats 4000000 in
theorem specCC (c : Int) (rows : List (List Int)) (f : Value) (B : Nat) (w : World) (ha : RowsN w B f rows) (hB : B ≤ w.heap.size) (hq : nb.Small rows) :
    Calls Try.prog 19 #[.agg #[.int .i64 c, f]] w fun e w' => ∃ v', e = .returned v' ∧ sl.Own w' w.heap.size w'.heap.size v' (cclW c rows) ∧ Below w.heap.size w w' := by
  obtain ⟨i0, hi, hz0, hz1, hz2⟩ := info_parts info64
  have hal := (Below.refl w.heap.size w).alloc (Nat.le_refl _) (.cells #[.int .i64 c, f] 27)
  have HV := hid (specOk19 c rows f B w.heap.size (w.alloc (.cells #[.int .i64 c, f] 27)) (World.cell?_alloc_at _ _ _ _ rfl) (World.cell?_alloc_at _ _ _ _ rfl) (ha.rows.below hal) hq)
  have HAl := hid hal
  have HX := hid (fun (W : World) (b : Below (w.alloc (.cells #[.int .i64 c, f] 27)).heap.size (w.alloc (.cells #[.int .i64 c, f] 27)) W) => (show W.cell? ⟨w.heap.size, 0, none⟩ = some (.int .i64 c) ∧ W.cell? ⟨w.heap.size, 1, none⟩ = some f from
    ⟨(b.cell (p := ⟨w.heap.size, 0, none⟩) (by simp)).trans (World.cell?_alloc_at _ _ _ _ rfl), (b.cell (p := ⟨w.heap.size, 1, none⟩) (by simp)).trans (World.cell?_alloc_at _ _ _ _ rfl)⟩))
  obtain ⟨ao, cap, hv⟩ := rows_val ha.rows
  cases hok : colB c rows with
  | false =>
    rw [cclW_no hok]
    rw [hok] at HV
    clear ha hok hal HX hq
    generalize rows.length = n at *
    subst hv
    go_enter Try.func19, Try.ntmps19
    go_wp2_with fail
    refine HV.out.mono ?_
    rintro e w1 ⟨rfl, b1⟩
    have HB1 := hid (HAl.out.trans (b1.mono HAl.out.size))
    clear b1
    go_wp2
    go_ret
    exact ⟨_, rfl, sl.Own.nil _ _, HB1.out⟩
  | true =>
    rw [cclW_yes hok]
    rw [hok] at HV
    have hk := col_k hok
    have hfl := flat_len hk
    have HCar := hid (fun k h => flat_car hk k h)
    have hn1 := hk.n1
    have hn8 := hk.n8
    rcases ha.rows with ⟨h0, _⟩ | ⟨hp, b, off, cap', V, hv', hb, hc⟩
    · rw [h0] at hn1; simp at hn1
    have HSuc := hid (fun k h => ccT_succ rows.flatten k h)
    have HFact := hid (fun k h => ccT_fact rows.flatten k h)
    have HZ := hid (ccT_zero rows.flatten)
    have HFa := hid (flat_at rows)
    have HFl := hid (flat_lt rows)
    have HTs := hid (br.tot_succ rows)
    have HAll := hid (flat_all rows)
    have HShort := hid (show ∀ j, j < rows.length → (rows.getD j []).length ≤ 1099511627776 from hq.short)
    have HCc := hid hc
    obtain ⟨n, hnn⟩ : ∃ n, n = rows.length := ⟨_, rfl⟩
    rw [← hnn] at hv' hn1 hn8 HFa HFl HTs HAll HShort HCc
    have HN := hid hnn
    clear hnn hv hc hk hok hp hal hq ha
    generalize rows.flatten = ys at *
    subst hv'
    obtain ⟨m, hm⟩ : ∃ m, m = ys.length := ⟨_, rfl⟩
    rw [← hm] at hfl HCar HSuc HFact HFl HAll ⊢
    have HM := hid hm
    clear hm
    go_enter Try.func19, Try.ntmps19
    go_wp2_with fail
    refine HV.out.mono ?_
    rintro e w1 ⟨rfl, b1⟩
    have HB1 := hid (HAl.out.trans (b1.mono HAl.out.size))
    have hs1 := HB1.out.size
    have hs0 : w.heap.size < w1.heap.size := by have := b1.size; simp at this; omega
    have HBx := hid b1
    clear b1 HV
    go_wp2_with (at_make; refine wpList_make_full _ rfl _ _ 33 rfl w1.heap.size 2 i0 (.int .i64 0) 1 Try.underlying33 hi hz0 hz1 .i64 .i64 _ _ 4 rfl rfl (by rfl) (by rfl) (by rw [hz2]; omega) (by unfold maxLen; omega) (Nat.le_refl _) ?_; intro w2 hown1 hgrow1; have HO2 := hid (fn.made_own hown1); have hb12 : Below w1.heap.size w1 w2 := (Below.refl w1.heap.size w1).grown hgrow1 (Nat.le_refl _) (fun k hk => by cases hk); have HB12 := hid hb12; have hc1 := (HX.out w2 (HBx.out.trans (hb12.mono HBx.out.size))).2; clear hown1 hgrow1 hb12)
    have HB2 := hid (HB1.out.trans (HB12.out.mono hs1))
    clear hc1
    go_loopw [4] (fun i wr => ∃ k : Nat, k ≤ n ∧ i = .int .i64 k ∧ Own wr w1.heap.size wr.heap.size (.slice (some ⟨w1.heap.size, 0, none⟩) 4 4) (ccT ys (br.tot rows k)) ∧ Below w1.heap.size w1 wr) (fun i _ => n - (intOf i).toNat)
    case atStart => exact ⟨0, Nat.zero_le _, rfl, by rw [show br.tot rows 0 = 0 from rfl, HZ.out]; exact HO2.out, HB12.out⟩
    case round =>
      obtain ⟨k, hk, rfl, hown, hbel⟩ := hrel
      have HO := hid hown
      have HB := hid hbel
      clear hown hbel HO2
      have k1 := (HX.out wr (HBx.out.trans (HB.out.mono HBx.out.size))).2
      by_cases hlt : k < n
      · obtain ⟨hcv, hci⟩ := HCc.out k hlt
        have HBw := hid (HB1.out.trans (HB.out.mono hs1))
        have hcv2 := (HBw.out.cell (p := ⟨b, off + k, none⟩) (World.block_lt_of_cell? w _ hcv)).trans hcv
        have hblt := World.block_lt_of_cell? w _ hcv
        obtain ⟨ra, rc, hrv⟩ := ints_val hci
        have HCi := hid hci
        have hsk := HShort.out k hlt
        have HFa2 := hid (HFa.out k)
        have HFl2 := hid (HFl.out k)
        have HTs2 := hid (HTs.out k hlt)
        obtain ⟨t, ht⟩ : ∃ t, t = br.tot rows k := ⟨_, rfl⟩
        rw [← ht] at HO HFa2 HFl2 HTs2
        obtain ⟨V1, hV1⟩ : ∃ V1, V1 = V k := ⟨_, rfl⟩
        rw [← hV1] at hcv hcv2 hrv HCi
        obtain ⟨l, hl⟩ : ∃ l, l = (rows.getD k []).length := ⟨_, rfl⟩
        rw [← hl] at hsk hrv HFl2 HTs2
        have HL := hid hl
        have H9 := hid (show ∀ q, q < l → ys.getD (t + q) 0 = (rows.getD k []).getD q 0 from fun q hq => HFa2.out q hlt (by rw [← hl]; exact hq))
        have HCv := hid hcv
        clear hci ht hV1 hl hcv HFa2
        subst hrv
        go_wp2
        go_loopw [5] (fun i wq => ∃ q : Nat, q ≤ l ∧ i = .int .i64 q ∧ Own wq w1.heap.size wq.heap.size (.slice (some ⟨w1.heap.size, 0, none⟩) 4 4) (ccT ys (t + q)) ∧ Below w1.heap.size w1 wq) (fun i _ => l - (intOf i).toNat)
        case atStart => exact ⟨0, Nat.zero_le _, rfl, HO.out, HB.out⟩
        case round =>
          rename World => wq
          obtain ⟨q, hq, rfl, hoq, hbq⟩ := hrel
          have HOq := hid hoq
          have HBq := hid hbq
          clear hoq hbq k1 hcv2 HO HBw
          have HBw := hid (HB1.out.trans (HBq.out.mono hs1))
          have k1 := (HX.out wq (HBx.out.trans (HBq.out.mono HBx.out.size))).2
          have hcv2 := (HBw.out.cell (p := ⟨b, off + k, none⟩) hblt).trans HCv.out
          by_cases hql : q < l
          · rcases HCi.out with ⟨h0, _⟩ | ⟨_, g, og, cg, hvg, hg, hcg⟩
            · have := HL.out; rw [h0] at this; simp at this; omega
            simp only [Value.slice.injEq] at hvg
            obtain ⟨rfl, h9, rfl⟩ := hvg
            clear h9
            have hcq := hcg q (by rw [← HL.out]; exact hql)
            have hx := (HBw.out.cell (p := ⟨g, og + q, none⟩) (World.block_lt_of_cell? w _ hcq)).trans hcq
            have hlt2 := HFl2.out q hlt hql
            have hst := HSuc.out (t + q) hlt2
            obtain ⟨hl4, hbd⟩ := HFact.out (t + q) (by omega)
            obtain ⟨hx1, hx4⟩ := HCar.out (t + q) hlt2
            rw [H9.out q hql] at hst hx1 hx4
            obtain ⟨x, hxx⟩ : ∃ x, x = (rows.getD k []).getD q 0 := ⟨_, rfl⟩
            rw [← hxx] at hx1 hx4 hst hx
            obtain ⟨qq, rfl⟩ : ∃ q : Nat, x = (q : Int) + 1 := ⟨(x - 1).toNat, by omega⟩
            have e1 : ((qq : Int) + 1 - 1).toNat = qq := by omega
            rw [bump, e1] at hst
            have hq4 : qq < (ccT ys (t + q)).length := by omega
            have hcell := (HOq.out.at' qq hq4).1
            have hfr := (HOq.out.at' qq hq4).2
            have hbq := hbd qq
            have HS := hid (HOq.out.set qq ((ccT ys (t + q)).getD qq 0 + 1)).1
            rw [← hst] at HS
            have hgl := HOq.out.1.lt w1.heap.size rfl
            have hsub : IntKind.i64.wrap ((qq : Int) + 1 - 1) = (qq : Int) := by rw [IntWalk.i64_in _ (by omega)]; omega
            have hsub2 : ((qq : Int) + 1 - 1) = (qq : Int) := by omega
            have hq4' : qq < 4 := by omega
            clear hxx hst hl4 hbd e1 hq4 hg hcg hcq
            generalize (ccT ys (t + q)).getD qq 0 = z at *
            go_wp2
            go_roundw
            case rel => exact ⟨q + 1, by omega, by go_num, by rw [← Nat.add_assoc]; simpa using HS.out, HBq.out.setCell (by simp) _⟩
            case measure => simp [intOf]; omega
          · obtain rfl : q = l := by omega
            go_wp2
            go_roundw
            case rel => exact ⟨k + 1, by omega, by go_num, by rw [HTs2.out]; exact HOq.out, HBq.out⟩
            case measure => simp [intOf]; omega
      · obtain rfl : k = n := by omega
        have HO3 := HO.out
        rw [HAll.out] at HO3
        have HO4 := hid HO3
        clear HO3
        go_wp2
        go_ret
        exact ⟨_, rfl, HO4.out.lo (lo' := w.heap.size) hs1, HB1.out.trans (HB.out.mono hs1)⟩
end Go.Proofs.Ytnmnikpgjglonaa.cu
