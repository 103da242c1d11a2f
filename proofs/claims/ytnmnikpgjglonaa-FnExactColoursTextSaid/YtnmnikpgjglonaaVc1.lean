/-
  ValidColours of the model.
-/
import Derived.Test.YtnmnikpgjglonaaCnt
namespace Go.Proofs.Ytnmnikpgjglonaa.cu
open Go.RowKit Go.Proofs.Ytnmnikpgjglonaa.sl Go.Proofs.Ytnmnikpgjglonaa.br Go.Proofs.Ytnmnikpgjglonaa.ss Go.Proofs.Ytnmnikpgjglonaa.nb
set_option linter.unusedVariables false
set_option linter.unusedSimpArgs false
set_option maxRecDepth 100000

theorem col_bad1 {c : Int} {rows : List (List Int)} (h : decide (1 ≤ c ∧ c ≤ 8) = false) : colB c rows = false := by rw [colB, h]; rfl
theorem col_bad2 {c : Int} {rows : List (List Int)} (h : decide (1 ≤ (rows.length : Int) ∧ (rows.length : Int) ≤ 8) = false) : colB c rows = false := by rw [colB, h]; simp
theorem col_bad3 {c : Int} {rows : List (List Int)} (k : Nat) (hk : k < rows.length) (h : rowB c (rows.getD k []) = false) : colB c rows = false := by
  have : rows.all (rowB c) = false := by
    rw [List.all_eq_false]
    refine ⟨rows.getD k [], ?_, by rw [h]; simp⟩
    rw [show rows.getD k [] = rows[k] from by simp [List.getD, List.getElem?_eq_getElem hk]]
    exact List.getElem_mem hk
  rw [colB, this]; simp
theorem col_good {c : Int} {rows : List (List Int)} (h1 : decide (1 ≤ c ∧ c ≤ 8) = true) (h2 : decide (1 ≤ (rows.length : Int) ∧ (rows.length : Int) ≤ 8) = true) (h : ∀ k, k < rows.length → rowB c (rows.getD k []) = true) : colB c rows = true := by
  rw [colB, h1, h2]
  simp only [Bool.true_and, List.all_eq_true]
  intro r hr
  obtain ⟨j, hj, rfl⟩ := List.getElem_of_mem hr
  have := h j hj
  rwa [show rows.getD j [] = rows[j] from by simp [List.getD, List.getElem?_eq_getElem hj]] at this
theorem row_bad1 {c : Int} {r : List Int} (h : ¬ (r.length : Int) = c) : rowB c r = false := by simp [rowB, h]
theorem row_bad2 {c : Int} {r : List Int} (k : Nat) (hk : k < r.length) (h : vo.carB (r.getD k 0) = false) : rowB c r = false := by
  have : r.all vo.carB = false := by
    rw [List.all_eq_false]
    refine ⟨r.getD k 0, ?_, by rw [h]; simp⟩
    rw [show r.getD k 0 = r[k] from by simp [List.getD, List.getElem?_eq_getElem hk]]
    exact List.getElem_mem hk
  rw [rowB, this]; simp
theorem row_good {c : Int} {r : List Int} (h1 : (r.length : Int) = c) (h : ∀ k, k < r.length → vo.carB (r.getD k 0) = true) : rowB c r = true := by
  rw [rowB, decide_eq_true h1, Bool.true_and, List.all_eq_true]
  intro x hx
  obtain ⟨j, hj, rfl⟩ := List.getElem_of_mem hx
  have := h j hj
  rwa [show r.getD j 0 = r[j] from by simp [List.getD, List.getElem?_eq_getElem hj]] at this

set_option maxHeartbeats 4000000 in
theorem specOk19 (c : Int) (rows : List (List Int)) (f : Value) (B p : Nat) (w : World) (h0 : w.cell? ⟨p, 0, none⟩ = some (.int .i64 c)) (h1 : w.cell? ⟨p, 1, none⟩ = some f) (ha : ss.Rows w B f rows) (hq : nb.Small rows) :
    Calls Try.prog 36 #[.pointer (some ⟨p, 0, none⟩)] w fun e w' => e = .returned (.bool (colB c rows)) ∧ Below w.heap.size w w' := by
  have HI1 := hid (fun w1 => show Calls Try.prog 61 #[.int .i64 c, .int .i64 1, .int .i64 8] w1 fun e w2 => e = .returned (.bool (decide (1 ≤ c ∧ c ≤ 8))) ∧ w1 = w2 from pm.specIn c 1 8 w1)
  have HI2 := hid (fun w1 => show Calls Try.prog 61 #[.int .i64 (rows.length : Int), .int .i64 1, .int .i64 8] w1 fun e w2 => e = .returned (.bool (decide (1 ≤ (rows.length : Int) ∧ (rows.length : Int) ≤ 8))) ∧ w1 = w2 from pm.specIn rows.length 1 8 w1)
  have HBad1 := hid (@col_bad1 c rows)
  have HBad2 := hid (@col_bad2 c rows)
  have HBad3 := hid (@col_bad3 c rows)
  have HGood := hid (@col_good c rows)
  obtain ⟨r, hr⟩ : ∃ r, r = colB c rows := ⟨_, rfl⟩
  rw [← hr] at HBad1 HBad2 HBad3 HGood ⊢
  clear hr
  obtain ⟨ao, cap, hv⟩ := rows_val ha
  obtain ⟨x, hx⟩ : ∃ x, x = decide (1 ≤ c ∧ c ≤ 8) := ⟨_, rfl⟩
  rw [← hx] at HI1 HBad1 HGood
  clear hx
  obtain ⟨y, hy⟩ : ∃ y, y = decide (1 ≤ (rows.length : Int) ∧ (rows.length : Int) ≤ 8) := ⟨_, rfl⟩
  rw [← hy] at HI2 HBad2 HGood
  clear hy
  have HA := hid ha
  have HS := hid hq.short
  have hln := hq.len
  clear ha hq
  obtain ⟨n, hnn⟩ : ∃ n, n = rows.length := ⟨_, rfl⟩
  rw [← hnn] at hv HI2 HBad3 HGood hln
  have HN := hid hnn
  clear hnn
  subst hv
  cases x with
  | false =>
    have HQ := hid (HBad1.out rfl)
    go_enter Try.func36, Try.ntmps36
    go_wp2_with fail
    refine (HI1.out _).mono ?_
    rintro e w1 ⟨rfl, rfl⟩
    go_wp2
    go_ret
    exact ⟨by rw [HQ.out]; first | done | rfl, Below.refl _ _⟩
  | true =>
    cases y with
    | false =>
      have HQ := hid (HBad2.out rfl)
      go_enter Try.func36, Try.ntmps36
      go_wp2_with fail
      refine (HI1.out _).mono ?_
      rintro e w1 ⟨rfl, rfl⟩
      go_wp2_with fail
      refine (HI2.out _).mono ?_
      rintro e w1 ⟨rfl, rfl⟩
      go_wp2
      go_ret
      exact ⟨by rw [HQ.out]; first | done | rfl, Below.refl _ _⟩
    | true =>
      have HGd := hid (HGood.out rfl rfl)
      clear HGood HBad1 HBad2
      have H0 := hid h0
      have H1 := hid h1
      go_enter Try.func36, Try.ntmps36
      go_wp2_with fail
      refine (HI1.out _).mono ?_
      rintro e w1 ⟨rfl, rfl⟩
      go_wp2_with fail
      refine (HI2.out _).mono ?_
      rintro e w1 ⟨rfl, rfl⟩
      clear h0 h1
      have h1 := H1.out
      go_wp2
      clear h1
      go_loopw [3] (fun i wr => ∃ k : Nat, k ≤ n ∧ i = .int .i64 k ∧ (∀ j, j < k → rowB c (rows.getD j []) = true) ∧ Below w.heap.size w wr) (fun i _ => n - (intOf i).toNat)
      case atStart => exact ⟨0, Nat.zero_le _, rfl, fun j hj => by omega, Below.refl _ _⟩
      case round =>
        obtain ⟨k, hk, rfl, hg, hbel⟩ := hrel
        have HG := hid hg
        have HB := hid hbel
        clear hg hbel
        have hplt := World.block_lt_of_cell? w _ H0.out
        have k0 := (HB.out.cell (p := ⟨p, 0, none⟩) hplt).trans H0.out
        have k1 := (HB.out.cell (p := ⟨p, 1, none⟩) hplt).trans H1.out
        by_cases hlt : k < n
        · rcases HA.out with ⟨h0, _⟩ | ⟨hp, b, off, cp, V, hv, hb, hc⟩
          · have := HN.out; rw [h0] at this; simp at this; omega
          simp only [Value.slice.injEq] at hv
          obtain ⟨rfl, h9, rfl⟩ := hv
          clear h9
          obtain ⟨hcv, hci⟩ := hc k (by rw [← HN.out]; exact hlt)
          have hcv2 := (HB.out.cell (p := ⟨b, off + k, none⟩) (World.block_lt_of_cell? w _ hcv)).trans hcv
          have hcv0 := hcv
          have hblt := World.block_lt_of_cell? w _ hcv
          have HBd := hid (HBad3.out k hlt)
          have HRow1 := hid (@row_bad1 c (rows.getD k []))
          have HRow2 := hid (@row_bad2 c (rows.getD k []))
          have HRowG := hid (@row_good c (rows.getD k []))
          have hsk := HS.out k (by rw [← HN.out]; exact hlt)
          obtain ⟨rw_, hrw_⟩ : ∃ q, q = rowB c (rows.getD k []) := ⟨_, rfl⟩
          rw [← hrw_] at HBd HRow1 HRow2 HRowG
          have HRw := hid hrw_
          obtain ⟨ra, rc, hrv⟩ := ints_val hci
          have HCi := hid hci
          obtain ⟨V1, hV1⟩ : ∃ V1, V1 = V k := ⟨_, rfl⟩
          rw [← hV1] at hcv2 hrv HCi hcv0
          obtain ⟨m, hm⟩ : ∃ m, m = (rows.getD k []).length := ⟨_, rfl⟩
          rw [← hm] at hsk hrv HRow1 HRow2 HRowG
          have HM := hid hm
          clear hp hb hc hcv hci hrw_ hV1 hm
          subst hrv
          have hk00 : (0 : Int) ≤ (k : Int) := by omega
          have hk0n : (k : Int) < (n : Int) := by omega
          by_cases hmc : (m : Int) = c
          · have HRG := hid (HRowG.out hmc)
            subst hmc
            go_wp2
            go_quiet (fail)
            go_wp2
            go_loopw [4] (fun i wq => ∃ q : Nat, q ≤ m ∧ i = .int .i64 q ∧ (∀ j, j < q → vo.carB ((rows.getD k []).getD j 0) = true) ∧ Below w.heap.size w wq) (fun i _ => m - (intOf i).toNat)
            case atStart => exact ⟨0, Nat.zero_le _, rfl, fun j hj => by omega, bdrewN HB.out _⟩
            case round =>
              rename World => wq
              obtain ⟨q, hq, rfl, hgq, hbq⟩ := hrel
              have HGq := hid hgq
              have HBq := hid hbq
              clear hgq hbq k0 k1 hcv2
              have k0 := (HBq.out.cell (p := ⟨p, 0, none⟩) hplt).trans H0.out
              have k1 := (HBq.out.cell (p := ⟨p, 1, none⟩) hplt).trans H1.out
              have hcv3 := (HBq.out.cell (p := ⟨b, off + k, none⟩) hblt).trans hcv0
              by_cases hql : q < m
              · rcases HCi.out with ⟨h0, _⟩ | ⟨_, g, og, cg, hvg, hg, hcg⟩
                · have := HM.out; rw [h0] at this; simp at this; omega
                simp only [Value.slice.injEq] at hvg
                obtain ⟨rfl, h9, rfl⟩ := hvg
                clear h9
                have hx := (HBq.out.cell (p := ⟨g, og + q, none⟩) (World.block_lt_of_cell? w _ (hcg q (by rw [← HM.out]; exact hql)))).trans (hcg q (by rw [← HM.out]; exact hql))
                have HR2 := hid (HRow2.out q hql)
                obtain ⟨xx, hxx⟩ : ∃ x, x = (rows.getD k []).getD q 0 := ⟨_, rfl⟩
                rw [← hxx] at hx HR2
                obtain ⟨cb, hcb⟩ : ∃ b, b = vo.carB xx := ⟨_, rfl⟩
                rw [← hcb] at HR2
                have HY := hid (fun W => show Calls Try.prog 62 #[.int .i64 xx] W fun e w2 => e = .returned (.bool cb) ∧ W = w2 from by rw [hcb]; exact vo.specYarn xx W)
                have HCb : Hid (vo.carB ((rows.getD k []).getD q 0) = cb) := hid (by rw [← hxx, hcb])
                clear hg hcg hxx hcb
                cases cb with
                | false =>
                  have HQ := hid (HBd.out (HR2.out rfl))
                  go_wp2_with fail
                  refine (HY.out _).mono ?_
                  rintro e w2 ⟨rfl, rfl⟩
                  go_wp2
                  go_ret
                  exact ⟨by rw [HQ.out]; first | done | rfl, HBq.out⟩
                | true =>
                  go_wp2_with fail
                  refine (HY.out _).mono ?_
                  rintro e w2 ⟨rfl, rfl⟩
                  go_wp2
                  go_roundw
                  case rel => exact ⟨q + 1, by omega, by go_num, fun j hj => by
                    rcases Nat.lt_or_ge j q with h | h
                    · exact HGq.out j h
                    · obtain rfl : j = q := by omega
                      exact HCb.out, HBq.out⟩
                  case measure => simp [intOf]; omega
              · obtain rfl : q = m := by omega
                have HTr := hid (HRG.out HGq.out)
                go_wp2
                go_roundw
                case rel => exact ⟨k + 1, by omega, by go_num, fun j hj => by
                  rcases Nat.lt_or_ge j k with h | h
                  · exact HG.out j h
                  · obtain rfl : j = k := by omega
                    rw [← HRw.out]; exact HTr.out, HBq.out⟩
                case measure => simp [intOf]; omega
          · have HQ := hid (HBd.out (HRow1.out hmc))
            have hne : ((m : Int) != c) = true := by simpa using hmc
            have hne2 : ((m : Int) == c) = false := by simpa using hmc
            clear hmc
            go_wp2
            go_quiet (fail)
            go_wp2
            go_ret
            exact ⟨by rw [HQ.out]; first | done | rfl, bdrewN HB.out _⟩
        · obtain rfl : k = n := by omega
          have HQ := hid (HGd.out HG.out)
          go_wp2
          go_ret
          exact ⟨by rw [HQ.out]; first | done | rfl, HB.out⟩

theorem specVC (c : Int) (xs : List (List Int)) (f : Value) (B : Nat) (w : World) (ha : ss.Rows w B f xs) (hB : B ≤ w.heap.size) (hq : nb.Small xs) :
    Calls Try.prog 11 #[.agg #[.int .i64 c, f]] w fun e w' => e = .returned (.bool (colB c xs)) ∧ Below w.heap.size w w' := by
  have hb0 := (Below.refl w.heap.size w).alloc (Nat.le_refl _) (.cells #[.int .i64 c, f] 27)
  have HS := hid (specOk19 c xs f B w.heap.size (w.alloc (.cells #[.int .i64 c, f] 27)) (World.cell?_alloc_at _ _ _ _ rfl) (World.cell?_alloc_at _ _ _ _ rfl) (ha.below hb0) hq)
  have HB0 := hid hb0
  obtain ⟨ao, cap, hv⟩ := rows_val ha
  clear ha hb0 hq
  generalize xs.length = n at *
  subst hv
  generalize colB c xs = b at *
  go_enter Try.func11, Try.ntmps11
  go_wp2_with fail
  refine HS.out.mono ?_
  rintro e w1 ⟨rfl, b1⟩
  have B1 := hid (HB0.out.trans (b1.mono HB0.out.size))
  clear b1
  go_wp2
  go_ret
  exact ⟨rfl, B1.out⟩
end Go.Proofs.Ytnmnikpgjglonaa.cu
