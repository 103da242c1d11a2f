/-
  CountColours of the program.
-/
import Derived.Test.YtnmnikpgjglonaaCnt
namespace Go.Proofs.Ytnmnikpgjglonaa.cu
open Go.RowKit Go.Proofs.Ytnmnikpgjglonaa.sl Go.Proofs.Ytnmnikpgjglonaa.br Go.Proofs.Ytnmnikpgjglonaa.ss Go.Proofs.Ytnmnikpgjglonaa.nb
set_option linter.unusedVariables false
set_option linter.unusedSimpArgs false
set_option maxRecDepth 100000

theorem cclW_no {c : Int} {rows : List (List Int)} (h : colB c rows = false) : cclW c rows = [] := by rw [cclW, h]; rfl
theorem cclW_yes {c : Int} {rows : List (List Int)} (h : colB c rows = true) : cclW c rows = ccT rows.flatten rows.flatten.length := by rw [cclW, h]; rfl
theorem RowsN.wds {w : World} {B b off cap : Nat} {rows : List (List Int)} (h : RowsN w B (.slice (some ⟨b, off, none⟩) rows.length cap) rows) (hp : 0 < rows.length) : WdsO w B b off rows := by
  rcases h with ⟨h0, _⟩ | ⟨_, b', off', cap', V, hv, hb, hc⟩
  · rw [h0] at hp; simp at hp
  · simp only [Value.slice.injEq, Option.some.injEq, Addr.mk.injEq] at hv
    obtain ⟨⟨rfl, rfl, _⟩, _, rfl⟩ := hv
    intro j hj
    obtain ⟨h1, h2, h3⟩ := hc j hj
    obtain ⟨ao, cp, hv⟩ := ints_val h2
    rw [hv] at h1 h2 h3
    exact ⟨ao, cp, h1, h2, h3⟩

set_option maxHeartbeats 4000000 in
theorem implCC (c : Int) (rows : List (List Int)) (f : Value) (B : Nat) (w : World) (ha : RowsN w B f rows) (hB : B ≤ w.heap.size) (hq : nb.Small rows) :
    Calls Try.prog 20 #[.agg #[.int .i64 c, f]] w fun e w' => ∃ v', e = .returned v' ∧ sl.Own w' w.heap.size w'.heap.size v' (cclW c rows) ∧ Below w.heap.size w w' := by
  obtain ⟨i0, hi, hz0, hz1, hz2⟩ := info_parts info64
  have hal := (Below.refl w.heap.size w).alloc (Nat.le_refl _) (.cells #[.int .i64 c, f] 27)
  have HV := hid (implVC c rows f B _ (ha.rows.below hal) (by simp; omega) hq)
  have HAl := hid hal
  have HX := hid (fun (W : World) (b : Below (w.alloc (.cells #[.int .i64 c, f] 27)).heap.size (w.alloc (.cells #[.int .i64 c, f] 27)) W) => (show W.cell? ⟨w.heap.size, 0, none⟩ = some (.int .i64 c) ∧ W.cell? ⟨w.heap.size, 1, none⟩ = some f from
    ⟨(b.cell (p := ⟨w.heap.size, 0, none⟩) (by simp)).trans (World.cell?_alloc_at _ _ _ _ rfl), (b.cell (p := ⟨w.heap.size, 1, none⟩) (by simp)).trans (World.cell?_alloc_at _ _ _ _ rfl)⟩))
  obtain ⟨ao, cap, hv⟩ := rows_val ha.rows
  cases hok : colB c rows with
  | false =>
    rw [cclW_no hok]
    rw [hok] at HV
    clear ha hok hal HX hq
    generalize rows.length = n at *
    subst hv
    go_enter Try.func20, Try.ntmps20
    go_wp2_with fail
    refine HV.out.mono ?_
    rintro e w1 ⟨rfl, b1⟩
    have HB1 := hid (HAl.out.trans (b1.mono HAl.out.size))
    clear b1
    go_wp2
    go_ret
    exact ⟨_, rfl, sl.Own.nil _ _, HB1.out⟩
  | true =>
    rw [cclW_yes hok]
    rw [hok] at HV
    have hk := col_k hok
    have hfl := flat_len hk
    have HCar := hid (fun k h => flat_car hk k h)
    have hn1 := hk.n1
    have hn8 := hk.n8
    rcases ha with ⟨h0, _⟩ | ⟨hp, b, off, cap', V, hv', hb, hc⟩
    · rw [h0] at hn1; simp at hn1
    have HWd : Hid (∀ W, Below w.heap.size w W → WdsO W B b off rows) := hid fun W bw => by
      have h1 : RowsN w B (.slice (some ⟨b, off, none⟩) rows.length cap') rows := .inr ⟨hp, b, off, cap', V, rfl, hb, hc⟩
      exact (h1.chg (Chg.ofBelow (lo := 0) bw) (.inr (Nat.zero_le _))).wds hp
    have HSuc := hid (fun k h => ccT_succ rows.flatten k h)
    have HFact := hid (fun k h => ccT_fact rows.flatten k h)
    have HZ := hid (ccT_zero rows.flatten)
    have HCon := hid (fun W (b1 : Below w.heap.size w W) => concatO rows b off cap' B W (HWd.out W b1) (Nat.le_trans hB b1.size) (by have := b1.size; omega) (by omega) (by omega))
    obtain ⟨n, hnn⟩ : ∃ n, n = rows.length := ⟨_, rfl⟩
    rw [← hnn] at hv' hn1 hn8 HCon
    clear hnn hv hc hk hok hp hal hq HWd
    generalize rows.flatten = ys at *
    subst hv'
    obtain ⟨m, hm⟩ : ∃ m, m = ys.length := ⟨_, rfl⟩
    rw [← hm] at hfl HCar HSuc HFact ⊢
    have HM := hid hm
    clear hm
    go_enter Try.func20, Try.ntmps20
    go_wp2_with fail
    refine HV.out.mono ?_
    rintro e w1 ⟨rfl, b1⟩
    have HB1 := hid (HAl.out.trans (b1.mono HAl.out.size))
    have hs1 := HB1.out.size
    have HBx := hid b1
    clear b1 HV
    go_wp2_with (at_make; go_loud (refine wpList_make_full _ rfl _ _ 33 rfl w1.heap.size 2 i0 (.int .i64 0) 1 Try.underlying33 hi hz0 hz1 .i64 .i64 _ _ 4 rfl rfl (by rfl) (by rfl) (by rw [hz2]; omega) (by unfold maxLen; omega) (Nat.le_refl _) ?_; intro w2 hown1 hgrow1; have HO2 := hid (fn.made_own hown1); have hb12 : Below w1.heap.size w1 w2 := (Below.refl w1.heap.size w1).grown hgrow1 (Nat.le_refl _) (fun k hk => by cases hk); have HB12 := hid hb12; have hc1 := (HX.out w2 (HBx.out.trans (hb12.mono HBx.out.size))).2; clear hown1 hgrow1 hb12))
    have HB2 := hid (HB1.out.trans (HB12.out.mono hs1))
    have hs2 := HB12.out.size
    have hg2 := HO2.out.1.lt w1.heap.size rfl
    refine (HCon.out w2 HB2.out).mono ?_
    rintro e w3 ⟨v3, rfl, o3, b3⟩
    have HO3 := hid o3
    obtain ⟨a3, c3, hv3⟩ := own_val o3
    rw [← HM.out] at hv3
    have HB3 := hid (HB2.out.trans (b3.mono HB2.out.size))
    have HC3 := hid (HO2.out.chg (Chg.ofBelow (lo := 0) b3) (.inr (.inr (Nat.zero_le _))))
    have hs3 := b3.size
    clear o3 b3 HO2 HB12 hc1
    subst hv3
    go_wp2
    go_loopw [14] (fun i wr => ∃ k : Nat, k ≤ m ∧ i = .int .i64 k ∧ Own wr w1.heap.size w2.heap.size (.slice (some ⟨w1.heap.size, 0, none⟩) 4 4) (ccT ys k) ∧ Own wr w2.heap.size w3.heap.size (.slice a3 m c3) ys ∧ Below w.heap.size w wr) (fun i _ => m - (intOf i).toNat)
    case atStart => exact ⟨0, Nat.zero_le _, rfl, by rw [HZ.out]; exact HC3.out, HO3.out, HB3.out⟩
    case round =>
      obtain ⟨k, hk, rfl, hown, hys, hbel⟩ := hrel
      have HO := hid hown
      have HY := hid hys
      have HB := hid hbel
      clear hown hys hbel HC3 HO3 HB3
      by_cases hlt : k < m
      · obtain ⟨hx1, hx4⟩ := HCar.out k hlt
        have hst := HSuc.out k hlt
        obtain ⟨hl4, hbd⟩ := HFact.out k hk
        obtain ⟨g, rfl⟩ : ∃ g, a3 = some ⟨g, 0, none⟩ := by
          rcases HY.out.1.2 with ⟨hv, _⟩ | ⟨g, c9, cur, hv, _⟩
          · simp at hv; omega
          · simp only [Value.slice.injEq] at hv; exact ⟨g, hv.1⟩
        have hcell0 := (HY.out.at' k (by rw [← HM.out]; exact hlt))
        have hy := hcell0.1
        obtain ⟨x, hxx⟩ : ∃ x, x = ys.getD k 0 := ⟨_, rfl⟩
        rw [← hxx] at hx1 hx4 hst hy
        obtain ⟨q, rfl⟩ : ∃ q : Nat, x = (q : Int) + 1 := ⟨(x - 1).toNat, by omega⟩
        have e1 : ((q : Int) + 1 - 1).toNat = q := by omega
        rw [bump, e1] at hst
        have hq4 : q < (ccT ys k).length := by omega
        have hcell := (HO.out.at' q hq4).1
        have hfr := (HO.out.at' q hq4).2
        have hbq := hbd q
        have HS := hid (HO.out.set q ((ccT ys k).getD q 0 + 1)).1
        rw [← hst] at HS
        have hsub : IntKind.i64.wrap ((q : Int) + 1 - 1) = (q : Int) := by rw [IntWalk.i64_in _ (by omega)]; omega
        have hsub2 : ((q : Int) + 1 - 1) = (q : Int) := by omega
        have hq4' : q < 4 := by omega
        have HY2 := hid (own_other HY.out w1.heap.size q (.int .i64 ((ccT ys k).getD q 0 + 1)) (.inl (by omega)))
        clear hxx hst hl4 hbd hcell0 e1 hq4
        generalize (ccT ys k).getD q 0 = z at *
        go_wp2
        go_roundw
        case rel => exact ⟨k + 1, by omega, by go_num, by simpa using HS.out, HY2.out, HB.out.setCell (by simp; omega) _⟩
        case measure => simp [intOf]; omega
      · obtain rfl : k = m := by omega
        go_wp2
        go_ret
        exact ⟨_, rfl, (HO.out.lo (lo' := w.heap.size) (by omega)).hi (by have := HB.out.size; have := HY.out.2.2; omega) (Nat.le_refl _), HB.out⟩
end Go.Proofs.Ytnmnikpgjglonaa.cu
