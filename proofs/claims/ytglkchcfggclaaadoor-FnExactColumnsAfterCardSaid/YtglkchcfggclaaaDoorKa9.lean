/-
  StacksOf of the model; ColumnsAfter of both sides.
-/
import Derived.Test.YtglkchcfggclaaaDoorKas
namespace Go.Proofs.YtglkchcfggclaaaDoor.kn
open Go.RowKit Go.Proofs.YtglkchcfggclaaaDoor.sl Go.Proofs.YtglkchcfggclaaaDoor.br Go.Proofs.YtglkchcfggclaaaDoor.bw Go.Proofs.YtglkchcfggclaaaDoor.st Go.Proofs.YtglkchcfggclaaaDoor.cx Go.Proofs.YtglkchcfggclaaaDoor.ro
set_option linter.unusedVariables false

theorem own9 (xs : List Int) (v : Value) (B : Nat) (w : World) (ha : Ints w B v xs) (hnil : fn.NilOk v) (hn : xs.length ≤ 1099511627776) :
    Calls Tryd.prog 60 #[v] w fun e w' => ∃ v', e = .returned v' ∧ sl.Own w' w.heap.size w'.heap.size v' xs ∧ Below w.heap.size w w' := by
  go_enter Tryd.func60, Tryd.ntmps60
  go_wp2_with (at_builtin; refine fn.wp_appendAll rfl _ _ rfl w.heap.size _ _ [] (Own.built w #[] rfl) rfl v xs B (ints_al ha _) hnil rfl (by simp) (by simp; omega) ?_; intro v' w1 o1 c1)
  go_ret
  refine ⟨v', rfl, by simpa using o1, ?_⟩
  exact ((Below.refl w.heap.size w).alloc (Nat.le_refl _) (.cells #[] 2)).trans (c1.below (B := w.heap.size) (by omega) (by simp))
theorem take_succ9 (R : List (List Int)) (j : Nat) (h : j < R.length) : R.take (j + 1) = R.take j ++ [R.getD j []] := by
  rw [List.take_succ_eq_append_getElem h]; simp [List.getD, List.getElem?_eq_getElem h]
theorem row8 (c : Int) (xs : List V) (j : Nat) (h : j < (chW c xs).length) : ((chW c xs).getD j []).length ≤ 8 := by
  cases hb : chB c xs
  · rw [chW_no hb] at h; simp at h
  · have e : chW c xs = chL c xs xs.length := by rw [chW, if_pos hb]
    rw [e] at h ⊢
    rw [chL_len] at h
    have : (chL c xs xs.length).getD j [] = nowAt c xs (j + 1) := by simp [chL, List.getD, h]
    rw [this]; exact row_len c xs j
theorem tot_b9 (rows : List (List Int)) (M : Nat) (h : ∀ r ∈ rows, r.length ≤ M) : ss.tot rows ≤ rows.length * M := by
  have e : ss.tot rows = (rows.map List.length).sum := by
    unfold ss.tot ss.pre ss.lens
    rw [List.take_of_length_le (by simp)]
  rw [e]
  clear e
  induction rows with
  | nil => simp
  | cons x rows ih =>
    have h1 := h x (by simp)
    have h2 := ih (fun r hr => h r (by simp [hr]))
    rw [List.map_cons, List.sum_cons, List.length_cons, Nat.succ_mul]
    omega
theorem chW_tot (c : Int) (xs : List V) : (chW c xs).length ≤ 1048576 ∧ ss.Short (chW c xs) 1099511627776 ∧ ss.tot (chW c xs) ≤ 1048576 := by
  have h1 := chW_len c xs
  refine ⟨by omega, fun j hj => by have := row8 c xs j hj; omega, ?_⟩
  have := tot_b9 (chW c xs) 8 (fun r hr => by
    obtain ⟨j, hj⟩ := List.getElem?_of_mem hr
    have hl : j < (chW c xs).length := (List.getElem?_eq_some_iff.1 hj).1
    have := row8 c xs j hl
    rw [show (chW c xs).getD j [] = r from by simp [List.getD, hj]] at this
    exact this)
  have h3 : (chW c xs).length * 8 ≤ 8 * 8 := Nat.mul_le_mul_right 8 h1
  omega
/-- One row of the answer. -/
theorem rown_at {w : World} {lo hi : Nat} {v : Value} {R : List (List Int)} (h : ss.ROwn w lo hi v R) (j : Nat) (hj : j < R.length) :
    ∃ g off cap V, v = .slice (some ⟨g, off, none⟩) R.length cap ∧ g < w.heap.size ∧ w.cell? ⟨g, off + j, none⟩ = some V ∧ Ints w w.heap.size V (R.getD j []) ∧ fn.NilOk V := by
  rcases h.2 with ⟨h0, _⟩ | ⟨hp, g, off, cap, V, Lo, Hi, hv, h1, h2, h3⟩
  · rw [h0] at hj; simp at hj
  · have := h3 j hj
    exact ⟨g, off, cap, V j, hv, Nat.lt_of_lt_of_le h2 h.1, this.1, this.2.1.ints.mono this.2.1.2.2, fn.nilok_own this.2.1⟩

set_option maxRecDepth 100000 in
set_option maxHeartbeats 2000000 in
theorem specStk (c : Int) (xs : List V) (f : Value) (B : Nat) (w : World) (ha : Infs w B f xs) (hB : B ≤ w.heap.size) (hq : Small xs) :
    Calls Tryd.prog 36 #[.agg #[.int .i64 c, f]] w fun e w' => ∃ v', e = .returned (.tuple #[v', .int .i64 (chC c xs)]) ∧ ss.ROwn w' w.heap.size w'.heap.size v' (chW c xs) ∧ Below w.heap.size w w' := by
  have hb0 := (Below.refl w.heap.size w).alloc (Nat.le_refl _) (.cells #[.int .i64 c, f] 40)
  have HS := hid (specLS c xs f B w.heap.size (w.alloc (.cells #[.int .i64 c, f] 40)) (by simp) (World.cell?_alloc_at _ _ _ _ rfl) (World.cell?_alloc_at _ _ _ _ rfl) (ha.below hb0) (Nat.le_trans hB hb0.size) hq)
  have HB0 := hid hb0
  obtain ⟨ao, cap, hv⟩ := infs_val ha
  clear ha hb0
  generalize xs.length = n at *
  subst hv
  have HNo := hid (fun h => @chW_no c xs h)
  have HL8 := hid (chW_len c xs)
  have HR8 := hid (row8 c xs)
  obtain ⟨k, hk⟩ : ∃ k, k = chC c xs := ⟨_, rfl⟩
  rw [← hk]
  have HK := hid hk
  clear hk
  obtain ⟨b, hb⟩ : ∃ b, b = chB c xs := ⟨_, rfl⟩
  rw [← hb] at HS HNo
  have HBb := hid hb
  clear hb
  cases b with
  | false =>
    have HKv : Hid (k = 1) := hid (by rw [HK.out, chC, ← HBb.out]; rfl)
    go_enter Tryd.func36, Tryd.ntmps36
    go_wp2_with fail
    refine HS.out.mono ?_
    rintro e w1 ⟨v1, rfl, _, b1⟩
    have B1 := hid (HB0.out.trans (b1.mono HB0.out.size))
    clear b1
    go_wp2
    go_ret2
    exact ⟨.slice none 0 0, by rw [HKv.out]; rfl, by rw [HNo.out (by trivial)]; exact ss.ROwn.nil _ _, B1.out⟩
  | true =>
    have HKv : Hid (k = 0) := hid (by rw [HK.out, chC, ← HBb.out]; rfl)
    clear HNo HK HBb
    generalize chW c xs = R at *
    go_enter Tryd.func36, Tryd.ntmps36
    go_wp2_with fail
    refine HS.out.mono ?_
    rintro e w1 ⟨v1, rfl, o1, b1⟩
    have B1 := hid (HB0.out.trans (b1.mono HB0.out.size))
    have O1 := hid o1
    obtain ⟨ao1, cp1, hv1⟩ := ss.rown_val o1
    clear b1 o1 HS
    obtain ⟨m, hm⟩ : ∃ m, m = R.length := ⟨_, rfl⟩
    rw [← hm] at hv1
    have HM := hid hm
    have hm8 : m ≤ 8 := by rw [hm]; exact HL8.out
    clear hm HL8
    subst hv1
    have HSE := hid (wk.SR.made w1 w1.heap.size (Nat.le_refl _))
    have HBE : Hid (Below w1.heap.size w1 (w1.alloc (.cells #[] 25))) := hid ((Below.refl _ _).alloc (Nat.le_refl _) _)
    go_wp2
    go_loopw [6, 7] (fun lv iv wr => ∃ (j : Nat) (z : Value) (vals : List Value), j ≤ m ∧ lv = z ∧ iv = .int .i64 j ∧ wk.SR wr w1.heap.size z vals (R.take j) ∧ Below w1.heap.size w1 wr) (fun _ iv _ => m - (intOf iv).toNat)
    case atStart => exact ⟨0, _, _, Nat.zero_le _, rfl, rfl, HSE.out, HBE.out⟩
    case round =>
      obtain ⟨j, z, vals, hj, rfl, rfl, hsr, hbel⟩ := hrel
      have HSr := hid hsr
      have HBr := hid hbel
      have hzr := hbel.size
      clear hsr hbel HSE HBE
      by_cases hlt : j < m
      · have hjR : j < R.length := by rw [← HM.out]; exact hlt
        obtain ⟨g, off, cp, V, hvv, hg, hc, hi, hni⟩ := rown_at O1.out j hjR
        rw [← HM.out] at hvv
        simp only [Value.slice.injEq, true_and] at hvv
        obtain ⟨rfl, rfl⟩ := hvv
        have hc1 := (HBr.out.cell (p := ⟨g, off + j, none⟩) hg).trans hc
        have h8 := HR8.out j hjR
        have HOw := hid (own9 (R.getD j []) V w1.heap.size wr (hi.chg (Chg.ofBelow (lo := 0) HBr.out) (.inr (Nat.zero_le _))) hni (by omega))
        have HTk := hid (take_succ9 R j hjR)
        have hTl : (R.take j).length ≤ 8 := by rw [List.length_take]; omega
        obtain ⟨a5, c5, hV⟩ := ints_val hi
        clear hc hi hni
        generalize R.getD j [] = r at *
        generalize hrl : r.length = rl at *
        subst hV
        go_wp2_with (first | (go_at_call 60; refine HOw.out.mono ?_; rintro e w6 ⟨v6, rfl, o6, b6⟩; have HO6 := hid o6; have HB6 := hid b6; obtain ⟨ao6, cap6, hv6⟩ := own_val o6; rw [hrl] at hv6; subst hv6; clear o6 b6) | (at_builtin; refine wk.wp_appR rfl _ _ rfl w1.heap.size _ _ vals (R.take j) r HSr.out HB6.out HO6.out rfl rfl rfl hzr (by omega) ?_; intro v7 w7 hs7 hb7 hg7 h57; have HS7 := hid hs7; have HB7 := hid hb7; clear hs7 hb7 hg7 h57))
        go_roundw
        case rel => exact ⟨j + 1, _, _, by omega, rfl, by go_num, by rw [HTk.out]; exact HS7.out, (HBr.out.trans (HB6.out.mono hzr)).trans HB7.out⟩
        case measure => simp [intOf]; omega
      · obtain rfl : j = m := by omega
        go_wp2
        go_ret2
        have hR := (HSr.out.low B1.out.size).rown
        rw [HM.out, List.take_length] at hR
        exact ⟨_, by rw [HKv.out]; rfl, hR, B1.out.trans (HBr.out.mono B1.out.size)⟩
end Go.Proofs.YtglkchcfggclaaaDoor.kn
