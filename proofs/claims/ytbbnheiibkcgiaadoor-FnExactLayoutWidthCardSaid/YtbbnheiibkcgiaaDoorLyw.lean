/-
  LayoutWidth of both sides.
-/
import Derived.Test.YtbbnheiibkcgiaaDoorKb0
namespace Go.Proofs.YtbbnheiibkcgiaaDoor.ly
open Go.RowKit Go.Proofs.YtbbnheiibkcgiaaDoor.sl Go.Proofs.YtbbnheiibkcgiaaDoor.br Go.Proofs.YtbbnheiibkcgiaaDoor.bw Go.Proofs.YtbbnheiibkcgiaaDoor.st Go.Proofs.YtbbnheiibkcgiaaDoor.cx Go.Proofs.YtbbnheiibkcgiaaDoor.ro Go.Proofs.YtbbnheiibkcgiaaDoor.kn
set_option linter.unusedVariables false
set_option maxRecDepth 100000

/-- The greatest one of c and the first k elements. -/
def mxk (c : Int) (L : List Int) (k : Nat) : Int := (L.take k).foldl max c
theorem mxk_zero (c : Int) (L : List Int) : mxk c L 0 = c := rfl
theorem mxk_succ (c : Int) (L : List Int) (k : Nat) (h : k < L.length) : mxk c L (k + 1) = max (mxk c L k) (L.getD k 0) := by
  unfold mxk
  rw [List.take_succ_eq_append_getElem h, List.foldl_append]
  simp [List.getD, List.getElem?_eq_getElem h]
theorem mxk_le (c m : Int) (L : List Int) (hc : c ≤ m) (hL : ∀ j, j < L.length → L.getD j 0 ≤ m) : ∀ k, k ≤ L.length → c ≤ mxk c L k ∧ mxk c L k ≤ m
  | 0, _ => ⟨Int.le_refl _, hc⟩
  | k + 1, h => by
    have h1 := mxk_le c m L hc hL k (by omega)
    have h2 := hL k (by omega)
    rw [mxk_succ c L k (by omega)]
    omega
/-- The greatest one, however it is begun. -/
theorem mxk_max (c : Int) (L : List Int) : ∀ k, k < L.length → mxk c L (k + 1) = max c (mxk (L.getD 0 0) L (k + 1))
  | 0, h => by
    rw [mxk_succ c L 0 h, mxk_succ _ L 0 h, mxk_zero, mxk_zero]
    omega
  | k + 1, h => by
    have h1 := mxk_max c L k (by omega)
    rw [mxk_succ c L (k + 1) h, mxk_succ _ L (k + 1) h, h1]
    omega
def lwI (c : Int) (xs : List V) : Int := if chB c xs then 2 * mxk c (colW c xs) (colW c xs).length + 1 else 0
theorem lw_no {c : Int} {xs : List V} (h : chB c xs = false) : lwI c xs = 0 := by rw [lwI, h]; rfl
theorem lw_yes {c : Int} {xs : List V} (h : chB c xs = true) : lwI c xs = 2 * mxk c (colW c xs) (colW c xs).length + 1 := by rw [lwI, h]; rfl
theorem ch_c {c : Int} {xs : List V} (h : chB c xs = true) : 1 ≤ c ∧ c ≤ 8 := by
  simp only [chB, Bool.and_eq_true, decide_eq_true_eq] at h
  exact h.1
theorem ch_rows {c : Int} {xs : List V} (h : chB c xs = true) : (chW c xs).length = xs.length ∧ 1 ≤ xs.length ∧ xs.length ≤ 8 := by
  refine ⟨by rw [chW, h]; simp [chL], ?_⟩
  simp only [chB, Bool.and_eq_true, decide_eq_true_eq] at h
  exact h.2.1
theorem col_le (c : Int) (xs : List V) : ∀ j, j < (colW c xs).length → 0 ≤ (colW c xs).getD j 0 ∧ (colW c xs).getD j 0 ≤ 8 := fun j hj => by
  rw [colW, List.length_map] at hj
  have h1 := row8 c xs j hj
  have h2 : (colW c xs).getD j 0 = (((chW c xs).getD j []).length : Int) := by
    unfold colW
    simp [List.getD, List.getElem?_eq_getElem hj]
  rw [h2]
  omega

/-- slices.Max of a list with elements. -/
theorem maxS (L : List Int) (v : Value) (B : Nat) (w : World) (ha : Ints w B v L) (hp : 0 < L.length) (hn : L.length ≤ 1000) :
    Calls Tryd.prog 36 #[v] w fun e w' => e = .returned (.int .i64 (mxk (L.getD 0 0) L L.length)) ∧ w' = w := by
  rcases ha with ⟨rfl, _⟩ | ⟨hp, b, off, cap, rfl, hb, hc⟩
  · simp at hp
  · obtain ⟨n, hnn⟩ : ∃ n, n = L.length := ⟨_, rfl⟩
    have HM1 := hid (mxk_succ (L.getD 0 0) L 0 (by omega))
    have HMs := hid (fun k h => mxk_succ (L.getD 0 0) L k h)
    rw [← hnn] at hp hc hn HMs ⊢
    have HC := hid hc
    have h0 := hc 0 hp
    rw [mxk_zero] at HM1
    have HM1 : Hid (L.getD 0 0 = mxk (L.getD 0 0) L 1) := hid (by rw [HM1.out]; omega)
    clear hnn hc
    generalize L.getD 0 0 = x0 at *
    rw [Nat.add_zero] at h0
    go_enter Tryd.func36, Tryd.ntmps36
    go_wp2
    go_loop [3, 4] (fun m i => ∃ k : Nat, 1 ≤ k ∧ k ≤ n ∧ m = .int .i64 (mxk x0 L k) ∧ i = .int .i64 k) (fun _ i => n - (intOf i).toNat)
    case atStart => exact ⟨1, Nat.le_refl _, hp, by rw [← HM1.out], rfl⟩
    case round =>
      obtain ⟨k, hk1, hk, rfl, rfl⟩ := hrel
      by_cases hlt : k < n
      · have h1 := HC.out k hlt
        have HS := hid (HMs.out k hlt)
        generalize L.getD k 0 = x at *
        generalize mxk x0 L k = y at *
        by_cases hxy : y < x
        · have HX : Hid (mxk x0 L (k + 1) = x) := hid (by rw [HS.out]; omega)
          clear HS
          go_wp2
          go_round
          case rel => exact ⟨k + 1, by omega, by omega, by rw [HX.out], by go_num⟩
          case measure => simp [intOf]; omega
        · have HX : Hid (mxk x0 L (k + 1) = y) := hid (by rw [HS.out]; omega)
          clear HS
          go_wp2
          go_round
          case rel => exact ⟨k + 1, by omega, by omega, by rw [HX.out], by go_num⟩
          case measure => simp [intOf]; omega
      · obtain rfl : k = n := by omega
        go_wp2
        go_ret
        exact ⟨rfl, rfl⟩

theorem maxSp (a b : Int) (w : World) : Calls Tryd.prog 33 #[.int .i64 a, .int .i64 b] w fun e w' => e = .returned (.int .i64 (max a b)) ∧ w = w' := by
  by_cases h : b < a
  · have HF : Hid (max a b = a) := hid (by omega)
    go_enter Tryd.func33, Tryd.ntmps33
    go_wp2
    go_ret
    exact ⟨by rw [HF.out]; rfl, rfl⟩
  · have HF : Hid (max a b = b) := hid (by omega)
    go_enter Tryd.func33, Tryd.ntmps33
    go_wp2
    go_ret
    exact ⟨by rw [HF.out]; rfl, rfl⟩

set_option maxHeartbeats 2000000 in
theorem specLW (c : Int) (xs : List V) (f : Value) (B : Nat) (w : World) (ha : Infs w B f xs) (hB : B ≤ w.heap.size) (hq : Small xs) :
    Calls Tryd.prog 9 #[.agg #[.int .i64 c, f]] w fun e w' => e = .returned (.tuple #[.int .i64 (lwI c xs), .int .i64 (chC c xs)]) ∧ Below w.heap.size w w' := by
  have hb0 := (Below.refl w.heap.size w).alloc (Nat.le_refl _) (.cells #[.int .i64 c, f] 30)
  have HS := hid (specLS c xs f B w.heap.size (w.alloc (.cells #[.int .i64 c, f] 30)) (by simp) (World.cell?_alloc_at _ _ _ _ rfl) (World.cell?_alloc_at _ _ _ _ rfl) (ha.below hb0) (Nat.le_trans hB hb0.size) hq)
  have k0 : (w.alloc (.cells #[.int .i64 c, f] 30)).cell? ⟨w.heap.size, 0, none⟩ = some (.int .i64 c) := World.cell?_alloc_at _ _ _ _ rfl
  have HB0 := hid hb0
  obtain ⟨ao, cap, hv⟩ := infs_val ha
  clear ha hb0
  generalize xs.length = n at *
  subst hv
  obtain ⟨b, hb⟩ : ∃ b, b = chB c xs := ⟨_, rfl⟩
  rw [← hb] at HS
  cases b with
  | false =>
    have HK : Hid (chC c xs = 1) := hid (by rw [chC, ← hb]; rfl)
    have HW := hid (lw_no hb.symm)
    clear hb
    go_enter Tryd.func9, Tryd.ntmps9
    go_wp2_with fail
    refine HS.out.mono ?_
    rintro e w1 ⟨v1, rfl, _, b1⟩
    have B1 := hid (HB0.out.trans (b1.mono HB0.out.size))
    clear b1
    go_wp2
    go_ret2
    exact ⟨by rw [HK.out, HW.out]; rfl, B1.out⟩
  | true =>
    have HK : Hid (chC c xs = 0) := hid (by rw [chC, ← hb]; rfl)
    have HW := hid (lw_yes hb.symm)
    have hc := ch_c hb.symm
    have HMb := hid (mxk_le c 8 (colW c xs) hc.2 (fun j hj => (col_le c xs j hj).2))
    have HMs := hid (fun k h => mxk_succ c (colW c xs) k h)
    have HCl : Hid ((colW c xs).length = (chW c xs).length) := hid (by rw [colW, List.length_map])
    have HCa : Hid (∀ j, j < (chW c xs).length → (colW c xs).getD j 0 = (((chW c xs).getD j []).length : Int)) := hid (fun j hj => by unfold colW; simp [List.getD, List.getElem?_eq_getElem hj])
    have hr := (ch_rows hb.symm).1
    have hr8 := chW_len c xs
    clear hb hr
    generalize lwI c xs = r at *
    generalize chC c xs = kk at *
    generalize colW c xs = L at *
    generalize chW c xs = R at *
    go_enter Tryd.func9, Tryd.ntmps9
    go_wp2_with fail
    refine HS.out.mono ?_
    rintro e w1 ⟨v1, rfl, o1, b1⟩
    have B1 := hid (HB0.out.trans (b1.mono HB0.out.size))
    have O1 := hid o1
    have j0 := (b1.cell (p := ⟨w.heap.size, 0, none⟩) (by simp)).trans k0
    obtain ⟨ao1, cp1, hv1⟩ := ss.rown_val o1
    clear b1 o1 HS k0
    obtain ⟨m, hm⟩ : ∃ m, m = R.length := ⟨_, rfl⟩
    rw [← hm] at hv1 hr8 HCl HCa
    have HM := hid hm
    clear hm
    subst hv1
    go_wp2
    go_loop [6, 7] (fun y i => ∃ k : Nat, k ≤ m ∧ y = .int .i64 (mxk c L k) ∧ i = .int .i64 k) (fun _ i => m - (intOf i).toNat)
    case atStart => exact ⟨0, Nat.zero_le _, rfl, rfl⟩
    case round =>
      obtain ⟨k, hk, rfl, rfl⟩ := hrel
      have hmb := HMb.out k (by rw [HCl.out]; exact hk)
      by_cases hlt : k < m
      · obtain ⟨g, off, cp, V, hvv, hg, hc1, hi1, hni⟩ := rown_at O1.out k (by rw [← HM.out]; exact hlt)
        rw [← HM.out] at hvv
        simp only [Value.slice.injEq, true_and] at hvv
        obtain ⟨rfl, rfl⟩ := hvv
        obtain ⟨a5, c5, hV⟩ := ints_val hi1
        have HS1 := hid (HMs.out k (by rw [HCl.out]; exact hlt))
        rw [HCa.out k hlt] at HS1
        clear hi1 hni
        generalize (R.getD k []).length = rl at *
        subst hV
        generalize mxk c L k = y at *
        have HX := hid (maxSp y (rl : Int))
        go_wp2_with fail
        refine (HX.out _).mono ?_
        rintro e w2 ⟨rfl, rfl⟩
        go_wp2
        go_round
        case rel => exact ⟨k + 1, by omega, by rw [HS1.out], by go_num⟩
        case measure => simp [intOf]; omega
      · obtain rfl : k = m := by omega
        have HF : Hid (r = 2 * mxk c L k + 1) := hid (by rw [HW.out, HCl.out])
        generalize mxk c L k = y at *
        have e1 : IntKind.i64.wrap (2 * y) = 2 * y := IntWalk.i64_in _ (by omega)
        have e2 : IntKind.i64.wrap (2 * y + 1) = 2 * y + 1 := IntWalk.i64_in _ (by omega)
        go_wp2
        go_ret2
        exact ⟨by rw [HK.out, HF.out]; rfl, B1.out⟩

set_option maxHeartbeats 2000000 in
theorem implLW (c : Int) (xs : List V) (f : Value) (B : Nat) (w : World) (ha : Infs w B f xs) (hB : B ≤ w.heap.size) (hq : Small xs) (hT : stb.Tab w) :
    Calls Tryd.prog 11 #[.agg #[.int .i64 c, f]] w fun e w' => e = .returned (.tuple #[.int .i64 (lwI c xs), .int .i64 (chC c xs)]) ∧ Below w.heap.size w w' := by
  have hb0 := (Below.refl w.heap.size w).alloc (Nat.le_refl _) (.cells #[.int .i64 c, f] 30)
  have HS := hid (implCol c xs f B _ (ha.below hb0) (Nat.le_trans hB hb0.size) hq (stb.carry hT hb0))
  have k0 : (w.alloc (.cells #[.int .i64 c, f] 30)).cell? ⟨w.heap.size, 0, none⟩ = some (.int .i64 c) := World.cell?_alloc_at _ _ _ _ rfl
  have HB0 := hid hb0
  obtain ⟨ao, cap, hv⟩ := infs_val ha
  clear ha hb0 hT
  cases hb : chB c xs with
  | false =>
    have hk : chC c xs = 1 := by rw [chC, hb]; rfl
    have HK := hid hk
    have HW := hid (lw_no hb)
    have HL : Hid (colW c xs = []) := hid (by rw [colW, chW_no hb]; rfl)
    rw [hk, HL.out] at HS
    clear hb hk
    generalize xs.length = n at *
    subst hv
    go_enter Tryd.func11, Tryd.ntmps11
    go_wp2_with fail
    refine HS.out.mono ?_
    rintro e w1 ⟨v1, rfl, o1, b1⟩
    have B1 := hid (HB0.out.trans (b1.mono HB0.out.size))
    clear b1
    go_wp2
    go_ret2
    exact ⟨by rw [HK.out, HW.out]; rfl, B1.out⟩
  | true =>
    have hk : chC c xs = 0 := by rw [chC, hb]; rfl
    have HK := hid hk
    have HW := hid (lw_yes hb)
    have hc := ch_c hb
    have hr := ch_rows hb
    have hcl : (colW c xs).length = (chW c xs).length := by rw [colW, List.length_map]
    have HMx := hid (fun v' lo hi W (o : sl.Own W lo hi v' (colW c xs)) => maxS (colW c xs) v' hi W o.ints (by omega) (by omega))
    have hm1 := mxk_le ((colW c xs).getD 0 0) 8 (colW c xs) (col_le c xs 0 (by omega)).2 (fun j hj => (col_le c xs j hj).2) (colW c xs).length (Nat.le_refl _)
    have hm0 := (col_le c xs 0 (by omega)).1
    have hmm : mxk c (colW c xs) (colW c xs).length = max c (mxk ((colW c xs).getD 0 0) (colW c xs) (colW c xs).length) := by
      obtain ⟨q, hq⟩ : ∃ q, (colW c xs).length = q + 1 := ⟨(colW c xs).length - 1, by omega⟩
      rw [hq]
      exact mxk_max c (colW c xs) q (by omega)
    have HF : Hid (lwI c xs = 2 * max c (mxk ((colW c xs).getD 0 0) (colW c xs) (colW c xs).length) + 1) := hid (by rw [HW.out, hmm])
    rw [hk] at HS
    clear hb hk hcl hr hmm HW
    generalize mxk ((colW c xs).getD 0 0) (colW c xs) (colW c xs).length = y at *
    have hy8 := hm1.2
    have hy0 := Int.le_trans hm0 hm1.1
    clear hm1 hm0
    generalize lwI c xs = r at *
    generalize chC c xs = kk at *
    generalize colW c xs = L at *
    generalize xs.length = n at *
    subst hv
    go_enter Tryd.func11, Tryd.ntmps11
    go_wp2_with fail
    refine HS.out.mono ?_
    rintro e w1 ⟨v1, rfl, o1, b1⟩
    have B1 := hid (HB0.out.trans (b1.mono HB0.out.size))
    have j0 := (b1.cell (p := ⟨w.heap.size, 0, none⟩) (by simp)).trans k0
    have HM1 := hid (HMx.out _ _ _ _ o1)
    have HM2 := hid (fun q => HMx.out _ _ _ _ (o1.drewN q))
    obtain ⟨ao1, cp1, hv1⟩ := br.own_val o1
    obtain ⟨n1, hn1⟩ : ∃ n1, n1 = L.length := ⟨_, rfl⟩
    rw [← hn1] at hv1
    clear b1 o1 HS k0 hn1 HMx
    subst hv1
    by_cases hcy : c < y
    · have HR : Hid (r = 2 * y + 1) := hid (by rw [HF.out]; congr 2; omega)
      have e1 : IntKind.i64.wrap (2 * y) = 2 * y := IntWalk.i64_in _ (by omega)
      have e2 : IntKind.i64.wrap (2 * y + 1) = 2 * y + 1 := IntWalk.i64_in _ (by omega)
      clear HF
      go_wp2
      go_quiet ((go_at_call 36; exact Calls.quiet_of_same (HM2.out _)))
      go_wp2
      go_ret2
      exact ⟨by rw [HK.out, HR.out]; rfl, bdrewN B1.out _⟩
    · have HR : Hid (r = 2 * c + 1) := hid (by rw [HF.out]; congr 2; omega)
      have e1 : IntKind.i64.wrap (2 * c) = 2 * c := IntWalk.i64_in _ (by omega)
      have e2 : IntKind.i64.wrap (2 * c + 1) = 2 * c + 1 := IntWalk.i64_in _ (by omega)
      clear HF
      go_wp2
      go_quiet ((go_at_call 36; exact Calls.quiet_of_same (HM2.out _)))
      go_wp2
      go_ret2
      exact ⟨by rw [HK.out, HR.out]; rfl, bdrewN B1.out _⟩
end Go.Proofs.YtbbnheiibkcgiaaDoor.ly
