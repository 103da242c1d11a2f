/-
  RowTargets of the program.
-/
import Derived.Test.YtbbnheiibkcgiaaDoorLa6
namespace Go.Proofs.YtbbnheiibkcgiaaDoor.la
open Go.RowKit Go.Proofs.YtbbnheiibkcgiaaDoor.sl Go.Proofs.YtbbnheiibkcgiaaDoor.pm Go.Proofs.YtbbnheiibkcgiaaDoor.br Go.Proofs.YtbbnheiibkcgiaaDoor.bw Go.Proofs.YtbbnheiibkcgiaaDoor.st Go.Proofs.YtbbnheiibkcgiaaDoor.wk Go.Proofs.YtbbnheiibkcgiaaDoor.rl
set_option linter.unusedVariables false
set_option maxRecDepth 100000

theorem needI (x : Int) (hx : 0 ≤ x ∧ x ≤ 1000) (w : World) : Calls Tryd.prog 43 #[.int .i64 x] w fun e w' => e = .returned (.int .i64 (2 * x + 1)) ∧ w = w' := by
  have e1 : IntKind.i64.wrap (2 * x) = 2 * x := IntWalk.i64_in _ (by omega)
  have e2 : IntKind.i64.wrap (2 * x + 1) = 2 * x + 1 := IntWalk.i64_in _ (by omega)
  go_enter Tryd.func43, Tryd.ntmps43
  go_wp2
  go_ret
  exact ⟨rfl, rfl⟩
theorem needS (x : Int) (hx : 0 ≤ x ∧ x ≤ 1000) (w : World) : Calls Tryd.prog 53 #[.int .i64 x] w fun e w' => e = .returned (.int .i64 (2 * x + 1)) ∧ w = w' := by
  have e1 : IntKind.i64.wrap (2 * x) = 2 * x := IntWalk.i64_in _ (by omega)
  have e2 : IntKind.i64.wrap (2 * x + 1) = 2 * x + 1 := IntWalk.i64_in _ (by omega)
  go_enter Tryd.func53, Tryd.ntmps53
  go_wp2
  go_ret
  exact ⟨rfl, rfl⟩

/-- What the walks are told of a stitch. -/
structure St (xs : List Int) (k m q : Nat) (t t2 : Int) : Prop where
  m4 : m ≤ 4
  tb : 0 ≤ t ∧ t ≤ 100
  t2b : 0 ≤ t2 ∧ t2 ≤ 100
  wid : wid xs k = m
  q4 : q ≤ 3
  mq : (md (xs.getD k 0)).toNat = q + 1
  at_ : ∀ j, j < m → (q = 0 ∧ atK xs k j = 0 ∨ q + 1 = m ∧ atK xs k j = j)
  a : ∀ j, hxA xs k j = 2 * (t + (j : Int)) + 1
  b : ∀ j, hxB xs k j = 2 * (t + (atK xs k j : Int)) + 1
  c : ∀ j, hxC xs k j = 2 * (t2 + (atK xs k j : Int)) + 1
theorem st_of {xs : List Int} (hl : lst xs = true) (k : Nat) (hk : k < xs.length) : ∃ m q : Nat, St xs k m q (sF tk xs k) (sF md xs k) := by
  have h16 := (lst_parts hl).1
  have hx := (lst_parts hl).2 k hk
  have h1 := tk_bound hx
  have h2 := md_bound hx
  have s1 := sF_bound tk xs (fun j hj => by have := tk_bound ((lst_parts hl).2 j hj); omega) k (by omega)
  have s2 := sF_bound md xs (fun j hj => by have := md_bound ((lst_parts hl).2 j hj); omega) k (by omega)
  refine ⟨(tk (xs.getD k 0)).toNat, (md (xs.getD k 0)).toNat - 1, by omega, by omega, by omega, rfl, by omega, by omega, fun j hj => ?_, fun j => rfl, fun j => rfl, fun j => rfl⟩
  by_cases h : md (xs.getD k 0) = 1
  · exact .inl ⟨by omega, by rw [atK, if_pos h]⟩
  · have h3 : md (xs.getD k 0) = tk (xs.getD k 0) := by rcases md_tk hx with h' | h'; exact absurd h' h; exact h'
    exact .inr ⟨by omega, by rw [atK, if_neg h]⟩

set_option maxHeartbeats 8000000 in
theorem implRT (d c : Int) (xs : List Int) (v : Value) (B : Nat) (w : World) (ha : Ints w B v xs) (hB : B ≤ w.heap.size) (hq : l5.Small xs) (hT : stb.Tab w) :
    Calls Tryd.prog 16 #[.agg #[.int .i64 d, .int .i64 c, v]] w fun e w' => ∃ v1 v2 v3, e = .returned (.tuple #[v1, v2, v3, .int .i64 (laC d c xs)]) ∧ T3 w' w.heap.size v1 v2 v3 (rtW hxA d c xs) (rtW hxB d c xs) (rtW hxC d c xs) ∧ Below w.heap.size w w' := by
  have b0 := (Below.refl w.heap.size w).alloc (Nat.le_refl _) (.cells #[.int .i64 d, .int .i64 c, v] 40)
  have HB := hid b0
  have hai := ha.chg (Chg.ofBelow (lo := 0) b0) (.inr (Nat.zero_le _))
  have hBi := Nat.le_trans hB b0.size
  have hTi := stb.carry hT b0
  obtain ⟨ao, cap, hv⟩ := ints_val ha
  by_cases h0 : laC d c xs = 0
  · have HL := hid (layYes d c xs v B _ hai hBi hq hTi h0)
    have hW : ∀ h, rtW h d c xs = tgT (h xs) xs xs.length := fun h => by rw [rtW, if_pos h0]
    have hpos := la_pos (la_q h0)
    have hl := row_lst (la_row h0)
    have h16 := (lst_parts hl).1
    have HSt := hid (fun k hk => st_of hl k hk)
    have HLp := hid (fun h i k hi hk => tgP_len h (wid_le hl) i k hi hk)
    have hn1 := numL_len tk xs xs.length
    have hn2 := numL_len md xs xs.length
    have HR1 := hid (fun j (hj : j < xs.length) => numL_at tk xs xs.length j hj)
    have HR2 := hid (fun j (hj : j < xs.length) => numL_at md xs xs.length j hj)
    rw [hW, hW, hW, h0]
    obtain ⟨n, hn⟩ : ∃ n, n = xs.length := ⟨_, rfl⟩
    rw [← hn] at hv HL HSt HLp hn1 hn2 HR1 HR2 hpos h16 ⊢
    clear hai hTi h0 hT b0 hq hW hl ha hn
    generalize numL tk xs n = L1 at *
    generalize numL md xs n = L2 at *
    subst hv
    go_enter Tryd.func16, Tryd.ntmps16
    go_wp2_with fail
    refine HL.out.mono ?_
    rintro e w1 ⟨v1, vals1, v2, vals2, rfl, s1, s2, b1⟩
    obtain ⟨g1, c1, hv1, hg1, hrow1⟩ := sr_at s1 (by omega)
    obtain ⟨g2, c2, hv2, hg2, hrow2⟩ := sr_at s2 (by omega)
    have B1 := hid (HB.out.trans (b1.mono HB.out.size))
    have hz1 := B1.out.size
    have HW1 := hid hrow1
    have HW2 := hid hrow2
    rw [hn1] at hv1 HW1
    rw [hn2] at hv2 HW2
    clear s1 s2 b1 hrow1 hrow2 hn1 hn2
    subst hv1 hv2
    have bX := (Below.refl w1.heap.size w1).alloc (Nat.le_refl _) (.cells #[.int .i64 d, .int .i64 c, .slice ao n cap, .slice (some ⟨g1, 0, none⟩) n c1, .slice (some ⟨g2, 0, none⟩) n c2] 69)
    have x3 : (w1.alloc (.cells #[.int .i64 d, .int .i64 c, .slice ao n cap, .slice (some ⟨g1, 0, none⟩) n c1, .slice (some ⟨g2, 0, none⟩) n c2] 69)).cell? ⟨w1.heap.size, 3, none⟩ = some (.slice (some ⟨g1, 0, none⟩) n c1) := World.cell?_alloc_at _ _ _ _ rfl
    have x4 : (w1.alloc (.cells #[.int .i64 d, .int .i64 c, .slice ao n cap, .slice (some ⟨g1, 0, none⟩) n c1, .slice (some ⟨g2, 0, none⟩) n c2] 69)).cell? ⟨w1.heap.size, 4, none⟩ = some (.slice (some ⟨g2, 0, none⟩) n c2) := World.cell?_alloc_at _ _ _ _ rfl
    have hsX : (w1.alloc (.cells #[.int .i64 d, .int .i64 c, .slice ao n cap, .slice (some ⟨g1, 0, none⟩) n c1, .slice (some ⟨g2, 0, none⟩) n c2] 69)).heap.size = w1.heap.size + 1 := by simp
    go_wp2_with fail
    generalize w1.alloc (.cells #[.int .i64 d, .int .i64 c, .slice ao n cap, .slice (some ⟨g1, 0, none⟩) n c1, .slice (some ⟨g2, 0, none⟩) n c2] 69) = W2 at *
    have HBX := hid bX
    have HZ := hid (T.nil W2 W2.heap.size)
    clear bX
    go_loopw [8, 9, 10, 24] (fun s1 s2 s3 i wr => ∃ (k : Nat) (z1 z2 z3 : Value), k ≤ n ∧ s1 = z1 ∧ s2 = z2 ∧ s3 = z3 ∧ i = .int .i64 k ∧ T wr W2.heap.size z1 z2 z3 (tgT (hxA xs) xs k) (tgT (hxB xs) xs k) (tgT (hxC xs) xs k) ∧ Below W2.heap.size W2 wr) (fun _ _ _ i _ => n - (intOf i).toNat)
    case atStart => exact ⟨0, _, _, _, Nat.zero_le _, rfl, rfl, rfl, rfl, HZ.out, Below.refl _ _⟩
    case round =>
      obtain ⟨k, z1, z2, z3, hk, rfl, rfl, rfl, rfl, hown, hbel⟩ := hrel
      have HO := hid hown
      have HBr := hid hbel
      have hszr := hbel.size
      have y3 := (hbel.cell (p := ⟨w1.heap.size, 3, none⟩) (by show w1.heap.size < W2.heap.size; omega)).trans x3
      have y4 := (hbel.cell (p := ⟨w1.heap.size, 4, none⟩) (by show w1.heap.size < W2.heap.size; omega)).trans x4
      clear hown hbel HZ
      by_cases hlt : k < n
      · obtain ⟨m, q, sx⟩ := HSt.out k hlt
        have HS := hid sx
        obtain ⟨ya, yc, hc1, hi1, _⟩ := HW1.out k (by omega)
        obtain ⟨yb, yd, hc2, hi2, _⟩ := HW2.out k (by omega)
        have e1 : L1.getD k [] = sl.marks (sF tk xs k) m := by rw [HR1.out k hlt]; have := sx.wid; unfold wid at this; rw [this]
        have e2 : L2.getD k [] = sl.marks (sF md xs k) (q + 1) := by rw [HR2.out k hlt, sx.mq]
        obtain ⟨q1, hq1⟩ : ∃ q1, q1 = q + 1 := ⟨_, rfl⟩
        rw [e1, sl.marks_len] at hc1 hi1
        rw [e2, ← hq1, sl.marks_len] at hc2 hi2
        have Hq1 := hid hq1
        have h1 := (HBr.out.cell (p := ⟨g1, k, none⟩) (by show g1 < W2.heap.size; omega)).trans ((HBX.out.cell (p := ⟨g1, k, none⟩) hg1).trans hc1)
        have h2 := (HBr.out.cell (p := ⟨g2, k, none⟩) (by show g2 < W2.heap.size; omega)).trans ((HBX.out.cell (p := ⟨g2, k, none⟩) hg2).trans hc2)
        have HI1 := hid (hi1.chg (Chg.ofBelow (lo := 0) HBX.out) (.inr (Nat.zero_le _)))
        have HI2 := hid (hi2.chg (Chg.ofBelow (lo := 0) HBX.out) (.inr (Nat.zero_le _)))
        have hm4 := sx.m4
        have hq4 := sx.q4
        have htb := sx.tb
        have ht2b := sx.t2b
        clear hc1 hc2 hi1 hi2 e1 e2 hq1 sx
        generalize sF tk xs k = t at *
        generalize sF md xs k = t2 at *
        have HO2 : Hid (T wr W2.heap.size u8 u9 u10 (tgP (hxA xs) xs k 0) (tgP (hxB xs) xs k 0) (tgP (hxC xs) xs k 0)) := hid (by rw [tgP_zero, tgP_zero, tgP_zero]; exact HO.out)
        obtain ⟨W5, rfl⟩ : ∃ W, W = wr := ⟨_, rfl⟩
        clear HO
        go_wp2
        go_loopw [8, 9, 10, 36] (fun s1 s2 s3 i wv => ∃ (j : Nat) (z1 z2 z3 : Value), j ≤ m ∧ s1 = z1 ∧ s2 = z2 ∧ s3 = z3 ∧ i = .int .i64 j ∧ T wv W2.heap.size z1 z2 z3 (tgP (hxA xs) xs k j) (tgP (hxB xs) xs k j) (tgP (hxC xs) xs k j) ∧ Below W2.heap.size W2 wv) (fun _ _ _ i _ => m - (intOf i).toNat)
        case atStart => exact ⟨0, _, _, _, Nat.zero_le _, rfl, rfl, rfl, rfl, HO2.out, HBr.out⟩
        case round =>
          obtain ⟨j, z1, z2, z3, hj, rfl, rfl, rfl, rfl, hown, hbel⟩ := hrel
          have HT := hid hown
          have HBv := hid hbel
          have hszv := hbel.size
          clear hown hbel HO2
          by_cases hjm : j < m
          · have hat := HS.out.at_ j hjm
            obtain ⟨a, hae⟩ : ∃ a, a = atK xs k j := ⟨_, rfl⟩
            rw [← hae] at hat
            have ham : a < m ∧ a < q1 ∧ a ≤ 4 := by have := Hq1.out; omega
            have hamin : (a : Int) = min (j : Int) ((q1 : Int) - 1) := by have := Hq1.out; omega
            have HA1 := hid (HS.out.a j)
            have HA2 := hid (HS.out.b j)
            have HA3 := hid (HS.out.c j)
            rw [← hae] at HA2 HA3
            have hl1 := HLp.out (hxA xs) k j (by omega) (by omega)
            have hl2 := HLp.out (hxB xs) k j (by omega) (by omega)
            have hl3 := HLp.out (hxC xs) k j (by omega) (by omega)
            have HX1 := hid (tgP_succ (hxA xs) xs k j)
            have HX2 := hid (tgP_succ (hxB xs) xs k j)
            have HX3 := hid (tgP_succ (hxC xs) xs k j)
            rw [HA1.out] at HX1
            rw [HA2.out] at HX2
            rw [HA3.out] at HX3
            have HN1 := hid (needI (t + (j : Int)) (by omega))
            have HN2 := hid (needI (t + (a : Int)) (by omega))
            have HN3 := hid (needI (t2 + (a : Int)) (by omega))
            rcases HI1.out with ⟨hx, _⟩ | ⟨hp1, p1, o1, cc1, hv1, hp1b, hcl1⟩
            · have := congrArg List.length hx; rw [sl.marks_len] at this; simp at this; omega
            rcases HI2.out with ⟨hx, _⟩ | ⟨hp2, p2, o2, cc2, hv2, hp2b, hcl2⟩
            · have := congrArg List.length hx; rw [sl.marks_len] at this; simp at this; omega
            rw [sl.marks_len] at hv1 hv2 hcl1 hcl2
            simp only [Value.slice.injEq, true_and] at hv1 hv2
            obtain ⟨rfl, rfl⟩ := hv1
            obtain ⟨rfl, rfl⟩ := hv2
            have m1 : W2.cell? ⟨p1, o1 + j, none⟩ = some (.int .i64 (t + (j : Int))) := by rw [hcl1 j hjm, sl.marks_at _ _ _ hjm]
            have m2 : W2.cell? ⟨p1, o1 + a, none⟩ = some (.int .i64 (t + (a : Int))) := by rw [hcl1 a ham.1, sl.marks_at _ _ _ ham.1]
            have m3 : W2.cell? ⟨p2, o2 + a, none⟩ = some (.int .i64 (t2 + (a : Int))) := by rw [hcl2 a ham.2.1, sl.marks_at _ _ _ ham.2.1]
            have n1 := (HBv.out.cell (p := ⟨p1, o1 + j, none⟩) (by show p1 < W2.heap.size; omega)).trans m1
            have haq : a < q1 := ham.2.1
            have ham1 : a < m := ham.1
            clear hcl1 hcl2 hp1 hp2 hat hae HA1 HA2 HA3 ham
            generalize tgP (hxA xs) xs k j = Z1 at *
            generalize tgP (hxB xs) xs k j = Z2 at *
            generalize tgP (hxC xs) xs k j = Z3 at *
            have hq1b : q1 ≤ 4 := by have := Hq1.out; omega
            obtain ⟨r, hr⟩ : ∃ r : Nat, (r : Int) = (q1 : Int) - 1 := ⟨q, by have := Hq1.out; omega⟩
            have hq1i : IntKind.i64.wrap ((q1 : Int) - 1) = (r : Int) := by rw [hr]; exact IntWalk.i64_in _ (by omega)
            have hri : r < q1 := by omega
            by_cases hjr : j ≤ r
            · obtain rfl : a = j := by omega
              have hjri : ¬ ((r : Int) < (a : Int)) := by omega
              have hjrn : ¬ (r < a) := by omega
              clear hamin hr
              go_wp2_with fail
              refine (HN1.out _).mono ?_
              rintro e w' ⟨rfl, rfl⟩
              go_wp2_with (at_builtin; refine wp_app3 rfl _ _ rfl W2.heap.size _ _ _ Z1 Z2 Z3 (2 * (t + (a : Int)) + 1) HT.out rfl rfl hszv (by omega) ?_; intro x1 w5 t5 b5; have HT5 := hid t5.rot; have HB5 := hid (HBv.out.trans b5); have hs5 := HB5.out.size; have m5 := (HB5.out.cell (p := ⟨p1, o1 + a, none⟩) (by show p1 < W2.heap.size; omega)).trans m2; clear t5 b5)
              refine (HN2.out _).mono ?_
              rintro e w' ⟨rfl, rfl⟩
              go_wp2_with (at_builtin; refine wp_app3 rfl _ _ rfl W2.heap.size _ _ _ Z2 Z3 (Z1 ++ [2 * (t + (a : Int)) + 1]) (2 * (t + (a : Int)) + 1) HT5.out rfl rfl hs5 (by omega) ?_; intro x2 w6 t6 b6; have HT6 := hid t6.rot; have HB6 := hid (HB5.out.trans b6); have hs6 := HB6.out.size; have m6 := (HB6.out.cell (p := ⟨p2, o2 + a, none⟩) (by show p2 < W2.heap.size; omega)).trans m3; clear t6 b6)
              refine (HN3.out _).mono ?_
              rintro e w' ⟨rfl, rfl⟩
              go_wp2_with (at_builtin; refine wp_app3 rfl _ _ rfl W2.heap.size _ _ _ Z3 (Z1 ++ [2 * (t + (a : Int)) + 1]) (Z2 ++ [2 * (t + (a : Int)) + 1]) (2 * (t2 + (a : Int)) + 1) HT6.out rfl rfl hs6 (by omega) ?_; intro x3 w7 t7 b7; have HT7 := hid t7.rot; have HB7 := hid (HB6.out.trans b7); clear t7 b7)
              go_roundw
              case rel => exact ⟨a + 1, _, _, _, by omega, rfl, rfl, rfl, by go_num, by rw [HX1.out, HX2.out, HX3.out]; exact HT7.out, HB7.out⟩
              case measure => simp [intOf]; omega
            · obtain rfl : a = r := by omega
              have hjri : (a : Int) < (j : Int) := by omega
              have hjrn : a < j := by omega
              clear hamin hr
              go_wp2_with fail
              refine (HN1.out _).mono ?_
              rintro e w' ⟨rfl, rfl⟩
              go_wp2_with (at_builtin; refine wp_app3 rfl _ _ rfl W2.heap.size _ _ _ Z1 Z2 Z3 (2 * (t + (j : Int)) + 1) HT.out rfl rfl hszv (by omega) ?_; intro x1 w5 t5 b5; have HT5 := hid t5.rot; have HB5 := hid (HBv.out.trans b5); have hs5 := HB5.out.size; have m5 := (HB5.out.cell (p := ⟨p1, o1 + a, none⟩) (by show p1 < W2.heap.size; omega)).trans m2; clear t5 b5)
              refine (HN2.out _).mono ?_
              rintro e w' ⟨rfl, rfl⟩
              go_wp2_with (at_builtin; refine wp_app3 rfl _ _ rfl W2.heap.size _ _ _ Z2 Z3 (Z1 ++ [2 * (t + (j : Int)) + 1]) (2 * (t + (a : Int)) + 1) HT5.out rfl rfl hs5 (by omega) ?_; intro x2 w6 t6 b6; have HT6 := hid t6.rot; have HB6 := hid (HB5.out.trans b6); have hs6 := HB6.out.size; have m6 := (HB6.out.cell (p := ⟨p2, o2 + a, none⟩) (by show p2 < W2.heap.size; omega)).trans m3; clear t6 b6)
              refine (HN3.out _).mono ?_
              rintro e w' ⟨rfl, rfl⟩
              go_wp2_with (at_builtin; refine wp_app3 rfl _ _ rfl W2.heap.size _ _ _ Z3 (Z1 ++ [2 * (t + (j : Int)) + 1]) (Z2 ++ [2 * (t + (a : Int)) + 1]) (2 * (t2 + (a : Int)) + 1) HT6.out rfl rfl hs6 (by omega) ?_; intro x3 w7 t7 b7; have HT7 := hid t7.rot; have HB7 := hid (HB6.out.trans b7); clear t7 b7)
              go_roundw
              case rel => exact ⟨j + 1, _, _, _, by omega, rfl, rfl, rfl, by go_num, by rw [HX1.out, HX2.out, HX3.out]; exact HT7.out, HB7.out⟩
              case measure => simp [intOf]; omega
          · obtain rfl : j = m := by omega
            have HTe : Hid (T wr W2.heap.size u8 u9 u10 (tgT (hxA xs) xs (k + 1)) (tgT (hxB xs) xs (k + 1)) (tgT (hxC xs) xs (k + 1))) := hid (by have h := HT.out; rw [← HS.out.wid, tgP_full, tgP_full, tgP_full] at h; exact h)
            go_wp2
            go_roundw
            case rel => exact ⟨k + 1, _, _, _, by omega, rfl, rfl, rfl, by go_num, HTe.out, HBv.out⟩
            case measure => simp [intOf]; omega
      · obtain rfl : k = n := by omega
        go_wp2
        refine bodyPost_ret (v := .tuple #[u8, u9, u10, .int .i64 0]) (by simp [results, Tryd.results16, go_sem]) rfl ⟨_, _, _, rfl, (HO.out.low (by omega)).out (by omega), (B1.out.trans (HBX.out.mono hz1)).trans (HBr.out.mono (by omega))⟩
  · have HL := hid (layNo d c xs v B _ hai hBi hq hTi h0)
    have HW : Hid (∀ h, rtW h d c xs = []) := hid (fun h => by rw [rtW, if_neg h0])
    rw [HW.out, HW.out, HW.out]
    clear hai hTi h0 HW ha hT b0 hq
    generalize laC d c xs = cd at *
    obtain ⟨n, hn⟩ : ∃ n, n = xs.length := ⟨_, rfl⟩
    rw [← hn] at hv
    clear hn
    subst hv
    simp only [zLaid] at HL
    go_enter Tryd.func16, Tryd.ntmps16
    go_wp2_with fail
    refine HL.out.mono ?_
    rintro e w1 ⟨rfl, b1⟩
    have B1 := hid (HB.out.trans (b1.mono HB.out.size))
    have HB2 := hid (B1.out.alloc B1.out.size (.cells #[.int .i64 0, .int .i64 0, .slice none 0 0, .slice none 0 0, .slice none 0 0] 69))
    clear b1
    go_wp2
    refine wp_loop_rounds 1 ?_
    rw [rounds_succ]
    go_wp2
    refine bodyPost_ret (v := .tuple #[.slice none 0 0, .slice none 0 0, .slice none 0 0, .int .i64 cd]) (by simp [results, Tryd.results16, go_sem]) rfl ⟨_, _, _, rfl, (T.nil _ _).out HB2.out.size, HB2.out⟩
end Go.Proofs.YtbbnheiibkcgiaaDoor.la
