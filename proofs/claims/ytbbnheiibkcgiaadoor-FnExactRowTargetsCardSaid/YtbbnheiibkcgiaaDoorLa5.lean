/-
  NewColumns of both sides.
-/
import Derived.Test.YtbbnheiibkcgiaaDoorLam
namespace Go.Proofs.YtbbnheiibkcgiaaDoor.la
open Go.RowKit Go.Proofs.YtbbnheiibkcgiaaDoor.sl Go.Proofs.YtbbnheiibkcgiaaDoor.pm Go.Proofs.YtbbnheiibkcgiaaDoor.br Go.Proofs.YtbbnheiibkcgiaaDoor.bw Go.Proofs.YtbbnheiibkcgiaaDoor.st Go.Proofs.YtbbnheiibkcgiaaDoor.wk Go.Proofs.YtbbnheiibkcgiaaDoor.rl
set_option linter.unusedVariables false
set_option maxRecDepth 100000

/-- A row of rows, read. -/
theorem sr_at {w : World} {lo : Nat} {v : Value} {vals : List Value} {L : List (List Int)} (h : SR w lo v vals L) (hL : 0 < L.length) : ∃ g c, v = .slice (some ⟨g, 0, none⟩) L.length c ∧ g < w.heap.size ∧
    ∀ j, j < L.length → ∃ ya yc, w.cell? ⟨g, j, none⟩ = some (.slice ya (L.getD j []).length yc) ∧ Ints w w.heap.size (.slice ya (L.getD j []).length yc) (L.getD j []) ∧ fn.NilOk (.slice ya (L.getD j []).length yc) := by
  rcases h.row.2 with ⟨_, h0⟩ | ⟨g, c, cur, h1, h2, h3, _⟩
  · omega
  · refine ⟨g, c, h1, (Array.getElem?_eq_some_iff.1 h3).1, fun j hj => ?_⟩
    obtain ⟨Lo, Hi, he⟩ := h.els
    have o := (he j hj).1
    obtain ⟨ao, cap, hv⟩ := br.own_val o
    have hg : v.ownBlock = some g := by rw [h1]; rfl
    have h4 := h.row.cells (g := g) hg j (vals.getD j (.bool false)) (by
      have hj' : j < vals.length := by rw [h.len]; exact hj
      simp [List.getD, List.getElem?_eq_getElem hj'])
    rw [Addr.add_lit] at h4
    simp only [Nat.zero_add] at h4
    rw [hv] at h4 o
    exact ⟨ao, cap, by simpa using h4, o.ints.mono o.2.2, fn.nilok_own o⟩

/-- The columns that the first k stitches make of no column. -/
def nwL (xs : List Int) (k : Nat) : List Int := ((List.range k).map fun i => if xs.getD i 0 = 3 then sl.marks (sF md xs i) (md (xs.getD i 0)).toNat else []).flatten
theorem nwL_zero (xs : List Int) : nwL xs 0 = [] := rfl
theorem nwL_succ (xs : List Int) (k : Nat) : nwL xs (k + 1) = nwL xs k ++ (if xs.getD k 0 = 3 then sl.marks (sF md xs k) (md (xs.getD k 0)).toNat else []) := by simp [nwL, List.range_succ]
theorem nwL_yes {xs : List Int} {k : Nat} (h : xs.getD k 0 = 3) (n : Nat) (hk : k < n) : nwL xs (k + 1) = nwL xs k ++ (numL md xs n).getD k [] := by rw [nwL_succ, if_pos h, numL_at md xs n k hk]
theorem nwL_no {xs : List Int} {k : Nat} (h : ¬ xs.getD k 0 = 3) : nwL xs (k + 1) = nwL xs k := by rw [nwL_succ, if_neg h, List.append_nil]
theorem nwL_len {xs : List Int} (hx : ∀ j, j < xs.length → md (xs.getD j 0) ≤ 4) : ∀ k, k ≤ xs.length → (nwL xs k).length ≤ 4 * k := by
  intro k
  induction k with
  | zero => intro _; simp [nwL_zero]
  | succ k ih =>
    intro hk
    have h1 := ih (by omega)
    have h2 := hx k (by omega)
    rw [nwL_succ, List.length_append]
    split
    · rw [sl.marks_len]; omega
    · simp; omega
def nwW (d c : Int) (xs : List Int) : List Int := if laC d c xs = 0 then nwL xs xs.length else []
theorem nwW_len (d c : Int) (xs : List Int) : (nwW d c xs).length ≤ 20000 := by
  unfold nwW
  split
  · rename_i h0
    have hl := lst_parts (row_lst (la_row h0))
    have := nwL_len (xs := xs) (fun j hj => (md_bound (hl.2 j hj)).2) xs.length (Nat.le_refl _)
    omega
  · simp

set_option maxHeartbeats 4000000 in
theorem implNw (d c : Int) (xs : List Int) (v : Value) (B : Nat) (w : World) (ha : Ints w B v xs) (hB : B ≤ w.heap.size) (hq : l5.Small xs) (hT : stb.Tab w) :
    Calls Tryd.prog 30 #[.agg #[.int .i64 d, .int .i64 c, v]] w fun e w' => ∃ v', e = .returned (.tuple #[v', .int .i64 (laC d c xs)]) ∧ sl.Own w' w.heap.size w'.heap.size v' (nwW d c xs) ∧ Below w.heap.size w w' := by
  have b0 := (Below.refl w.heap.size w).alloc (Nat.le_refl _) (.cells #[.int .i64 d, .int .i64 c, v] 40)
  have HB := hid b0
  have hai := ha.chg (Chg.ofBelow (lo := 0) b0) (.inr (Nat.zero_le _))
  have hBi := Nat.le_trans hB b0.size
  have hTi := stb.carry hT b0
  by_cases h0 : laC d c xs = 0
  · have HL := hid (layYes d c xs v B _ hai hBi hq hTi h0)
    have hW : nwW d c xs = nwL xs xs.length := by rw [nwW, if_pos h0]
    have hpos := la_pos (la_q h0)
    have hl := lst_parts (row_lst (la_row h0))
    have h16 := hl.1
    have HLen := hid (fun k hk => nwL_len (xs := xs) (fun j hj => (md_bound (hl.2 j hj)).2) k hk)
    have HYes := hid (fun (k : Nat) (hk : k < xs.length) h => nwL_yes (xs := xs) (k := k) h xs.length hk)
    have HNo := hid (fun (k : Nat) h => nwL_no (xs := xs) (k := k) h)
    have hnl := numL_len md xs xs.length
    rcases ha with ⟨rfl, ao, cap, rfl⟩ | ⟨hp, b, off, cap, rfl, hbb, hc⟩
    · simp at hpos
    · obtain ⟨n, hn⟩ : ∃ n, n = xs.length := ⟨_, rfl⟩
      rw [hW, h0]
      have HC := hid hc
      clear hai hTi h0 hT b0 hq hW hl hpos hc
      generalize numL tk xs xs.length = L1 at *
      generalize numL md xs xs.length = L2 at *
      rw [← hn] at hp HL HLen HYes HC h16 hnl HB ⊢
      have HN := hid hn
      clear hn
      go_enter Tryd.func30, Tryd.ntmps30
      go_wp2_with fail
      refine HL.out.mono ?_
      rintro e w1 ⟨v1, vals1, v2, vals2, rfl, s1, s2, b1⟩
      obtain ⟨a1, c1, hv1⟩ := s1.val
      obtain ⟨g, c2, hv2, hg, hrow⟩ := sr_at s2 (by omega)
      have B1 := hid (HB.out.trans (b1.mono HB.out.size))
      have hz1 := B1.out.size
      have HRow := hid hrow
      obtain ⟨n1, hn1⟩ : ∃ n1, n1 = L1.length := ⟨_, rfl⟩
      rw [← hn1] at hv1
      rw [hnl] at hv2 HRow
      clear s1 s2 b1 hn1 hrow
      subst hv1 hv2
      have bX := (Below.refl w1.heap.size w1).alloc (Nat.le_refl _) (.cells #[.int .i64 d, .int .i64 c, .slice (some ⟨b, off, none⟩) n cap, .slice a1 n1 c1, .slice (some ⟨g, 0, none⟩) n c2] 69)
      have x2 : (w1.alloc (.cells #[.int .i64 d, .int .i64 c, .slice (some ⟨b, off, none⟩) n cap, .slice a1 n1 c1, .slice (some ⟨g, 0, none⟩) n c2] 69)).cell? ⟨w1.heap.size, 2, none⟩ = some (.slice (some ⟨b, off, none⟩) n cap) := World.cell?_alloc_at _ _ _ _ rfl
      have x4 : (w1.alloc (.cells #[.int .i64 d, .int .i64 c, .slice (some ⟨b, off, none⟩) n cap, .slice a1 n1 c1, .slice (some ⟨g, 0, none⟩) n c2] 69)).cell? ⟨w1.heap.size, 4, none⟩ = some (.slice (some ⟨g, 0, none⟩) n c2) := World.cell?_alloc_at _ _ _ _ rfl
      have hsX : (w1.alloc (.cells #[.int .i64 d, .int .i64 c, .slice (some ⟨b, off, none⟩) n cap, .slice a1 n1 c1, .slice (some ⟨g, 0, none⟩) n c2] 69)).heap.size = w1.heap.size + 1 := by simp
      go_wp2_with fail
      generalize w1.alloc (.cells #[.int .i64 d, .int .i64 c, .slice (some ⟨b, off, none⟩) n cap, .slice a1 n1 c1, .slice (some ⟨g, 0, none⟩) n c2] 69) = W2 at *
      have HBX := hid bX
      have HZ := hid (Own.nil W2 W2.heap.size)
      clear bX
      go_loopw [6, 18] (fun s i wr => ∃ (k : Nat) (z : Value), k ≤ n ∧ s = z ∧ i = .int .i64 k ∧ Own wr W2.heap.size wr.heap.size z (nwL xs k) ∧ Below W2.heap.size W2 wr) (fun _ i _ => n - (intOf i).toNat)
      case atStart => exact ⟨0, _, Nat.zero_le _, rfl, rfl, HZ.out, Below.refl _ _⟩
      case round =>
        obtain ⟨k, z, hk, rfl, rfl, hown, hbel⟩ := hrel
        have HO := hid hown
        have HBr := hid hbel
        have hszr := hbel.size
        have y4 := (hbel.cell (p := ⟨w1.heap.size, 4, none⟩) (by show w1.heap.size < W2.heap.size; omega)).trans x4
        have hbw : b < w1.heap.size := by omega
        clear hown hbel
        by_cases hlt : k < n
        · have h1 : wr.cell? ⟨b, off + k, none⟩ = some (.int .i64 (xs.getD k 0)) := (HBr.out.cell (p := ⟨b, off + k, none⟩) (by show b < W2.heap.size; omega)).trans ((HBX.out.cell (p := ⟨b, off + k, none⟩) hbw).trans ((B1.out.cell (p := ⟨b, off + k, none⟩) (by show b < w.heap.size; omega)).trans (HC.out k hlt)))
          obtain ⟨ya, yc, hcg, hin, hnil⟩ := HRow.out k (by omega)
          have h2 := (HBr.out.cell (p := ⟨g, k, none⟩) (by show g < W2.heap.size; omega)).trans ((HBX.out.cell (p := ⟨g, k, none⟩) hg).trans hcg)
          have HIn := hid ((hin.chg (Chg.ofBelow (lo := 0) HBX.out) (.inr (Nat.zero_le _))).chg (Chg.ofBelow (lo := 0) HBr.out) (.inr (Nat.zero_le _)))
          have HNil := hid hnil
          have HL1 := hid (HLen.out (k + 1) (by omega))
          have HY1 := hid (HYes.out k hlt)
          have HN1 := hid (HNo.out k)
          clear hcg hin hnil
          generalize L2.getD k [] = ls at *
          generalize xs.getD k 0 = x at *
          by_cases h3 : x = 3
          · have hb3 : (x == 3) = true := by simpa using h3
            have HX := hid (HY1.out h3)
            have HBd : Hid ((nwL xs k).length + ls.length ≤ 1099511627776) := hid (by
              have := HL1.out
              rw [HX.out, List.length_append] at this
              omega)
            obtain ⟨r, hr⟩ : ∃ r, r = ls.length := ⟨_, rfl⟩
            rw [← hr] at h2 HIn HNil
            clear hr h3 HL1 HY1 HN1
            generalize nwL xs k = Z at *
            go_wp2_with (at_builtin; refine fn.wp_appendAll rfl _ _ rfl W2.heap.size wr.heap.size _ Z HO.out rfl _ ls _ HIn.out HNil.out rfl hszr HBd.out ?_; intro v3 w3 o3 c3; have HO3 := hid o3; have HB3 := hid (HBr.out.trans (c3.below (Nat.le_refl _) hszr)); clear o3 c3)
            go_roundw
            case rel => exact ⟨k + 1, _, by omega, rfl, by go_num, by rw [HX.out]; exact HO3.out, HB3.out⟩
            case measure => simp [intOf]; omega
          · have hb3 : (x == 3) = false := by simpa using h3
            have HX := hid (HN1.out h3)
            clear h3 HL1 HY1 HN1
            go_wp2
            go_roundw
            case rel => exact ⟨k + 1, _, by omega, rfl, by go_num, by rw [HX.out]; exact HO.out, HBr.out⟩
            case measure => simp [intOf]; omega
        · obtain rfl : k = n := by omega
          go_wp2
          go_ret2
          exact ⟨_, rfl, HO.out.lo (by omega), (B1.out.trans (HBX.out.mono hz1)).trans (HBr.out.mono (by omega))⟩
  · have HL := hid (layNo d c xs v B _ hai hBi hq hTi h0)
    have HW : Hid (nwW d c xs = []) := hid (by rw [nwW, if_neg h0])
    rw [HW.out]
    obtain ⟨ao, cap, hv⟩ := ints_val ha
    clear hai hTi h0 HW ha hT b0 hq
    generalize laC d c xs = cd at *
    obtain ⟨n, hn⟩ : ∃ n, n = xs.length := ⟨_, rfl⟩
    rw [← hn] at hv
    clear hn
    subst hv
    simp only [zLaid] at HL
    go_enter Tryd.func30, Tryd.ntmps30
    go_wp2_with fail
    refine HL.out.mono ?_
    rintro e w1 ⟨rfl, b1⟩
    have B1 := hid (HB.out.trans (b1.mono HB.out.size))
    have HB2 := hid (B1.out.alloc B1.out.size (.cells #[.int .i64 0, .int .i64 0, .slice none 0 0, .slice none 0 0, .slice none 0 0] 69))
    clear b1
    go_wp2
    refine wp_loop_rounds 1 ?_
    rw [rounds_succ]
    go_wp2
    go_ret2
    exact ⟨.slice none 0 0, rfl, Own.nil _ _, HB2.out⟩

set_option maxHeartbeats 4000000 in
theorem specNw (d c : Int) (xs : List Int) (v : Value) (B : Nat) (w : World) (ha : Ints w B v xs) (hB : B ≤ w.heap.size) (hq : l5.Small xs) :
    Calls Tryd.prog 29 #[.agg #[.int .i64 d, .int .i64 c, v]] w fun e w' => ∃ v', e = .returned (.tuple #[v', .int .i64 (laC d c xs)]) ∧ sl.Own w' w.heap.size w'.heap.size v' (nwW d c xs) ∧ Below w.heap.size w w' := by
  have hb0 := (Below.refl w.heap.size w).alloc (Nat.le_refl _) (.cells #[.int .i64 d, .int .i64 c, v] 40)
  have hal := hid hb0
  have HA := hid (ints_al ha (.cells #[.int .i64 d, .int .i64 c, v] 40))
  have HI := hid (specLay d c xs v B w.heap.size (w.alloc (.cells #[.int .i64 d, .int .i64 c, v] 40)) ⟨by simp, World.cell?_alloc_at _ _ _ _ rfl, World.cell?_alloc_at _ _ _ _ rfl, World.cell?_alloc_at _ _ _ _ rfl⟩ HA.out (by simp; omega) hq)
  have k2 : (w.alloc (.cells #[.int .i64 d, .int .i64 c, v] 40)).cell? ⟨w.heap.size, 2, none⟩ = some v := World.cell?_alloc_at _ _ _ _ rfl
  clear hb0
  by_cases h0 : laC d c xs = 0
  · have hrow := la_row h0
    have hpos := la_pos (la_q h0)
    have hl := lst_parts (row_lst (la_row h0))
    have h16 := hl.1
    have HL := hid (fun W (c2 : W.cell? ⟨w.heap.size, 2, none⟩ = some v) (hl : w.heap.size < W.heap.size) (h : Ints W B v xs) (hb : B ≤ W.heap.size) => specRes xs v B w.heap.size W c2 hl h hb hpos (row_lst hrow))
    have hW : nwW d c xs = nwL xs xs.length := by rw [nwW, if_pos h0]
    have HLen := hid (fun k hk => nwL_len (xs := xs) (fun j hj => (md_bound (hl.2 j hj)).2) k hk)
    have HYes := hid (fun (k : Nat) (hk : k < xs.length) h => nwL_yes (xs := xs) (k := k) h xs.length hk)
    have HNo := hid (fun (k : Nat) h => nwL_no (xs := xs) (k := k) h)
    have hnl := numL_len md xs xs.length
    rw [h0] at HI
    rw [hW, h0]
    rcases ha with ⟨rfl, ao, cap, rfl⟩ | ⟨hp, b, off, cap, rfl, hbb, hc⟩
    · simp at hpos
    · obtain ⟨n, hn⟩ : ∃ n, n = xs.length := ⟨_, rfl⟩
      have HC := hid hc
      clear h0 hrow hpos hq hW hl hc
      generalize numL md xs xs.length = L2 at *
      rw [← hn] at hp HL HLen HYes HC h16 hnl hal HA HI k2 ⊢
      have HN := hid hn
      clear hn
      go_enter Tryd.func29, Tryd.ntmps29
      go_wp2_with fail
      refine HI.out.mono ?_
      rintro e w1 ⟨rfl, b1⟩
      have B1 := hid (hal.out.trans (b1.mono hal.out.size))
      have j2 := (b1.cell (p := ⟨w.heap.size, 2, none⟩) (by simp)).trans k2
      have HA1 := hid (HA.out.chg (Chg.ofBelow (lo := 0) b1) (.inr (Nat.zero_le _)))
      have hs1 := B1.out.size
      have hlt1 : w.heap.size < w1.heap.size := by have := b1.size; simp at this; omega
      clear b1 k2
      go_wp2_with fail
      refine (HL.out _ j2 hlt1 HA1.out (by omega)).mono ?_
      rintro e w2 ⟨v2, vals2, rfl, s2, b2⟩
      obtain ⟨g, c2, hv2, hg, hrow⟩ := sr_at s2 (by omega)
      have B2 := hid (B1.out.trans (b2.mono hs1))
      have hz2 := B2.out.size
      have x2 := (b2.cell (p := ⟨w.heap.size, 2, none⟩) hlt1).trans j2
      have hlt2 : w.heap.size < w2.heap.size := Nat.lt_of_lt_of_le hlt1 b2.size
      have HRow := hid hrow
      rw [hnl] at hv2 HRow
      clear s2 b2 hrow j2
      subst hv2
      have HZ := hid (Own.built w2 #[] rfl)
      have HZB := hid ((Below.refl w2.heap.size w2).alloc (Nat.le_refl _) (.cells #[] 2))
      go_wp2
      go_loopw [6, 7] (fun s i wr => ∃ (k : Nat) (z : Value), k ≤ n ∧ s = z ∧ i = .int .i64 k ∧ Own wr w2.heap.size wr.heap.size z (nwL xs k) ∧ Below w2.heap.size w2 wr) (fun _ i _ => n - (intOf i).toNat)
      case atStart => exact ⟨0, _, Nat.zero_le _, rfl, rfl, HZ.out, HZB.out⟩
      case round =>
        obtain ⟨k, z, hk, rfl, rfl, hown, hbel⟩ := hrel
        have HO := hid hown
        have HBr := hid hbel
        have hszr := hbel.size
        have y2 := (hbel.cell (p := ⟨w.heap.size, 2, none⟩) hlt2).trans x2
        have hbw : b < w2.heap.size := by omega
        clear hown hbel HZ HZB
        by_cases hlt : k < n
        · have h1 : wr.cell? ⟨b, off + k, none⟩ = some (.int .i64 (xs.getD k 0)) := (HBr.out.cell (p := ⟨b, off + k, none⟩) hbw).trans ((B2.out.cell (p := ⟨b, off + k, none⟩) (by show b < w.heap.size; omega)).trans (HC.out k hlt))
          obtain ⟨ya, yc, hcg, hin, hnil⟩ := HRow.out k (by omega)
          have h2 := (HBr.out.cell (p := ⟨g, k, none⟩) hg).trans hcg
          have HIn := hid (hin.chg (Chg.ofBelow (lo := 0) HBr.out) (.inr (Nat.zero_le _)))
          have HNil := hid hnil
          have HL1 := hid (HLen.out (k + 1) (by omega))
          have HY1 := hid (HYes.out k hlt)
          have HN1 := hid (HNo.out k)
          clear hcg hin hnil
          generalize L2.getD k [] = ls at *
          generalize xs.getD k 0 = x at *
          by_cases h3 : x = 3
          · have hb3 : (x == 3) = true := by simpa using h3
            have HX := hid (HY1.out h3)
            have HBd : Hid ((nwL xs k).length + ls.length ≤ 1099511627776) := hid (by
              have := HL1.out
              rw [HX.out, List.length_append] at this
              omega)
            obtain ⟨r, hr⟩ : ∃ r, r = ls.length := ⟨_, rfl⟩
            rw [← hr] at h2 HIn HNil
            clear hr h3 HL1 HY1 HN1
            generalize nwL xs k = Z at *
            go_wp2_with (at_builtin; refine fn.wp_appendAll rfl _ _ rfl w2.heap.size wr.heap.size _ Z HO.out rfl _ ls _ HIn.out HNil.out rfl hszr HBd.out ?_; intro v3 w3 o3 c3; have HO3 := hid o3; have HB3 := hid (HBr.out.trans (c3.below (Nat.le_refl _) hszr)); clear o3 c3)
            go_roundw
            case rel => exact ⟨k + 1, _, by omega, rfl, by go_num, by rw [HX.out]; exact HO3.out, HB3.out⟩
            case measure => simp [intOf]; omega
          · have hb3 : (x == 3) = false := by simpa using h3
            have HX := hid (HN1.out h3)
            clear h3 HL1 HY1 HN1
            go_wp2
            go_roundw
            case rel => exact ⟨k + 1, _, by omega, rfl, by go_num, by rw [HX.out]; exact HO.out, HBr.out⟩
            case measure => simp [intOf]; omega
        · obtain rfl : k = n := by omega
          go_wp2
          go_ret2
          exact ⟨_, rfl, HO.out.lo (by omega), B2.out.trans (HBr.out.mono hz2)⟩
  · have HW : Hid (nwW d c xs = []) := hid (by rw [nwW, if_neg h0])
    have hd : (laC d c xs != 0) = true := by simpa using h0
    obtain ⟨ao, cap, hv⟩ := ints_val ha
    rw [HW.out]
    clear h0 hq HW ha
    generalize laC d c xs = cd at *
    obtain ⟨n, hn⟩ : ∃ n, n = xs.length := ⟨_, rfl⟩
    rw [← hn] at hv
    clear hn
    subst hv
    go_enter Tryd.func29, Tryd.ntmps29
    go_wp2_with fail
    refine HI.out.mono ?_
    rintro e w1 ⟨rfl, b1⟩
    have B1 := hid (hal.out.trans (b1.mono hal.out.size))
    clear b1
    go_wp2
    go_ret2
    exact ⟨.slice none 0 0, rfl, Own.nil _ _, B1.out⟩
end Go.Proofs.YtbbnheiibkcgiaaDoor.la
