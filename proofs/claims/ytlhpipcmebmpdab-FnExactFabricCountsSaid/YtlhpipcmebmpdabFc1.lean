/-
  FabricCounts of the model.
-/
import Derived.Test.YtlhpipcmebmpdabFc0
import Derived.Deep.RegionHeld3
namespace Go.Proofs.Ytlhpipcmebmpdab.mc
open Go.RowKit Go.Sort Go.Maps Go.Proofs.Ytlhpipcmebmpdab.sl Go.Proofs.Ytlhpipcmebmpdab.br Go.Proofs.Ytlhpipcmebmpdab.fn Go.Proofs.Ytlhpipcmebmpdab.ss Go.Proofs.Ytlhpipcmebmpdab.fb
set_option linter.unusedVariables false
set_option linter.unusedSimpArgs false

def kk (j : Nat) : Int := if j = 0 then 1 else if j = 1 then 2 else 5
theorem kindsC (W : World) : Calls Try.prog 51 #[] W fun e w' => e = .returned (.slice (some ⟨W.heap.size, 0, none⟩) 3 3) ∧ (∀ j, j < 3 → w'.cell? ⟨W.heap.size, j, none⟩ = some (.int .i64 (kk j))) ∧ Below W.heap.size W w' := by
  go_enter Try.func51, Try.ntmps51
  go_wp2
  go_ret
  refine ⟨rfl, fun j hj => ?_, (Below.refl _ _).alloc (Nat.le_refl _) _⟩
  rw [World.cell?_alloc_at _ _ _ _ rfl]
  match j, hj with
  | 0, _ => rfl
  | 1, _ => rfl
  | 2, _ => rfl
/-- In the middle of the kinds. -/
def fcJ (a p : Int) (m : Mch) (k j : Nat) : List Int := [cntI (kdF m) (if 0 < j then k + 1 else k) 1, cntI (kdF m) (if 1 < j then k + 1 else k) 2, cntI (kdF m) (if 2 < j then k + 1 else k) 5, cntI (stF a p m) k 1, cntI (stF a p m) k 2, cntI (stF a p m) k 3, cntI (stF a p m) k 4]
theorem fcJ_zero (a p : Int) (m : Mch) (k : Nat) : fcJ a p m k 0 = fcL a p m k := rfl
theorem fcJ_at (a p : Int) (m : Mch) (k j : Nat) (hj : j < 3) : (fcJ a p m k j).getD j 0 = cntI (kdF m) k (kk j) := by
  match j, hj with
  | 0, _ => rfl
  | 1, _ => rfl
  | 2, _ => rfl
theorem fcJ_yes (a p : Int) (m : Mch) (k j : Nat) (hj : j < 3) (h : kdF m k = kk j) : (fcJ a p m k j).set j (cntI (kdF m) k (kk j) + 1) = fcJ a p m k (j + 1) := by
  have e : cntI (kdF m) (k + 1) (kk j) = cntI (kdF m) k (kk j) + 1 := by rw [cntI_succ, if_pos h]
  rw [← e]
  match j, hj with
  | 0, _ => rfl
  | 1, _ => rfl
  | 2, _ => rfl
theorem fcJ_no (a p : Int) (m : Mch) (k j : Nat) (hj : j < 3) (h : ¬ kdF m k = kk j) : fcJ a p m k j = fcJ a p m k (j + 1) := by
  have e : cntI (kdF m) (k + 1) (kk j) = cntI (kdF m) k (kk j) := by rw [cntI_succ, if_neg h]; omega
  match j, hj with
  | 0, _ => simp only [fcJ]; rw [show kk 0 = 1 from rfl] at e; simp [e]
  | 1, _ => simp only [fcJ]; rw [show kk 1 = 2 from rfl] at e; simp [e]
  | 2, _ => simp only [fcJ]; rw [show kk 2 = 5 from rfl] at e; simp [e]
theorem fcJ_len (a p : Int) (m : Mch) (k j : Nat) : (fcJ a p m k j).length = 7 := rfl
theorem fcJ_st (a p : Int) (m : Mch) (k s : Nat) (hs : 1 ≤ s ∧ s ≤ 4) : (fcJ a p m k 3).getD (2 + s) 0 = cntI (stF a p m) k (s : Int) := by
  obtain ⟨h1, h2⟩ := hs
  match s, h1, h2 with
  | 1, _, _ => rfl
  | 2, _, _ => rfl
  | 3, _, _ => rfl
  | 4, _, _ => rfl
theorem fcJ_end (a p : Int) (m : Mch) (k s : Nat) (hs : 1 ≤ s ∧ s ≤ 4) (h : stF a p m k = (s : Int)) : (fcJ a p m k 3).set (2 + s) (cntI (stF a p m) k (s : Int) + 1) = fcL a p m (k + 1) := by
  have e : ∀ y : Int, cntI (stF a p m) (k + 1) y = cntI (stF a p m) k y + if (s : Int) = y then 1 else 0 := fun y => by rw [cntI_succ, h]
  obtain ⟨h1, h2⟩ := hs
  unfold fcL
  rw [e 1, e 2, e 3, e 4]
  match s, h1, h2 with
  | 1, _, _ => simp [fcJ]
  | 2, _, _ => simp [fcJ]
  | 3, _, _ => simp [fcJ]
  | 4, _, _ => simp [fcJ]

set_option maxRecDepth 100000 in
set_option maxHeartbeats 8000000 in
theorem specFc (a p : Int) (m : Mch) (f0 f1 f2 f3 f4 : Value) (B : Nat) (w : World) (ha : MInC w B f0 f1 f2 f3 f4 m) (hB : B ≤ w.heap.size) (hq : Small m) :
    Calls Try.prog 19 #[.agg #[.int .i64 a, .int .i64 p, f0, f1, f2, f3, f4]] w fun e w' => ∃ v', e = .returned (.tuple #[v', .int .i64 (fcC a p m)]) ∧ sl.Own w' w.heap.size w'.heap.size v' (fcW a p m) ∧ Below w.heap.size w w' := by
  obtain ⟨i0, hi, hz0, hz1, hz2⟩ := info_parts info64
  have HV := hid (fun W (h : Below w.heap.size w W) (hx : Bx w W w.heap.size a p f0 f1 f2 f3 f4) => specOkC a p m f0 f1 f2 f3 f4 B w.heap.size w W (ha.below h) hq hx)
  have HInf := hid (fun (X : World) (h : Below w.heap.size w X) => (ha.below h).rd.h3)
  have HLs := hid (fun h : okM a p m = true => ls_len (okM_parts h))
  have HStt := hid (fun (h : okM a p m = true) (k : Nat) W (hb : Below w.heap.size w W) (hx : Bx w W w.heap.size a p f0 f1 f2 f3 f4) => specSt a p (k : Int) m f0 f1 f2 f3 f4 B w.heap.size w W (ha.below hb) (Nat.le_trans hB hb.size) hq (okM_parts h) hx)
  obtain ⟨u, hu⟩ : ∃ u, u = okM a p m := ⟨_, rfl⟩
  obtain ⟨xs, hxs⟩ : ∃ xs, xs = fcW a p m := ⟨_, rfl⟩
  obtain ⟨d, hd⟩ : ∃ d, d = fcC a p m := ⟨_, rfl⟩
  rw [← hxs, ← hd]
  unfold fcW at hxs
  unfold fcC at hd
  rw [← hu] at hxs hd
  rw [← hu] at HV HLs HStt
  have HX1 := hid hxs
  have HD1 := hid hd
  have hI0 := ha.rd.h3
  obtain ⟨⟨a0, k0, rfl⟩, ⟨a1, k1, rfl⟩, ⟨a2, k2, rfl⟩, ⟨a3, k3, rfl⟩, ⟨a4, k4, rfl⟩⟩ := ha.vals
  have hcase : m.ls.length = 0 ∨ (0 < m.ls.length ∧ ∃ g off, a3 = some ⟨g, off, none⟩ ∧ g < w.heap.size ∧ ∀ j, j < m.ls.length → w.cell? ⟨g, off + j * 6, none⟩ = some (.int .i64 (kdF m j))) := by
    rcases hI0 with ⟨hnil, _⟩ | ⟨hp, g, off, cap, F, hv, hg, hc⟩
    · left; rw [hnil]; rfl
    · simp only [Value.slice.injEq, true_and] at hv
      exact .inr ⟨hp, g, off, hv.1, by omega, fun j hj => (hc j hj).1.c0⟩
  clear ha hq hxs hd hu hI0
  generalize m.fr.length = n0 at *
  generalize m.bk.length = n1 at *
  generalize m.cs.length = n2 at *
  obtain ⟨n3, hn3⟩ : ∃ n, n = m.ls.length := ⟨_, rfl⟩
  have HN3 := hid hn3
  rw [← hn3] at HV HInf HLs hcase HStt ⊢
  generalize m.dr.length = n4 at *
  have HX := hid (bx_new w 34 a p (.slice a0 n0 k0) (.slice a1 n1 k1) (.slice a2 n2 k2) (.slice a3 n3 k3) (.slice a4 n4 k4))
  clear hn3
  have HCase := hid hcase
  clear hcase
  go_enter Try.func19, Try.ntmps19
  go_wp2_with fail
  generalize (w.alloc (.cells #[.int .i64 a, .int .i64 p, .slice a0 n0 k0, .slice a1 n1 k1, .slice a2 n2 k2, .slice a3 n3 k3, .slice a4 n4 k4] 34)) = W1 at *
  refine (HV.out W1 HX.out.b0 HX.out).mono ?_
  rintro e W2 ⟨rfl, b2⟩
  have HX2 := hid (HX.out.below b2)
  clear b2 HX HV
  cases u with
  | false =>
    obtain rfl : xs = [] := HX1.out
    obtain rfl : d = 1 := HD1.out
    go_wp2
    go_ret2
    exact ⟨_, rfl, Own.nil W2 w.heap.size, HX2.out.b0⟩
  | true =>
    obtain rfl : d = 0 := HD1.out
    obtain rfl : xs = fcL a p m m.ls.length := HX1.out
    have hl3 := HLs.out rfl
    have HSt2 := hid (HStt.out rfl)
    have hzw : w.heap.size ≤ W2.heap.size := HX2.out.b0.size
    clear HX1 HD1 HLs HStt
    go_wp2_with (at_make; refine wpList_make_full _ rfl _ _ 25 rfl W2.heap.size 2 i0 (.int .i64 0) 1 Try.underlying25 hi hz0 hz1 .i64 .i64 _ _ 7 rfl rfl (by rfl) (by rfl) (by rw [hz2]; omega) (by unfold maxLen; omega) (Nat.le_refl _) ?_; intro w1 hown1 hgrow1; have HO1 := hid (made_own hown1); have HB1 : Hid (Below W2.heap.size W2 w1) := hid ((Below.refl _ _).grown hgrow1 (Nat.le_refl _) (fun k hk => by cases hk)); clear hown1 hgrow1)
    go_loopw [5] (fun i wr => ∃ k : Nat, k ≤ n3 ∧ i = .int .i64 k ∧ sl.Own wr W2.heap.size wr.heap.size (.slice (some ⟨W2.heap.size, 0, none⟩) 7 7) (fcL a p m k) ∧ Below W2.heap.size W2 wr) (fun i _ => n3 - (intOf i).toNat)
    case atStart => exact ⟨0, Nat.zero_le _, rfl, HO1.out, HB1.out⟩
    case round =>
      obtain ⟨k, hk, rfl, hown, hbel⟩ := hrel
      have HO := hid hown
      have HB := hid hbel
      clear hown hbel HO1 HB1
      have HXr := hid (HX2.out.below HB.out)
      have y5 := HXr.out.c5
      by_cases hlt : k < n3
      · rcases HCase.out with h0 | ⟨hp, g, off, rfl, hg, hcells⟩
        · omega
        have HCl := hid hcells
        have hst := st_ok a p m k
        obtain ⟨sn, hsn⟩ := Int.eq_ofNat_of_zero_le (show 0 ≤ stF a p m k by omega)
        have hsr : 1 ≤ sn ∧ sn ≤ 4 := by omega
        have HSn := hid hsn
        have HStK : Hid (∀ W (b : Below W2.heap.size W2 W), Calls Try.prog 52 #[.pointer (some ⟨w.heap.size, 0, none⟩), .int .i64 (k : Int)] W fun e w' => e = .returned (.int .i64 (sn : Int)) ∧ Below W.heap.size W w') := hid (fun W b => by
          have := HSt2.out k W (HX2.out.b0.trans (b.mono hzw)) (HX2.out.below b)
          rw [show stS a p m (k : Int) = (sn : Int) from hsn] at this
          exact this)
        clear hcells hst hsn
        go_wp2
        go_loopw [6] (fun i wv => ∃ j : Nat, j ≤ 3 ∧ i = .int .i64 j ∧ sl.Own wv W2.heap.size wv.heap.size (.slice (some ⟨W2.heap.size, 0, none⟩) 7 7) (fcJ a p m k j) ∧ Below W2.heap.size W2 wv) (fun i _ => 3 - (intOf i).toNat)
        case atStart => exact ⟨0, Nat.zero_le _, rfl, by rw [fcJ_zero]; exact HO.out, HB.out⟩
        case round =>
          obtain ⟨j, hj, rfl, hown, hbel⟩ := hrel
          have HOj := hid hown
          have HBj := hid hbel
          clear hown hbel HO HB y5 HXr
          have HXj := hid (HX2.out.below HBj.out)
          have y5 := HXj.out.c5
          have hzj := HBj.out.size
          by_cases hlj : j < 3
          · have hkd := (HBj.out.cell (p := ⟨g, off + k * 6, none⟩) (by show g < _; omega)).trans ((HX2.out.b0.cell (p := ⟨g, off + k * 6, none⟩) (by show g < _; exact hg)).trans (HCl.out k hlt))
            have hcj := (HOj.out.at' j (by rw [fcJ_len]; omega)).1
            have hfj := (HOj.out.at' j (by rw [fcJ_len]; omega)).2
            rw [fcJ_at a p m k j hlj] at hcj
            have hcb := cntI_le (kdF m) k (kk j)
            have HY := hid (fun h => fcJ_yes a p m k j hlj h)
            have HN := hid (fun h => fcJ_no a p m k j hlj h)
            have HSe := hid (fun x => (HOj.out.set j x).1)
            have hj3 : (j : Int) < 3 := by omega
            generalize hkx : kdF m k = kx at *
            generalize hcx : cntI (kdF m) k (kk j) = c at *
            obtain ⟨q, hqk⟩ : ∃ q, q = kk j := ⟨_, rfl⟩
            have HQ := hid hqk
            clear hkx hcx hqk
            have y5g := y5
            have hbj : w.heap.size < wr.heap.size := HXj.out.lt
            by_cases hkq : kx = q
            · have hq1 : (kx == q) = true := by simpa using hkq
              have HYY := hid (HY.out (by rw [hkq]; exact HQ.out))
              clear HN HY HSe y5g hkq
              go_wp2_with fail
              go_region_with (first
                  | (go_at_call 51
                     refine (kindsC wr.drew).mono ?_
                     rintro e w6 ⟨he, hc6, b6⟩
                     have he' : e = .returned (.slice (some ⟨wr.heap.size, 0, none⟩) 3 3) := he
                     subst he'
                     have hcq : w6.cell? ⟨wr.heap.size, j, none⟩ = some (.int .i64 q) := by have := hc6 j hlj; rw [HQ.out]; exact this
                     have kA : w6.cell? ⟨w.heap.size, 5, none⟩ = some (.slice (some ⟨g, off, none⟩) n3 k3) := (b6.cell (p := ⟨w.heap.size, 5, none⟩) (by show w.heap.size < wr.heap.size; omega)).trans y5
                     have kB : w6.cell? ⟨g, off + k * 6, none⟩ = some (.int .i64 kx) := (b6.cell (p := ⟨g, off + k * 6, none⟩) (by show g < wr.heap.size; omega)).trans hkd
                     have HB6 : Hid (Below W2.heap.size W2 w6) := hid (HBj.out.drew.trans (b6.mono (by show W2.heap.size ≤ wr.heap.size; omega)))
                     have HO6 : Hid (sl.Own w6 W2.heap.size w6.heap.size (.slice (some ⟨W2.heap.size, 0, none⟩) 7 7) (fcJ a p m k j)) := hid (((HOj.out.drewN 1).chg (Chg.ofBelow (lo := 0) b6) (.inr (.inr (Nat.zero_le _)))).hi (by exact b6.size) (Nat.le_refl _))
                     have hc7 := (b6.cell (p := ⟨W2.heap.size, j, none⟩) (by show W2.heap.size < wr.heap.size; have := HOj.out.2.1 W2.heap.size rfl; omega)).trans hcj
                     have hf7 := (b6.frozen (p := ⟨W2.heap.size, j, none⟩) (by show W2.heap.size < wr.heap.size; have := HOj.out.2.1 W2.heap.size rfl; omega)).trans hfj
                     clear b6 hc6 he))
              all_goals (try go_wp2)
              all_goals
                have HSe6 := hid (HO6.out.set j (c + 1)).1
                go_roundw
                case rel => exact ⟨j + 1, by omega, by go_num, by have := HSe6.out; rw [HYY.out] at this; simpa using this, HB6.out.setCell (by simp) _⟩
                case measure => simp [intOf]; omega
            · have hq1 : (kx == q) = false := by simpa using hkq
              have HNN := hid (HN.out (fun h => hkq (by rw [h]; exact HQ.out.symm)))
              clear HN HY HSe y5g hkq
              go_wp2_with fail
              go_region_with (first
                  | (go_at_call 51
                     refine (kindsC wr.drew).mono ?_
                     rintro e w6 ⟨he, hc6, b6⟩
                     have he' : e = .returned (.slice (some ⟨wr.heap.size, 0, none⟩) 3 3) := he
                     subst he'
                     have hcq : w6.cell? ⟨wr.heap.size, j, none⟩ = some (.int .i64 q) := by have := hc6 j hlj; rw [HQ.out]; exact this
                     have kA : w6.cell? ⟨w.heap.size, 5, none⟩ = some (.slice (some ⟨g, off, none⟩) n3 k3) := (b6.cell (p := ⟨w.heap.size, 5, none⟩) (by show w.heap.size < wr.heap.size; omega)).trans y5
                     have kB : w6.cell? ⟨g, off + k * 6, none⟩ = some (.int .i64 kx) := (b6.cell (p := ⟨g, off + k * 6, none⟩) (by show g < wr.heap.size; omega)).trans hkd
                     have HB6 : Hid (Below W2.heap.size W2 w6) := hid (HBj.out.drew.trans (b6.mono (by show W2.heap.size ≤ wr.heap.size; omega)))
                     have HO6 : Hid (sl.Own w6 W2.heap.size w6.heap.size (.slice (some ⟨W2.heap.size, 0, none⟩) 7 7) (fcJ a p m k j)) := hid (((HOj.out.drewN 1).chg (Chg.ofBelow (lo := 0) b6) (.inr (.inr (Nat.zero_le _)))).hi (by exact b6.size) (Nat.le_refl _))
                     have hc7 := (b6.cell (p := ⟨W2.heap.size, j, none⟩) (by show W2.heap.size < wr.heap.size; have := HOj.out.2.1 W2.heap.size rfl; omega)).trans hcj
                     have hf7 := (b6.frozen (p := ⟨W2.heap.size, j, none⟩) (by show W2.heap.size < wr.heap.size; have := HOj.out.2.1 W2.heap.size rfl; omega)).trans hfj
                     clear b6 hc6 he))
              all_goals (try go_wp2)
              all_goals
                go_roundw
                case rel => exact ⟨j + 1, by omega, by go_num, by rw [← HNN.out]; exact HO6.out, HB6.out⟩
                case measure => simp [intOf]; omega
          · obtain rfl : j = 3 := by omega
            have hlt2 : ¬ ((3 : Nat) : Int) < 3 := by omega
            have HStr := hid (HStK.out wr HBj.out)
            have hcs : (fcJ a p m k 3).getD (2 + sn) 0 = cntI (stF a p m) k (sn : Int) := fcJ_st a p m k sn hsr
            have hcb := cntI_le (stF a p m) k (sn : Int)
            have HEnd := hid (fcJ_end a p m k sn hsr HSn.out)
            generalize cntI (stF a p m) k (sn : Int) = c at *
            have HCs := hid hcs
            clear hcs
            go_wp2_with fail
            refine HStr.out.mono ?_
            rintro e w6 ⟨rfl, b6⟩
            have HB6 := hid (HBj.out.trans (b6.mono hzj))
            have HO6 := hid ((HOj.out.chg (Chg.ofBelow (lo := 0) b6) (.inr (.inr (Nat.zero_le _)))).hi b6.size (Nat.le_refl _))
            clear b6 HStr y5
            have hcj := (HO6.out.at' (2 + sn) (by rw [fcJ_len]; omega)).1
            have hfj := (HO6.out.at' (2 + sn) (by rw [fcJ_len]; omega)).2
            rw [HCs.out] at hcj
            have HSe := hid (HO6.out.set (2 + sn) (c + 1)).1
            go_wp2
            go_roundw
            case rel => exact ⟨k + 1, by omega, by go_num, by have := HSe.out; rw [HEnd.out] at this; simpa using this, HB6.out.setCell (by simp) _⟩
            case measure => simp [intOf]; omega
      · obtain rfl : k = n3 := by omega
        go_wp2
        go_ret2
        exact ⟨_, rfl, by rw [← HN3.out]; exact HO.out.lo hzw, HX2.out.b0.trans (HB.out.mono hzw)⟩
end Go.Proofs.Ytlhpipcmebmpdab.mc
