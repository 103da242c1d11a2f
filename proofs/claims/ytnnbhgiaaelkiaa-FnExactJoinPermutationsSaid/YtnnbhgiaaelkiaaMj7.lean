/-
  The model's closure: contract of l02Close.
-/
import Derived.Test.YtnnbhgiaaelkiaaMj6
import Derived.BigQuiet
import Derived.BigRegion
namespace Go.Proofs.Ytnnbhgiaaelkiaa.mj
open Go.RowKit Go.Proofs.Ytnnbhgiaaelkiaa.sl Go.Proofs.Ytnnbhgiaaelkiaa.pm Go.Proofs.Ytnnbhgiaaelkiaa.bt Go.Proofs.Ytnnbhgiaaelkiaa.la Go.Proofs.Ytnnbhgiaaelkiaa.fn

set_option maxRecDepth 100000 in
set_option maxHeartbeats 4000000 in
theorem specCloseN (p q : List Int) (n b off cap b' off' cap' : Nat) (w : World) (hn : n = p.length) (hm : n = q.length) (h0 : 0 < n) (h12 : n ≤ 12) (hb : b < w.heap.size) (hb' : b' < w.heap.size)
    (hc : ∀ j, j < n → w.cell? ⟨b, off + j, none⟩ = some (.int .i64 (p.getD j 0))) (hc' : ∀ j, j < n → w.cell? ⟨b', off' + j, none⟩ = some (.int .i64 (q.getD j 0))) :
    Calls Try.prog 56 #[.slice (some ⟨b, off, none⟩) n cap, .slice (some ⟨b', off', none⟩) n cap'] w fun e w' => ∃ v', e = .returned v' ∧ Own w' w.heap.size w'.heap.size v' (joinL p q) ∧ Below w.heap.size w w' := by
  obtain ⟨i0, hi, hz0, hz1, hz2⟩ := info_parts infoB
  obtain ⟨i1, hi1, hy0, hy1, hy2⟩ := info_parts info64
  have HC := hid hc
  have HC' := hid hc'
  have hU : Up n (un p q) := by rw [hn]; exact un_up p q (by omega)
  have HFin : joinL p q = posL (cl n (un p q)) n := by rw [joinL, hn]
  have HUv : ∀ i j, i < j → j < n → un p q i j = (decide (q.getD j 0 < q.getD i 0) || decide (p.getD j 0 < p.getD i 0)) := by
    intro i j h1 h2
    unfold un iv
    rw [← hn, ← hm, Bool.or_comm]
    simp [h1, h2]
  have HL2 : (∀ r s, m2 (cl n (un p q)) (un p q) 2 0 r s = un p q r s) ∧ (∀ d i r s, m2x (cl n (un p q)) (un p q) d i (i + d) r s = m2 (cl n (un p q)) (un p q) d (i + 1) r s) ∧ (∀ d i r s, n ≤ i + d → m2 (cl n (un p q)) (un p q) d i r s = m2 (cl n (un p q)) (un p q) (d + 1) 0 r s) ∧ (∀ d r s, n ≤ d → s < n → m2 (cl n (un p q)) (un p q) d 0 r s = cl n (un p q) r s) :=
    ⟨fun r s => m2_start hU r s, fun d i r s => m2x_end hU d i r s, fun d i r s h => m2_next hU d i r s h, fun d r s h1 h2 => m2_all d r s h1 h2⟩
  have HU := hid hU
  have HFin := hid HFin
  have HUv := hid HUv
  have HL2 := hid HL2
  generalize joinL p q = jl at *
  generalize cl n (un p q) = c at *
  generalize un p q = u at *
  obtain ⟨N2, hN2⟩ : ∃ N2, N2 = n * n := ⟨_, rfl⟩
  have hnn : (n : Int) * (n : Int) = (N2 : Int) := by rw [hN2, Int.natCast_mul]
  have hN2b : N2 ≤ 144 := by rw [hN2]; exact Nat.mul_le_mul h12 h12
  have HIx : Hid (∀ i j, i < n → j < n → i * n + j < N2) := hid (by rw [hN2]; exact idx_lt n)
  have HRows : Hid (∀ i, i < n → i * n ≤ 144) := hid (fun i h => Nat.le_trans (Nat.mul_le_mul (show i ≤ 12 by omega) h12) (by omega))
  clear hc hc' hn hm hN2 hU
  go_enter Try.func56, Try.ntmps56
  go_wp2_with (at_make; refine wpList_make_full _ rfl (.tmp 19) (.tmp 19) 67 rfl w.heap.size 4 i0 (.bool false) 1 Try.underlying67 hi hz0 hz1 .i64 .i64 _ _ N2 rfl rfl (by omega) (by omega) (by rw [hz2]; omega) (by unfold maxLen; omega) (Nat.le_refl _) ?_; intro w1 hown1 hgrow1)
  have HB1 : Hid (Bools w1 w.heap.size N2 (flat n (m1 u 0 0))) := hid (by
    refine ⟨(hown1.lt _ rfl).2, fun j hj => ⟨?_, hown1.frozenAt j⟩⟩
    rw [hown1.cellAt j (by omega)]
    simp [madeCells, Value.cells, hj, Nat.mod_one, flat, m1_start])
  have HL1 : Hid (Below w.heap.size w w1) := hid ((Below.refl _ _).grown hgrow1 (Nat.le_refl _) (fun k hk => by cases hk))
  clear hown1 hgrow1 hi hz0 hz1 hz2
  -- the pairs of both
  go_loopw [7] (fun iv wr => ∃ i : Nat, i ≤ n ∧ iv = .int .i64 i ∧ Bools wr w.heap.size N2 (flat n (m1 u i 0)) ∧ Below w.heap.size w wr)
    (fun iv _ => n - (intOf iv).toNat)
  case atStart => exact ⟨0, Nat.zero_le _, rfl, HB1.out, HL1.out⟩
  case round =>
    obtain ⟨i, hi', rfl, hbo, hbel⟩ := hrel
    obtain ⟨wo, hwo⟩ : ∃ wo : World, wo = wr := ⟨_, rfl⟩
    subst hwo
    have HBo := hid hbo
    have HBe := hid hbel
    clear hbo hbel HB1 HL1
    by_cases hlt : i < n
    · have hlt' : (i : Int) < (n : Int) := by omega
      have hltd : decide ((i : Int) < (n : Int)) = true := decide_eq_true hlt'
      go_wp2
      go_loopw [8] (fun jv wx => ∃ j : Nat, i + 1 ≤ j ∧ j ≤ n ∧ jv = .int .i64 j ∧ Bools wx w.heap.size N2 (flat n (m1 u i j)) ∧ Below w.heap.size w wx)
        (fun jv _ => n - (intOf jv).toNat)
      case atStart => exact ⟨i + 1, Nat.le_refl _, by omega, by go_num, by rw [flat_same n _ _ h0 (fun r s hs => m1_skip HU.out i r s)]; exact HBo.out, HBe.out⟩
      case round =>
        obtain ⟨j, hj1, hj2, rfl, hbo, hbel⟩ := hrel
        have HBo2 := hid hbo
        have HBe2 := hid hbel
        clear hbo hbel HBo HBe
        by_cases hjl : j < n
        · have hjl' : (j : Int) < (n : Int) := by omega
          have hjld : decide ((j : Int) < (n : Int)) = true := decide_eq_true hjl'
          obtain ⟨x, hx⟩ : ∃ x, x = p.getD i 0 := ⟨_, rfl⟩
          obtain ⟨y, hy⟩ : ∃ y, y = p.getD j 0 := ⟨_, rfl⟩
          obtain ⟨x', hx'⟩ : ∃ x, x = q.getD i 0 := ⟨_, rfl⟩
          obtain ⟨y', hy'⟩ : ∃ y, y = q.getD j 0 := ⟨_, rfl⟩
          have a1 : wr.cell? ⟨b, off + i, none⟩ = some (.int .i64 x) := by rw [hx]; exact (HBe2.out.cell (p := ⟨b, off + i, none⟩) (by show b < _; omega)).trans (HC.out i hlt)
          have a2 : wr.cell? ⟨b, off + j, none⟩ = some (.int .i64 y) := by rw [hy]; exact (HBe2.out.cell (p := ⟨b, off + j, none⟩) (by show b < _; omega)).trans (HC.out j hjl)
          have a3 : wr.cell? ⟨b', off' + i, none⟩ = some (.int .i64 x') := by rw [hx']; exact (HBe2.out.cell (p := ⟨b', off' + i, none⟩) (by show b' < _; omega)).trans (HC'.out i hlt)
          have a4 : wr.cell? ⟨b', off' + j, none⟩ = some (.int .i64 y') := by rw [hy']; exact (HBe2.out.cell (p := ⟨b', off' + j, none⟩) (by show b' < _; omega)).trans (HC'.out j hjl)
          have HUx : Hid (u i j = (decide (y' < x') || decide (y < x))) := hid (by rw [HUv.out i j (by omega) hjl, hx, hy, hx', hy'])
          clear hx hy hx' hy'
          obtain ⟨k, hk⟩ : ∃ k, k = i * n := ⟨_, rfl⟩
          have hki : (i : Int) * (n : Int) = (k : Int) := by rw [hk, Int.natCast_mul]
          have hkj : k + j < N2 := by rw [hk]; exact HIx.out i j hlt hjl
          have hkj' : (k : Int) + (j : Int) < (N2 : Int) := by omega
          have hkj0 : (0 : Int) ≤ (k : Int) + (j : Int) := by omega
          have hkjn : ((k : Int) + (j : Int)).toNat = k + j := by omega
          have f1 : wr.frozen? ⟨w.heap.size, k + j, none⟩ = false := (HBo2.out.2 (k + j) hkj).2
          have c1 : wr.cell? ⟨w.heap.size, k + j, none⟩ = some (.bool (flat n (m1 u i j) (k + j))) := (HBo2.out.2 (k + j) hkj).1
          have HSt := fun z (hz : u i j = z) => bools_put (w := wr) z HBo2.out hkj (g := flat n (m1 u i (j + 1))) (by rw [hk]; exact flat_set n _ _ i j z hjl (fun r s _ => by rw [m1_step, hz]))
          have HB1 := fun z => HBe2.out.setCell (p := ⟨w.heap.size, k + j, none⟩) (by simp) (.bool z)
          have HS := hid HSt
          have HBz := hid HB1
          clear HSt HB1 hk
          generalize flat n (m1 u i j) (k + j) = z0 at *
          by_cases hd : y < x
          · have hd1 : decide (y < x) = true := decide_eq_true hd
            have HS1 := hid (HS.out true (by rw [HUx.out, hd1]; simp))
            have HB1 := hid (HBz.out true)
            clear HS HUx HBz HBo2 HBe2
            go_wp2
            go_big_region
            all_goals (try go_wp2)
            go_roundw
            case rel => exact ⟨j + 1, by omega, by omega, by go_num, HS1.out.drew 1, HB1.out.drew⟩
            case measure => simp [intOf]; omega
          · have hd1 : decide (y < x) = false := decide_eq_false hd
            by_cases he : y' < x'
            · have he1 : decide (y' < x') = true := decide_eq_true he
              have HS1 := hid (HS.out true (by rw [HUx.out, he1]; rfl))
              have HB1 := hid (HBz.out true)
              clear HS HUx HBz HBo2 HBe2
              go_wp2
              go_big_region
              all_goals (try go_wp2)
              go_roundw
              case rel => exact ⟨j + 1, by omega, by omega, by go_num, HS1.out.drew 1, HB1.out.drew⟩
              case measure => simp [intOf]; omega
            · have he1 : decide (y' < x') = false := decide_eq_false he
              have HS1 := hid (HS.out false (by rw [HUx.out, he1, hd1]; rfl))
              have HB1 := hid (HBz.out false)
              clear HS HUx HBz HBo2 HBe2
              go_wp2
              go_big_region
              all_goals (try go_wp2)
              go_roundw
              case rel => exact ⟨j + 1, by omega, by omega, by go_num, HS1.out.drew 1, HB1.out.drew⟩
              case measure => simp [intOf]; omega
        · obtain rfl : j = n := by omega
          go_wp2
          go_roundw
          case rel => exact ⟨i + 1, by omega, by go_num, by rw [← flat_same j _ _ h0 (fun r s hs => m1_next u j i r s hs)]; exact HBo2.out, HBe2.out⟩
          case measure => simp [intOf]; omega
    · obtain rfl : i = n := by omega
      have HBm : Hid (Bools wo w.heap.size N2 (flat i (m2 c u 2 0))) := hid (by rw [flat_same i _ (m1 u i 0) h0 (fun r s hs => by rw [HL2.out.1 r s, m1_all HU.out])]; exact HBo.out)
      clear HBo HUv HC HC'
      go_wp2
      -- the closure
      go_loopw [9] (fun dv wx => ∃ d : Nat, 2 ≤ d ∧ (d ≤ i ∨ d = 2) ∧ dv = .int .i64 d ∧ Bools wx w.heap.size N2 (flat i (m2 c u d 0)) ∧ Below w.heap.size w wx)
        (fun dv _ => i - (intOf dv).toNat)
      case atStart => exact ⟨2, Nat.le_refl _, .inr rfl, rfl, HBm.out, HBe.out⟩
      case round =>
        obtain ⟨d, hd2, hdn, rfl, hbo, hbel⟩ := hrel
        obtain ⟨wp, hwp⟩ : ∃ wp : World, wp = wr := ⟨_, rfl⟩
        subst hwp
        have HBo := hid hbo
        have HBe2 := hid hbel
        clear hbo hbel HBm HBe
        by_cases hdl : d < i
        · have hdl' : (d : Int) < (i : Int) := by omega
          have hdld : decide ((d : Int) < (i : Int)) = true := decide_eq_true hdl'
          go_wp2
          go_loopw [10] (fun rv wx => ∃ r : Nat, r + d ≤ i ∧ rv = .int .i64 r ∧ Bools wx w.heap.size N2 (flat i (m2 c u d r)) ∧ Below w.heap.size w wx)
            (fun rv _ => i - (intOf rv).toNat)
          case atStart => exact ⟨0, by omega, rfl, HBo.out, HBe2.out⟩
          case round =>
            obtain ⟨r, hrd, rfl, hbo, hbel⟩ := hrel
            obtain ⟨wq, hwq⟩ : ∃ wq : World, wq = wr := ⟨_, rfl⟩
            subst hwq
            have HBo3 := hid hbo
            have HBe3 := hid hbel
            clear hbo hbel HBo HBe2
            by_cases hrl : r + d < i
            · have hrl' : (r : Int) + (d : Int) < (i : Int) := by omega
              have hrld : decide ((r : Int) + (d : Int) < (i : Int)) = true := decide_eq_true hrl'
              go_wp2
              go_loopw [11] (fun jv wx => ∃ j : Nat, r + 1 ≤ j ∧ j ≤ r + d ∧ jv = .int .i64 j ∧ Bools wx w.heap.size N2 (flat i (m2x c u d r j)) ∧ Below w.heap.size w wx)
                (fun jv _ => r + d - (intOf jv).toNat)
              case atStart => exact ⟨r + 1, Nat.le_refl _, by omega, by go_num, by rw [flat_same i _ _ h0 (fun r' s _ => m2x_start (n := i) c u d r r' s rfl)]; exact HBo3.out, HBe3.out⟩
              case round =>
                obtain ⟨j, hj1, hj2, rfl, hbo, hbel⟩ := hrel
                have HBo4 := hid hbo
                have HBe4 := hid hbel
                clear hbo hbel HBo3 HBe3
                by_cases hjl : j < r + d
                · have hjl' : (j : Int) < (r : Int) + (d : Int) := by omega
                  have hjld : decide ((j : Int) < (r : Int) + (d : Int)) = true := decide_eq_true hjl'
                  obtain ⟨k, hk⟩ : ∃ k, k = r * i := ⟨_, rfl⟩
                  obtain ⟨l, hl⟩ : ∃ l, l = j * i := ⟨_, rfl⟩
                  have hki : (r : Int) * (i : Int) = (k : Int) := by rw [hk, Int.natCast_mul]
                  have hli : (j : Int) * (i : Int) = (l : Int) := by rw [hl, Int.natCast_mul]
                  have hkb : k ≤ 144 := by rw [hk]; exact HRows.out r (by omega)
                  have hlb : l ≤ 144 := by rw [hl]; exact HRows.out j (by omega)
                  have b1 : k + j < N2 := by rw [hk]; exact HIx.out r j (by omega) (by omega)
                  have b2 : l + (r + d) < N2 := by rw [hl]; exact HIx.out j (r + d) (by omega) (by omega)
                  have b3 : k + (r + d) < N2 := by rw [hk]; exact HIx.out r (r + d) (by omega) (by omega)
                  have b1' : (k : Int) + (j : Int) < (N2 : Int) := by omega
                  have b2' : (l : Int) + (r : Int) + (d : Int) < (N2 : Int) := by omega
                  have b3' : (k : Int) + (r : Int) + (d : Int) < (N2 : Int) := by omega
                  have b10 : (0 : Int) ≤ (k : Int) + (j : Int) := by omega
                  have b20 : (0 : Int) ≤ (l : Int) + (r : Int) + (d : Int) := by omega
                  have b30 : (0 : Int) ≤ (k : Int) + (r : Int) + (d : Int) := by omega
                  have b1n : ((k : Int) + (j : Int)).toNat = k + j := by omega
                  have b2n : ((l : Int) + (r : Int) + (d : Int)).toNat = l + r + d := by omega
                  have b3n : ((k : Int) + (r : Int) + (d : Int)).toNat = k + r + d := by omega
                  have a1 : wr.cell? ⟨w.heap.size, k + j, none⟩ = some (.bool (c r j)) := by
                    rw [(HBo4.out.2 (k + j) b1).1, hk, flat_at i _ r j (by omega), m2x_left c u d r j (by omega) hjl]
                  have a2 : wr.cell? ⟨w.heap.size, l + r + d, none⟩ = some (.bool (c j (r + d))) := by
                    rw [show l + r + d = l + (r + d) by omega, (HBo4.out.2 (l + (r + d)) b2).1, hl, flat_at i _ j (r + d) (by omega), m2x_right c u d r j (by omega)]
                  have a3 : wr.cell? ⟨w.heap.size, k + r + d, none⟩ = some (.bool (flat i (m2x c u d r j) (k + (r + d)))) := by
                    rw [show k + r + d = k + (r + d) by omega, (HBo4.out.2 (k + (r + d)) b3).1]
                  have f3 : wr.frozen? ⟨w.heap.size, k + r + d, none⟩ = false := by
                    rw [show k + r + d = k + (r + d) by omega]; exact (HBo4.out.2 (k + (r + d)) b3).2
                  have HSy := fun (hz : (c r j && c j (r + d)) = true) => bools_put (w := wr) true HBo4.out b3 (g := flat i (m2x c u d r (j + 1))) (by rw [hk]; exact flat_set i _ _ r (r + d) true (by omega) (fun r' s _ => m2x_yes c u d r j (by omega) hz r' s))
                  have HSn := fun (hz : (c r j && c j (r + d)) = false) => m2x_no c u d r j (by omega) hz
                  rw [show k + (r + d) = k + r + d by omega] at HSy
                  have HBz := hid (HBe4.out.setCell (p := ⟨w.heap.size, k + r + d, none⟩) (by simp) (.bool true))
                  have HSy := hid HSy
                  have HSn := hid HSn
                  clear hk hl
                  generalize flat i (m2x c u d r j) (k + (r + d)) = z0 at *
                  cases h1 : c r j
                  · rw [h1] at a1
                    have HN := hid (HSn.out (by rw [h1]; rfl))
                    clear HSy HSn HBz h1
                    go_wp2
                    go_roundw
                    case rel => exact ⟨j + 1, by omega, by omega, by go_num, by rw [HN.out]; exact HBo4.out, HBe4.out⟩
                    case measure => simp [intOf]; omega
                  · rw [h1] at a1
                    cases h2 : c j (r + d)
                    · rw [h2] at a2
                      have HN := hid (HSn.out (by rw [h1, h2]; rfl))
                      clear HSy HSn HBz h1 h2
                      go_wp2
                      go_roundw
                      case rel => exact ⟨j + 1, by omega, by omega, by go_num, by rw [HN.out]; exact HBo4.out, HBe4.out⟩
                      case measure => simp [intOf]; omega
                    · rw [h2] at a2
                      have HN := hid (HSy.out (by rw [h1, h2]; rfl))
                      clear HSy HSn HBo4 HBe4 h1 h2
                      go_wp2
                      go_roundw
                      case rel => exact ⟨j + 1, by omega, by omega, by go_num, HN.out, HBz.out⟩
                      case measure => simp [intOf]; omega
                · obtain rfl : j = r + d := by omega
                  have HN : Hid (Bools wr w.heap.size N2 (flat i (m2 c u d (r + 1)))) := hid (by rw [← flat_same i _ _ h0 (fun r' s _ => HL2.out.2.1 d r r' s)]; exact HBo4.out)
                  have hjl' : ¬ ((r : Int) + (d : Int)) < (r : Int) + (d : Int) := by omega
                  clear HBo4
                  go_wp2
                  go_roundw
                  case rel => exact ⟨r + 1, by omega, by go_num, HN.out, HBe4.out⟩
                  case measure => simp [intOf]; omega
            · have hrl' : ¬ (r : Int) + (d : Int) < (i : Int) := by omega
              have HN : Hid (Bools wq w.heap.size N2 (flat i (m2 c u (d + 1) 0))) := hid (by rw [← flat_same i _ _ h0 (fun r' s _ => HL2.out.2.2.1 d r r' s (by omega))]; exact HBo3.out)
              clear HBo3
              go_wp2
              go_roundw
              case rel => exact ⟨d + 1, by omega, by omega, by go_num, HN.out, HBe3.out⟩
              case measure => simp [intOf]; omega
        · have hdl' : ¬ (d : Int) < (i : Int) := by omega
          have HMx : Hid (Bools wp w.heap.size N2 (flat i c)) := hid (by rw [← flat_same i _ _ h0 (fun r' s hs => HL2.out.2.2.2 d r' s (by omega) hs)]; exact HBo.out)
          have hws : w.heap.size < wp.heap.size := HMx.out.1
          clear HBo HL2
          -- the counts
          go_wp2_with (at_make; refine wpList_make_full _ rfl (.tmp 110) (.tmp 110) 22 rfl wp.heap.size 2 i1 (.int .i64 0) 1 Try.underlying22 hi1 hy0 hy1 .i64 .i64 _ _ i rfl rfl (by omega) (by omega) (by rw [hy2]; omega) (by unfold maxLen; omega) (Nat.le_refl _) ?_; intro w3 hown3 hgrow3)
          have HO3 : Hid (Own w3 wp.heap.size w3.heap.size (.slice (some ⟨wp.heap.size, 0, none⟩) i i) (sfL c i 0 0)) := hid (by rw [sfL_start]; exact made_own hown3)
          have HL3 : Hid (Below wp.heap.size wp w3) := hid ((Below.refl _ _).grown hgrow3 (Nat.le_refl _) (fun k hk => by cases hk))
          clear hown3 hgrow3 hi1 hy0 hy1 hy2
          go_loopw [13] (fun rv wx => ∃ r : Nat, r ≤ i ∧ rv = .int .i64 r ∧ Own wx wp.heap.size wx.heap.size (.slice (some ⟨wp.heap.size, 0, none⟩) i i) (sfL c i r 0) ∧ Below wp.heap.size wp wx)
            (fun rv _ => i - (intOf rv).toNat)
          case atStart => exact ⟨0, Nat.zero_le _, rfl, HO3.out, HL3.out⟩
          case round =>
            obtain ⟨r, hr, rfl, hown, hbel⟩ := hrel
            obtain ⟨wq, hwq⟩ : ∃ wq : World, wq = wr := ⟨_, rfl⟩
            subst hwq
            have HO4 := hid hown
            have HL4 := hid hbel
            clear hown hbel HO3 HL3
            by_cases hrl : r < i
            · have hrl' : (r : Int) < (i : Int) := by omega
              have hrld : decide ((r : Int) < (i : Int)) = true := decide_eq_true hrl'
              go_wp2
              go_loopw [14] (fun jv wx => ∃ j : Nat, r + 1 ≤ j ∧ j ≤ i ∧ jv = .int .i64 j ∧ Own wx wp.heap.size wx.heap.size (.slice (some ⟨wp.heap.size, 0, none⟩) i i) (sfL c i r j) ∧ Below wp.heap.size wp wx)
                (fun jv _ => i - (intOf jv).toNat)
              case atStart => exact ⟨r + 1, Nat.le_refl _, by omega, by go_num, by rw [sfL_same c i r (r + 1) r 0 (fun t _ => sofar_skip c i r t)]; exact HO4.out, HL4.out⟩
              case round =>
                obtain ⟨j, hj1, hj2, rfl, hown, hbel⟩ := hrel
                have HO5 := hid hown
                have HL5 := hid hbel
                clear hown hbel HO4 HL4
                by_cases hjl : j < i
                · have hjl' : (j : Int) < (i : Int) := by omega
                  have hjld : decide ((j : Int) < (i : Int)) = true := decide_eq_true hjl'
                  obtain ⟨k, hk⟩ : ∃ k, k = r * i := ⟨_, rfl⟩
                  have hki : (r : Int) * (i : Int) = (k : Int) := by rw [hk, Int.natCast_mul]
                  have hkb : k ≤ 144 := by rw [hk]; exact HRows.out r hrl
                  have b1 : k + j < N2 := by rw [hk]; exact HIx.out r j hrl hjl
                  have b1' : (k : Int) + (j : Int) < (N2 : Int) := by omega
                  have b10 : (0 : Int) ≤ (k : Int) + (j : Int) := by omega
                  have b1n : ((k : Int) + (j : Int)).toNat = k + j := by omega
                  have a1 : wr.cell? ⟨w.heap.size, k + j, none⟩ = some (.bool (c r j)) := by
                    rw [HL5.out.cell (p := ⟨w.heap.size, k + j, none⟩) hws, (HMx.out.2 (k + j) b1).1, hk, flat_at i _ r j hjl]
                  clear hk
                  cases hcb : c r j
                  · rw [hcb] at a1
                    have hsl := sofar_le c i r j j
                    have q1 : wr.cell? ⟨wp.heap.size, j, none⟩ = some (.int .i64 ((sofar c i r j j : Nat) : Int)) := by rw [(HO5.out.at' j (by rw [sfL_len]; exact hjl)).1, sfL_at c i r j j hjl]
                    have g1 : wr.frozen? ⟨wp.heap.size, j, none⟩ = false := (HO5.out.at' j (by rw [sfL_len]; exact hjl)).2
                    have HP := hid (sfL_put c i r j j (sofar c i r j j + 1) hjl (fun t => sofar_no c i r j t (by omega) hjl hcb))
                    have HS := hid (HO5.out.set j ((sofar c i r j j + 1 : Nat) : Int)).1
                    rw [HP.out] at HS
                    generalize sofar c i r j j = z at *
                    clear HP hcb
                    go_wp2
                    go_roundw
                    case rel => exact ⟨j + 1, by omega, by omega, by go_num, by simpa using HS.out, HL5.out.setCell (by simp) _⟩
                    case measure => simp [intOf]; omega
                  · rw [hcb] at a1
                    have hsl := sofar_le c i r j r
                    have q1 : wr.cell? ⟨wp.heap.size, r, none⟩ = some (.int .i64 ((sofar c i r j r : Nat) : Int)) := by rw [(HO5.out.at' r (by rw [sfL_len]; exact hrl)).1, sfL_at c i r j r hrl]
                    have g1 : wr.frozen? ⟨wp.heap.size, r, none⟩ = false := (HO5.out.at' r (by rw [sfL_len]; exact hrl)).2
                    have HP := hid (sfL_put c i r j r (sofar c i r j r + 1) hrl (fun t => sofar_yes c i r j t (by omega) hjl hcb))
                    have HS := hid (HO5.out.set r ((sofar c i r j r + 1 : Nat) : Int)).1
                    rw [HP.out] at HS
                    generalize sofar c i r j r = z at *
                    clear HP hcb
                    go_wp2
                    go_roundw
                    case rel => exact ⟨j + 1, by omega, by omega, by go_num, by simpa using HS.out, HL5.out.setCell (by simp) _⟩
                    case measure => simp [intOf]; omega
                · obtain rfl : j = i := by omega
                  have HN : Hid (Own wr wp.heap.size wr.heap.size (.slice (some ⟨wp.heap.size, 0, none⟩) j j) (sfL c j (r + 1) 0)) := hid (by rw [← sfL_same c j r j (r + 1) 0 (fun t ht => sofar_next c j r t ht)]; exact HO5.out)
                  clear HO5
                  go_wp2
                  go_roundw
                  case rel => exact ⟨r + 1, by omega, by go_num, HN.out, HL5.out⟩
                  case measure => simp [intOf]; omega
            · obtain rfl : r = i := by omega
              have HN : Hid (Own wq wp.heap.size wq.heap.size (.slice (some ⟨wp.heap.size, 0, none⟩) r r) jl) := hid (by rw [HFin.out, ← sfL_all]; exact HO4.out)
              clear HO4
              go_wp2
              go_ret
              exact ⟨_, rfl, HN.out.lo (by omega), HBe2.out.trans (HL4.out.mono (by omega))⟩

end Go.Proofs.Ytnnbhgiaaelkiaa.mj
