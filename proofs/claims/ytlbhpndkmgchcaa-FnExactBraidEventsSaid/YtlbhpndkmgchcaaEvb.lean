/-
  BraidEvents of both sides.
-/
import Derived.Test.YtlbhpndkmgchcaaEvm
import Derived.Test.YtlbhpndkmgchcaaEv5
import Derived.Test.YtlbhpndkmgchcaaMr
namespace Go.Proofs.Ytlbhpndkmgchcaa.ev
open Go.RowKit Go.Sort Go.Proofs.Ytlbhpndkmgchcaa.sl Go.Proofs.Ytlbhpndkmgchcaa.bw Go.Proofs.Ytlbhpndkmgchcaa.br
set_option linter.unusedVariables false
set_option linter.unusedSimpArgs false

def crossV (x : Int) : V := ⟨1, ab x - 1, sg x, 0, 0, 0⟩
def bevW (s : Int) (xs : List Int) : List V := if okB s xs = true then xs.map crossV else []
theorem bevW_len (s : Int) (xs : List Int) : (bevW s xs).length ≤ 20000 := by
  unfold bevW
  split
  · rename_i h
    have := (ok_parts h).2.2.1
    simp; omega
  · simp
theorem ab_le {x : Int} (h : -100 ≤ x ∧ x ≤ 100) : 0 ≤ ab x ∧ ab x ≤ 100 := by unfold ab; split <;> omega
theorem take_cross (xs : List Int) (k : Nat) (h : k < xs.length) : (xs.take (k + 1)).map crossV = (xs.take k).map crossV ++ [crossV (xs.getD k 0)] := by
  rw [List.take_succ_eq_append_getElem h, List.map_append]
  simp [List.getD, List.getElem?_eq_getElem h]

set_option maxRecDepth 100000 in
set_option maxHeartbeats 1000000 in
theorem specLetE (xs : List Int) (v : Value) (B : Nat) (w : World) (ha : Ints w B v xs) (hB : B ≤ w.heap.size) (hn : xs.length ≤ 1048576) (hb : ∀ j, j < xs.length → -100 ≤ xs.getD j 0 ∧ xs.getD j 0 ≤ 100) :
    Calls Try.prog 62 #[v] w fun e w' => ∃ v', e = .returned v' ∧ ROwn w' w.heap.size w'.heap.size v' (xs.map crossV) ∧ Below w.heap.size w w' := by
  rcases ha with ⟨rfl, ao, cap, rfl⟩ | ⟨hp, b, off, cap, rfl, hbb, hc⟩
  · go_enter Try.func62, Try.ntmps62
    go_wp2
    refine wp_loop_rounds 1 ?_
    rw [rounds_succ]
    go_wp2
    go_ret
    exact ⟨_, rfl, ROwn.built w _ rfl, (Below.refl _ _).alloc (Nat.le_refl _) _⟩
  · obtain ⟨n, hnn⟩ : ∃ n, n = xs.length := ⟨_, rfl⟩
    rw [← hnn] at hp hc hn hb ⊢
    have HN := hid hnn
    have HC := hid hc
    have HBd := hid hb
    clear hnn hc hb
    go_enter Try.func62, Try.ntmps62
    go_wp2
    go_loopw [3, 4] (fun v i wr => ∃ k : Nat, k ≤ n ∧ i = .int .i64 k ∧ ROwn wr w.heap.size wr.heap.size v ((xs.take k).map crossV) ∧ Below w.heap.size w wr)
      (fun _ i _ => n - (intOf i).toNat)
    case atStart => exact ⟨0, Nat.zero_le _, rfl, ROwn.built w _ rfl, (Below.refl _ _).alloc (Nat.le_refl _) _⟩
    case round =>
      obtain ⟨k, hk, rfl, hown, hbel⟩ := hrel
      have HO := hid hown
      have HB := hid hbel
      have hsz := hbel.size
      clear hown hbel
      by_cases hlt : k < n
      · have HX : Hid ((xs.take (k + 1)).map crossV = (xs.take k).map crossV ++ [crossV (xs.getD k 0)]) := hid (take_cross xs k (by rw [← HN.out]; exact hlt))
        have hbx := HBd.out k hlt
        have h1 : wr.cell? ⟨b, off + k, none⟩ = some (.int .i64 (xs.getD k 0)) := (HB.out.cell (p := ⟨b, off + k, none⟩) (by show b < _; omega)).trans (HC.out k hlt)
        have hl : ((xs.take k).map crossV).length ≤ 1048576 := by simp; omega
        generalize (xs.take k).map crossV = l at *
        generalize xs.getD k 0 = x at *
        have HA := hid (fun W => specAbs x hbx W)
        have hab := ab_le hbx
        have HCr : Hid (crossV x = ⟨1, ab x - 1, sg x, 0, 0, 0⟩) := hid rfl
        have HSg : Hid (sg x = if x < 0 then -1 else 1) := hid rfl
        generalize crossV x = c at *
        generalize ab x = a at *
        have hbE := (Below.refl wr.heap.size wr).alloc (Nat.le_refl _) (.cells #[.int .i64 1, .int .i64 (a - 1), .int .i64 1, .int .i64 0, .int .i64 0, .int .i64 0] 87)
        have h2 := (hbE.cell (p := ⟨b, off + k, none⟩) (by show b < _; omega)).trans h1
        have HO1 := hid (HO.out.below hbE)
        have HB1 := hid (HB.out.trans (hbE.mono hsz))
        by_cases hneg : x < 0
        · have hd : decide (x < 0) = true := decide_eq_true hneg
          have HS2 : Hid (c = ⟨1, a - 1, -1, 0, 0, 0⟩) := hid (by rw [HCr.out, HSg.out, if_pos hneg])
          have hbE2 := (Below.refl wr.heap.size wr).alloc (Nat.le_refl _) (.cells #[.int .i64 1, .int .i64 (a - 1), .int .i64 (-1), .int .i64 0, .int .i64 0, .int .i64 0] 87)
          have HW2 := hid (HO.out.below hbE2)
          have HB2 := hid (HB.out.trans (hbE2.mono hsz))
          clear hbE2 HO1 HB1
          clear hbE HCr HSg hneg
          go_wp2_with (first
            | (go_at_call 117; refine (HA.out _).mono ?_; rintro e w2 ⟨rfl, rfl⟩)
            | (at_builtin; refine wp_append1 rfl _ _ rfl w.heap.size wr.heap.size _ l ⟨1, a - 1, -1, 0, 0, 0⟩ HW2.out rfl (Eq.trans (b := Value.slice (some ⟨wr.heap.size + 1, 0, none⟩) 1 1) rfl (by simp)) (by simp; omega) hl ?_; intro v' w1 hown1 hchg1 hsz1; have HO3 := hid hown1; have HB3 := hid (HB2.out.trans (hchg1.below (Nat.le_refl _) (by simp; omega))); clear hown1 hchg1))
          go_roundw
          case rel => exact ⟨k + 1, by omega, by go_num, by rw [HX.out, HS2.out]; exact HO3.out, HB3.out⟩
          case measure => simp [intOf]; omega
        · have hd : decide (x < 0) = false := decide_eq_false hneg
          have HS2 : Hid (c = ⟨1, a - 1, 1, 0, 0, 0⟩) := hid (by rw [HCr.out, HSg.out, if_neg hneg])
          clear hbE HCr HSg hneg
          go_wp2_with (first
            | (go_at_call 117; refine (HA.out _).mono ?_; rintro e w2 ⟨rfl, rfl⟩)
            | (at_builtin; refine wp_append1 rfl _ _ rfl w.heap.size wr.heap.size _ l ⟨1, a - 1, 1, 0, 0, 0⟩ HO1.out rfl (Eq.trans (b := Value.slice (some ⟨wr.heap.size + 1, 0, none⟩) 1 1) rfl (by simp)) (by simp; omega) hl ?_; intro v' w1 hown1 hchg1 hsz1; have HO3 := hid hown1; have HB3 := hid (HB1.out.trans (hchg1.below (Nat.le_refl _) (by simp; omega))); clear hown1 hchg1))
          go_roundw
          case rel => exact ⟨k + 1, by omega, by go_num, by rw [HX.out, HS2.out]; exact HO3.out, HB3.out⟩
          case measure => simp [intOf]; omega
      · obtain rfl : k = n := by omega
        have HS : Hid ((xs.take k).map crossV = xs.map crossV) := hid (by rw [HN.out, List.take_length])
        go_wp2
        go_ret
        exact ⟨_, rfl, by rw [← HS.out]; exact HO.out, HB.out⟩

set_option maxRecDepth 100000 in
theorem specBE (s : Int) (xs : List Int) (v : Value) (B : Nat) (w : World) (ha : Ints w B v xs) (hB : B ≤ w.heap.size) (hn : xs.length ≤ 1099511627776) :
    Calls Try.prog 14 #[.agg #[.int .i64 s, v]] w fun e w' => ∃ ao cap, e = .returned (.slice ao (bevW s xs).length cap) ∧ OOwn w' w.heap.size w'.heap.size (.slice ao (bevW s xs).length cap) (bevW s xs) ∧ Below w.heap.size w w' := by
  have HV := hid (specOkA s xs v B w ha hn)
  have HA := hid ha
  obtain ⟨ao, cap, hv⟩ := ints_val ha
  clear ha
  have hb := (Below.refl w.heap.size w).alloc (Nat.le_refl _) (.cells #[.int .i64 s, v] 28)
  cases h : okB s xs
  · have HW : Hid (bevW s xs = []) := hid (by simp [bevW, h])
    rw [h] at HV
    rw [HW.out, List.length_nil]
    clear h hb
    generalize xs.length = n at *
    subst hv
    go_enter Try.func14, Try.ntmps14
    go_wp2_with fail
    refine HV.out.mono ?_
    rintro e w1 ⟨rfl, q, rfl⟩
    go_wp2
    go_ret
    exact ⟨_, _, rfl, (ROwn.nil _ _).oown, bdrewN ((Below.refl w.heap.size w).alloc (Nat.le_refl _) _) _⟩
  · have HW : Hid (bevW s xs = xs.map crossV) := hid (by simp [bevW, h])
    have HL : Hid ((bevW s xs).length = xs.length) := hid (by rw [HW.out]; simp)
    have HK := hid (ok_small h)
    have hl := (ok_parts h).2.2.1
    have HE := hid (fun W hB hI => specLetE xs v B W hI hB (by omega) HK.out)
    rw [h] at HV
    rw [HL.out, HW.out]
    clear h HW
    have HI := hid (fun q => (HA.out.chg (Chg.ofBelow (lo := 0) (bdrewN hb q)) (.inr (Nat.zero_le _))))
    have HBq := hid (fun q => bdrewN hb q)
    have HN : Hid ((xs.map crossV).length = xs.length) := hid (by simp)
    generalize xs.length = n at *
    subst hv
    clear hb
    go_enter Try.func14, Try.ntmps14
    go_wp2_with fail
    refine HV.out.mono ?_
    rintro e w1 ⟨rfl, q, rfl⟩
    have HIq := hid (HI.out q)
    have HB1 := hid (HBq.out q)
    clear HI HBq HV
    have hs1 := HB1.out.size
    have r1 : ((w.alloc (.cells #[.int .i64 s, .slice ao n cap] 28)).drewN q).cell? ⟨w.heap.size, 1, none⟩ = some (.slice ao n cap) := World.cell?_alloc_at _ _ _ _ rfl
    generalize (w.alloc (.cells #[.int .i64 s, .slice ao n cap] 28)).drewN q = W1 at *
    go_wp2_with fail
    refine (HE.out W1 (by omega) HIq.out).mono ?_
    rintro e w2 ⟨v2, rfl, o2, b2⟩
    obtain ⟨ao2, cap2, hv2⟩ := rown_val o2
    rw [HN.out] at hv2
    subst hv2
    have HO2 := hid ((o2.lo hs1).oown)
    have HB2 := hid (HB1.out.trans (b2.mono hs1))
    clear o2 b2 r1
    go_wp2
    go_ret
    exact ⟨_, _, rfl, HO2.out, HB2.out⟩

theorem crossOf (x : Int) (hx : -100 ≤ x ∧ x ≤ 100) (w : World) : Calls Try.prog 64 #[.int .i64 x] w fun e w' => e = .returned (crossV x).val ∧ Below w.heap.size w w' := by
  have HG := hid (fun W => implGen x hx W)
  have HS := hid (fun W => implSign x W)
  have hab := ab_le hx
  simp only [crossV, V.val]
  generalize ab x = a at *
  generalize sg x = s at *
  go_enter Try.func64, Try.ntmps64
  go_wp2_with (first | (go_at_call 120; refine (HG.out _).mono ?_; rintro e w2 ⟨rfl, rfl⟩) | (go_at_call 121; refine (HS.out _).mono ?_; rintro e w2 ⟨rfl, rfl⟩))
  refine bodyPost_ret (v := .agg #[.int .i64 1, .int .i64 (a - 1), .int .i64 s, .int .i64 0, .int .i64 0, .int .i64 0]) (by simp [results, Try.results64, go_sem]) rfl ⟨rfl, ?_⟩
  repeat (first | exact Below.refl _ _ | refine Below.setCell ?_ (by simp) _ | refine Below.alloc ?_ (by simp; try omega) _)

set_option maxRecDepth 100000 in
set_option maxHeartbeats 1000000 in
theorem implBE (s : Int) (xs : List Int) (v : Value) (B : Nat) (w : World) (ha : Ints w B v xs) (hB : B ≤ w.heap.size) (hn : xs.length ≤ 1099511627776) :
    Calls Try.prog 16 #[.agg #[.int .i64 s, v]] w fun e w' => ∃ ao cap, e = .returned (.slice ao (bevW s xs).length cap) ∧ OOwn w' w.heap.size w'.heap.size (.slice ao (bevW s xs).length cap) (bevW s xs) ∧ Below w.heap.size w w' := by
  have hb := (Below.refl w.heap.size w).alloc (Nat.le_refl _) (.cells #[.int .i64 s, v] 28)
  have HV := hid (implValidB s xs v B (w.alloc (.cells #[.int .i64 s, v] 28)) (ints_al ha _) (by simp; omega) hn)
  obtain ⟨i0, hi, hz0, hz1, hz2⟩ := info_parts infoO
  cases h : okB s xs
  · obtain ⟨ao, cap, hv⟩ := ints_val ha
    have HW : Hid (bevW s xs = []) := hid (by simp [bevW, h])
    rw [h] at HV
    rw [HW.out, List.length_nil]
    have HB0 := hid hb
    clear h hb ha
    generalize xs.length = n at *
    subst hv
    go_enter Try.func16, Try.ntmps16
    go_wp2_with fail
    refine HV.out.mono ?_
    rintro e w1 ⟨rfl, b1⟩
    have HB := hid (HB0.out.trans (b1.mono HB0.out.size))
    clear b1 HV HB0
    go_wp2
    go_ret
    exact ⟨_, _, rfl, (ROwn.nil _ _).oown, HB.out⟩
  · have HW : Hid (bevW s xs = xs.map crossV) := hid (by simp [bevW, h])
    have HL : Hid ((bevW s xs).length = xs.length) := hid (by rw [HW.out]; simp)
    have HK := hid (ok_small h)
    have hl := (ok_parts h).2.2.1
    rw [h] at HV
    rw [HL.out, HW.out]
    clear h HW HL
    have k1 : (w.alloc (.cells #[.int .i64 s, v] 28)).cell? ⟨w.heap.size, 1, none⟩ = some v := World.cell?_alloc_at _ _ _ _ rfl
    have HB0 := hid hb
    have hs0 : w.heap.size < (w.alloc (.cells #[.int .i64 s, v] 28)).heap.size := by simp
    clear hb
    rcases ha with ⟨rfl, ao, cap, rfl⟩ | ⟨hp, b, off, cap, rfl, hbb, hc⟩
    · clear HK
      rw [List.length_nil]
      go_enter Try.func16, Try.ntmps16
      go_wp2_with fail
      generalize w.alloc (.cells #[.int .i64 s, .slice ao 0 cap] 28) = W0 at *
      refine HV.out.mono ?_
      rintro e w1 ⟨rfl, b1⟩
      have hs1 : w.heap.size < w1.heap.size := Nat.lt_of_lt_of_le hs0 b1.size
      have r1 := (b1.cell (p := ⟨w.heap.size, 1, none⟩) hs0).trans k1
      have HB1 := hid (HB0.out.trans (b1.mono HB0.out.size))
      clear b1 HV HB0 k1 hs0
      go_wp2_with (at_make; refine wpList_make_own _ rfl _ _ 26 rfl w1.heap.size 87 i0 _ 6 Try.underlying26 hi hz0 hz1 .i64 .i64 _ 0 rfl rfl (by first | rfl | omega) (by rw [hz2]; omega) (by unfold maxLen; omega) (Nat.le_refl _) ?_; intro w2 hown2 hgrow2; have HO2 : Hid (ROwn w2 w.heap.size w2.heap.size (.slice (some ⟨w1.heap.size, 0, none⟩) 0 0) []) := hid ((ROwn.mk' (xs := []) (by rw [cellsL_nil]; exact hown2)).lo (by omega)); have b2 := (Below.refl w1.heap.size w1).grown hgrow2 (by omega) (fun k hk => by cases hk); have HB2 := hid (HB1.out.trans (b2.mono HB1.out.size)); have r2 := (b2.cell (p := ⟨w.heap.size, 1, none⟩) hs1).trans r1; have hs2 : w.heap.size < w2.heap.size := Nat.lt_of_lt_of_le hs1 b2.size; clear hown2 hgrow2 b2 r1)
      refine wp_loop_rounds 1 ?_
      rw [rounds_succ]
      go_wp2
      go_ret
      exact ⟨_, _, rfl, HO2.out.oown, HB2.out⟩
    · have HC := hid hc
      clear hc
      obtain ⟨n, hnn⟩ : ∃ n, n = xs.length := ⟨_, rfl⟩
      rw [← hnn] at hp hl HK HC HV HB0 k1 hs0 ⊢
      have HN := hid hnn
      clear hn hnn
      go_enter Try.func16, Try.ntmps16
      go_wp2_with fail
      generalize w.alloc (.cells #[.int .i64 s, .slice (some ⟨b, off, none⟩) n cap] 28) = W0 at *
      refine HV.out.mono ?_
      rintro e w1 ⟨rfl, b1⟩
      have hs1 : w.heap.size < w1.heap.size := Nat.lt_of_lt_of_le hs0 b1.size
      have r1 := (b1.cell (p := ⟨w.heap.size, 1, none⟩) hs0).trans k1
      have HB1 := hid (HB0.out.trans (b1.mono HB0.out.size))
      clear b1 HV HB0 k1 hs0
      go_wp2_with (at_make; refine wpList_make_own _ rfl _ _ 26 rfl w1.heap.size 87 i0 _ 6 Try.underlying26 hi hz0 hz1 .i64 .i64 _ n rfl rfl (by first | rfl | omega) (by rw [hz2]; omega) (by unfold maxLen; omega) (Nat.le_refl _) ?_; intro w2 hown2 hgrow2; have HO2 : Hid (ROwn w2 w.heap.size w2.heap.size (.slice (some ⟨w1.heap.size, 0, none⟩) 0 n) []) := hid ((ROwn.mk' (xs := []) (by rw [cellsL_nil]; exact hown2)).lo (by omega)); have b2 := (Below.refl w1.heap.size w1).grown hgrow2 (by omega) (fun k hk => by cases hk); have HB2 := hid (HB1.out.trans (b2.mono HB1.out.size)); have r2 := (b2.cell (p := ⟨w.heap.size, 1, none⟩) hs1).trans r1; have hs2 : w.heap.size < w2.heap.size := Nat.lt_of_lt_of_le hs1 b2.size; clear hown2 hgrow2 b2 r1)
      go_loopw [3, 16] (fun v i wr => ∃ k : Nat, k ≤ n ∧ i = .int .i64 k ∧ ROwn wr w.heap.size wr.heap.size v ((xs.take k).map crossV) ∧ Below w.heap.size w wr)
        (fun _ i _ => n - (intOf i).toNat)
      case atStart => exact ⟨0, Nat.zero_le _, rfl, HO2.out, HB2.out⟩
      case round =>
        obtain ⟨k, hk, rfl, hown, hbel⟩ := hrel
        have HO := hid hown
        have HB := hid hbel
        have hsz := hbel.size
        clear hown hbel HO2 HB2 r2 hs2
        by_cases hlt : k < n
        · have HX : Hid ((xs.take (k + 1)).map crossV = (xs.take k).map crossV ++ [crossV (xs.getD k 0)]) := hid (take_cross xs k (by rw [← HN.out]; exact hlt))
          have hbx := HK.out k hlt
          have h1 : wr.cell? ⟨b, off + k, none⟩ = some (.int .i64 (xs.getD k 0)) := (HB.out.cell (p := ⟨b, off + k, none⟩) (by show b < _; omega)).trans (HC.out k hlt)
          have hl2 : ((xs.take k).map crossV).length ≤ 1048576 := by simp; omega
          generalize (xs.take k).map crossV = l at *
          generalize xs.getD k 0 = x at *
          have HCr := hid (fun W => crossOf x hbx W)
          generalize crossV x = c at *
          obtain ⟨x0, x1, x2, x3, x4, x5⟩ := c
          simp only [V.val] at HCr
          go_wp2_with fail
          refine (HCr.out _).mono ?_
          rintro e w4 ⟨rfl, b4⟩
          have HO4 := hid (HO.out.below b4)
          have HB4 := hid (HB.out.trans (b4.mono hsz))
          have hs4 := b4.size
          clear b4 HCr h1
          go_wp2_with (at_builtin; refine wp_append1 rfl _ _ rfl w.heap.size wr.heap.size _ l ⟨x0, x1, x2, x3, x4, x5⟩ HO4.out rfl rfl (by omega) hl2 ?_; intro v' w5 hown5 hchg5 hsz5; have HO5 := hid hown5; have HB5 := hid (HB4.out.trans (hchg5.below (Nat.le_refl _) (by omega))); clear hown5 hchg5)
          go_roundw
          case rel => exact ⟨k + 1, by omega, by go_num, by rw [HX.out]; exact HO5.out, HB5.out⟩
          case measure => simp [intOf]; omega
        · obtain rfl : k = n := by omega
          have HS : Hid ((xs.take k).map crossV = xs.map crossV) := hid (by rw [HN.out, List.take_length])
          have HL : Hid ((xs.map crossV).length = k) := hid (by rw [HN.out]; simp)
          obtain ⟨ao2, cap2, hv2⟩ := rown_val HO.out
          rw [HS.out, HL.out] at hv2
          subst hv2
          go_wp2
          go_ret
          exact ⟨_, _, rfl, by have h := HO.out.oown; rw [HS.out] at h; exact h, HB.out⟩
end Go.Proofs.Ytlbhpndkmgchcaa.ev
