/-
  Contracts of ExponentSum, of the program and of its model.
-/
import Derived.Test.YtbeaopblopmpeaaMp
namespace Go.Proofs.Ytbeaopblopmpeaa.br
open Go.RowKit Go.Proofs.Ytbeaopblopmpeaa.sl Go.Proofs.Ytbeaopblopmpeaa.pm Go.Proofs.Ytbeaopblopmpeaa.bw Go.Proofs.Ytbeaopblopmpeaa.fn

theorem implSign (x : Int) (w : World) : Calls Try.prog 70 #[.int .i64 x] w fun e w' => e = .returned (.int .i64 (sg x)) ∧ w = w' := by
  by_cases h : x < 0
  · have HF : Hid (sg x = -1) := hid (by rw [sg, if_pos h])
    go_enter Try.func70, Try.ntmps70
    go_wp2
    go_ret
    exact ⟨by rw [HF.out]; rfl, rfl⟩
  · have HF : Hid (sg x = 1) := hid (by rw [sg, if_neg h])
    go_enter Try.func70, Try.ntmps70
    go_wp2
    go_ret
    exact ⟨by rw [HF.out]; rfl, rfl⟩

theorem implSum (xs : List Int) (c : Nat) (v : Value) (B : Nat) (w : World) (ha : Ints w B v xs) (hn : xs.length ≤ 1048576) (hcl : c ≤ 1048576) (hb : ∀ j, j < xs.length → -(c : Int) ≤ xs.getD j 0 ∧ xs.getD j 0 ≤ c) :
    Calls Try.prog 68 #[v] w fun e w' => e = .returned (.int .i64 (sumL xs)) ∧ w = w' := by
  rcases ha with ⟨rfl, ao, cap, rfl⟩ | ⟨hp, b, off, cap, rfl, hbb, hc⟩
  · go_enter Try.func68, Try.ntmps68
    go_wp2
    refine wp_loop_rounds 1 ?_
    rw [rounds_succ]
    go_wp2
    go_ret
    exact ⟨rfl, rfl⟩
  · obtain ⟨n, hnn⟩ : ∃ n, n = xs.length := ⟨_, rfl⟩
    rw [← hnn] at hp hc hn hb ⊢
    have HN := hid hnn
    have HC := hid hc
    have HBd := hid hb
    clear hnn hc hb
    go_enter Try.func68, Try.ntmps68
    go_wp2
    go_loop [3, 8] (fun t i => ∃ k : Nat, k ≤ n ∧ i = .int .i64 k ∧ t = .int .i64 (sumTo xs k)) (fun _ i => n - (intOf i).toNat)
    case atStart => exact ⟨0, Nat.zero_le _, rfl, rfl⟩
    case round =>
      obtain ⟨k, hk, rfl, rfl⟩ := hrel
      have hl := sumTo_le xs c (by rw [← HN.out]; exact HBd.out) k (by rw [← HN.out]; exact hk)
      have hkc : k * c ≤ 1048576 * 1048576 := Nat.mul_le_mul (by omega) hcl
      by_cases hlt : k < n
      · have h1 := HC.out k hlt
        have hx := HBd.out k hlt
        have HS := hid (sumTo_succ xs k (by rw [← HN.out]; exact hlt))
        generalize xs.getD k 0 = x at *
        generalize sumTo xs k = t at *
        generalize k * c = q at *
        go_wp2
        go_round
        case rel => exact ⟨k + 1, by omega, by go_num, by rw [HS.out]⟩
        case measure => simp [intOf]; omega
      · obtain rfl : k = n := by omega
        have HS : Hid (sumTo xs k = sumL xs) := hid (by rw [HN.out]; exact sumTo_all xs)
        rw [HS.out] at hl ⊢
        go_wp2
        go_ret
        exact ⟨rfl, rfl⟩

theorem fieldWord (s : Int) (ao : Option Addr) (n cap : Nat) (w : World) : (Instr.field 27 (.agg #[.int .i64 s, .slice ao n cap]) 1).run Try.prog w = .ok (.slice ao n cap) w := by kernel_rfl

def exB (s : Int) (xs : List Int) : Int := if okB s xs = true then expL xs else 0

theorem exp_sum (xs : List Int) : sumL (xs.map sg) = expL xs := rfl

theorem implExp (s : Int) (xs : List Int) (v : Value) (B : Nat) (w : World) (ha : Ints w B v xs) (hB : B ≤ w.heap.size) (hn : xs.length ≤ 1099511627776) :
    Calls Try.prog 27 #[.agg #[.int .i64 s, v]] w fun e w' => e = .returned (.int .i64 (exB s xs)) ∧ Below w.heap.size w w' := by
  obtain ⟨ao, cap, hv⟩ := ints_val ha
  obtain ⟨n, hnn⟩ : ∃ n, n = xs.length := ⟨_, rfl⟩
  rw [← hnn] at hv
  subst hv
  have HA := hid ha
  have HN := hid hnn
  clear ha hnn
  by_cases h : okB s xs = true
  · have HF : Hid (exB s xs = sumL (xs.map sg)) := hid (by rw [exB, if_pos h]; rfl)
    have hok := ok_parts h
    have hl : xs.length ≤ 40 := hok.2.2.1
    clear hok
    go_enter Try.func27, Try.ntmps27
    go_wp2_with fail
    refine (implValidB s xs _ B _ (ints_al HA.out _) (by simp; omega) hn).mono ?_
    rintro e w1 ⟨rfl, b1⟩
    have hb := box1 b1
    have d0 := hb.1 0
    have d1 := hb.1 1
    have hz := hb.2.2
    have HB1 := hid hb.2.1
    have HA1 := hid (HA.out.chg (Chg.ofBelow (lo := 0) hb.2.1) (.inr (Nat.zero_le _)))
    simp at d0 d1
    rw [h]
    clear b1 hb
    go_wp2_with fail
    refine (mapped0 sg 70 s xs _ B w1 HA1.out (by omega) hn (enters_of Try.func70 (by kernel_rfl) rfl) (fun j _ W => (implSign _ W).mono fun _ _ hh => ⟨hh.1, by rw [← hh.2]; exact Below.refl _ _⟩)).mono ?_
    rintro e w2 ⟨ao2, cap2, rfl, o2, b2⟩
    have HB2 := hid (HB1.out.trans (b2.mono (by omega)))
    have HO2 := hid o2
    clear b2 o2 d0 d1
    have HI := hid (implSum (xs.map sg) 1 _ _ w2 HO2.out.ints (by simp; omega) (by omega) (fun j hj => by
      have e : (xs.map sg).getD j 0 = sg (xs.getD j 0) := by
        have hj' : j < xs.length := by simpa using hj
        simp [List.getD, List.getElem?_eq_getElem hj']
      rw [e]
      exact sg_le _))
    have hfd := fieldWord s ao2 xs.length cap2
    go_wp2_with fail
    refine HI.out.mono ?_
    rintro e w3 ⟨rfl, rfl⟩
    go_wp2
    go_ret
    exact ⟨by rw [HF.out]; rfl, HB2.out⟩
  · have h' : okB s xs = false := by simpa using h
    have HF : Hid (exB s xs = 0) := hid (by rw [exB, if_neg h])
    clear h
    go_enter Try.func27, Try.ntmps27
    go_wp2_with fail
    refine (implValidB s xs _ B _ (ints_al HA.out _) (by simp; omega) hn).mono ?_
    rintro e w1 ⟨rfl, b1⟩
    have HB1 := hid (box1 b1).2.1
    rw [h']
    clear b1
    go_wp2
    go_ret
    exact ⟨by rw [HF.out]; rfl, HB1.out⟩

theorem specExp (s : Int) (xs : List Int) (v : Value) (B : Nat) (w : World) (ha : Ints w B v xs) (_hB : B ≤ w.heap.size) (hn : xs.length ≤ 1099511627776) :
    Calls Try.prog 26 #[.agg #[.int .i64 s, v]] w fun e w' => e = .returned (.int .i64 (exB s xs)) ∧ Below w.heap.size w w' := by
  obtain ⟨ao, cap, hv⟩ := ints_val ha
  obtain ⟨n, hnn⟩ : ∃ n, n = xs.length := ⟨_, rfl⟩
  rw [← hnn] at hv
  subst hv
  have HA := hid ha
  have HN := hid hnn
  clear ha hnn
  have HV := hid (specOkA s xs (.slice ao n cap) B w HA.out hn)
  by_cases h : okB s xs = true
  · have HF : Hid (exB s xs = expL xs) := hid (by rw [exB, if_pos h])
    have HK := hid (ok_parts h)
    have hl : n ≤ 40 := by rw [HN.out]; exact HK.out.2.2.1
    rw [h] at HV
    go_enter Try.func26, Try.ntmps26
    go_wp2_with fail
    refine HV.out.mono ?_
    rintro e w1 ⟨rfl, q, rfl⟩
    have d1 : ((w.alloc (.cells #[.int .i64 s, .slice ao n cap] 27)).drewN q).cell? ⟨w.heap.size, 1, none⟩ = some (.slice ao n cap) := World.cell?_alloc_at _ _ _ _ rfl
    have HB1 : Hid (Below w.heap.size w ((w.alloc (.cells #[.int .i64 s, .slice ao n cap] 27)).drewN q)) := hid (bdrewN ((Below.refl w.heap.size w).alloc (Nat.le_refl _) _) _)
    generalize (w.alloc (.cells #[.int .i64 s, .slice ao n cap] 27)).drewN q = w1 at *
    have HA1 := hid (HA.out.chg (Chg.ofBelow (lo := 0) HB1.out) (.inr (Nat.zero_le _)))
    clear HA HV
    go_wp2
    go_loop [3, 4] (fun t i => ∃ k : Nat, k ≤ n ∧ i = .int .i64 k ∧ t = .int .i64 (expTo xs k)) (fun _ i => n - (intOf i).toNat)
    case atStart => exact ⟨0, Nat.zero_le _, rfl, rfl⟩
    case round =>
      obtain ⟨k, hk, rfl, rfl⟩ := hrel
      have hle := expTo_le xs k (by rw [← HN.out]; exact hk)
      by_cases hlt : k < n
      · rcases HA1.out with ⟨hx, _⟩ | ⟨hp, b, off, cap', hv, hb, hc⟩
        · rw [HN.out, hx] at hlt; simp at hlt
        · simp only [Value.slice.injEq] at hv
          obtain ⟨rfl, hlen, rfl⟩ := hv
          clear hlen
          have h1 := hc k (by rw [← HN.out]; exact hlt)
          have hne := (HK.out.2.2.2 k (by rw [← HN.out]; exact hlt)).1
          have HS := hid (expTo_succ xs k (by rw [← HN.out]; exact hlt))
          clear hc hp
          generalize xs.getD k 0 = x at *
          generalize expTo xs k = t at *
          by_cases hx : 0 < x
          · have HG : Hid (sg x = 1) := hid (by rw [sg, if_neg (by omega)])
            clear hne
            go_wp2
            go_round
            case rel => exact ⟨k + 1, by omega, by go_num, by rw [HS.out, HG.out]⟩
            case measure => simp [intOf]; omega
          · have HG : Hid (sg x = -1) := hid (by rw [sg, if_pos (by omega)])
            clear hne
            go_wp2
            go_round
            case rel => exact ⟨k + 1, by omega, by go_num, by rw [HS.out, HG.out]; rfl⟩
            case measure => simp [intOf]; omega
      · obtain rfl : k = n := by omega
        have HS : Hid (expTo xs k = expL xs) := hid (by rw [HN.out]; exact expTo_all xs)
        go_wp2
        go_ret
        exact ⟨by rw [HF.out, ← HS.out]; rfl, HB1.out⟩
  · have h' : okB s xs = false := by simpa using h
    have HF : Hid (exB s xs = 0) := hid (by rw [exB, if_neg h])
    rw [h'] at HV
    clear h h'
    go_enter Try.func26, Try.ntmps26
    go_wp2_with fail
    refine HV.out.mono ?_
    rintro e w1 ⟨rfl, q, rfl⟩
    go_wp2
    go_ret
    exact ⟨by rw [HF.out]; rfl, bdrewN ((Below.refl w.heap.size w).alloc (Nat.le_refl _) _) _⟩
end Go.Proofs.Ytbeaopblopmpeaa.br
