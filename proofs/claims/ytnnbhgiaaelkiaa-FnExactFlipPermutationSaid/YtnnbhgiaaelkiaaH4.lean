/-
  Permutations turned around: contracts of FlipPermutation, of the program and of its model.
-/
import Derived.Test.YtnnbhgiaaelkiaaH2
import Derived.Test.YtnnbhgiaaelkiaaRvs
namespace Go.Proofs.Ytnnbhgiaaelkiaa.fn
open Go.RowKit Go.Proofs.Ytnnbhgiaaelkiaa.sl Go.Proofs.Ytnnbhgiaaelkiaa.pm Go.Proofs.Ytnnbhgiaaelkiaa.la

def flipL (p : List Int) : List Int := (revL p).reverse
theorem flipL_len (p : List Int) : (flipL p).length = p.length := by simp [flipL, revL_len]
theorem flipL_at (p : List Int) (k : Nat) (h : k < p.length) : (flipL p).getD k 0 = (p.length : Int) - 1 - p.getD (p.length - 1 - k) 0 := by
  rw [flipL, rv.getD_rev _ k (by rw [revL_len]; exact h), revL_len, revL_at p _ (by omega)]
theorem flipL_set (p : List Int) (k : Nat) (h : k < p.length) : (sl.part (flipL p) k).set k ((p.length : Int) - 1 - p.getD (p.length - 1 - k) 0) = sl.part (flipL p) (k + 1) := by
  rw [← flipL_at p k h]; exact sl.part_set _ k (by rw [flipL_len]; exact h)
theorem flipL_plen (p : List Int) (k : Nat) (h : k ≤ p.length) : (sl.part (flipL p) k).length = p.length := by rw [sl.part_len _ k (by rw [flipL_len]; exact h), flipL_len]

theorem specFlip (p : List Int) (v : Value) (B : Nat) (w : World) (ha : Ints w B v p) (hB : B ≤ w.heap.size) (hn : p.length ≤ 1099511627776) (hp : Places p.length p) :
    Calls Try.prog 72 #[v] w fun e w' => ∃ v', e = .returned v' ∧ Own w' w.heap.size w'.heap.size v' (flipL p) ∧ Below w.heap.size w w' := by
  obtain ⟨i0, hi, hz0, hz1, hz2⟩ := info_parts info64
  have HP := hid hp
  clear hp
  rcases ha with ⟨rfl, ao, cap, rfl⟩ | ⟨hp, b, off, cap, rfl, hb', hc⟩
  · go_enter Try.func72, Try.ntmps72
    go_wp2_with (at_make; refine wpList_make_full _ rfl (.tmp 8) (.tmp 8) 22 rfl w.heap.size 2 i0 (.int .i64 0) 1 Try.underlying22 hi hz0 hz1 .i64 .i64 _ _ 0 rfl rfl (by rfl) (by rfl) (by omega) (by unfold maxLen; omega) (Nat.le_refl _) ?_; intro w1 hown1 hgrow1)
    have HO1 := hid (made_own hown1)
    have HB1 : Hid (Below w.heap.size w w1) := hid ((Below.refl _ _).grown hgrow1 (Nat.le_refl _) (fun k hk => by cases hk))
    clear hown1 hgrow1
    refine wp_loop_rounds 1 ?_
    rw [rounds_succ]
    go_wp2
    go_ret
    exact ⟨_, rfl, HO1.out, HB1.out⟩
  · have HC : Hid (∀ j, j < p.length → w.cell? ⟨b, off + j, none⟩ = some (.int .i64 (p.getD j 0))) := hid hc
    obtain ⟨n, hnn⟩ : ∃ n, n = p.length := ⟨_, rfl⟩
    rw [← hnn] at hp hn ⊢
    have HN := hid hnn
    clear hc hnn
    go_enter Try.func72, Try.ntmps72
    go_wp2_with (at_make; refine wpList_make_full _ rfl (.tmp 8) (.tmp 8) 22 rfl w.heap.size 2 i0 (.int .i64 0) 1 Try.underlying22 hi hz0 hz1 .i64 .i64 _ _ n rfl rfl (by rfl) (by rfl) (by rw [hz2]; omega) (by unfold maxLen; omega) (Nat.le_refl _) ?_; intro w1 hown1 hgrow1)
    have HO1 := hid (made_own hown1)
    have HB1 : Hid (Below w.heap.size w w1) := hid ((Below.refl _ _).grown hgrow1 (Nat.le_refl _) (fun k hk => by cases hk))
    clear hown1 hgrow1
    go_loopw [5] (fun i wr => ∃ k : Nat, k ≤ n ∧ i = .int .i64 k ∧ Own wr w.heap.size wr.heap.size (.slice (some ⟨w.heap.size, 0, none⟩) n n) (sl.part (flipL p) k) ∧ Below w.heap.size w wr)
      (fun i _ => n - (intOf i).toNat)
    case atStart => exact ⟨0, Nat.zero_le _, rfl, by rw [sl.part_zero, flipL_len, ← HN.out]; exact HO1.out, HB1.out⟩
    case round =>
      obtain ⟨k, hk, rfl, hown, hbel⟩ := hrel
      have HO := hid hown
      have HBr := hid hbel
      clear hown hbel
      by_cases hlt : k < n
      · obtain ⟨x, hx, hxm⟩ := HP.out (n - 1 - k) (by rw [← HN.out]; omega)
        rw [← HN.out] at hxm
        have h1 : wr.cell? ⟨b, off + (n - 1 - k), none⟩ = some (.int .i64 (x : Int)) := by rw [← hx]; exact (HBr.out.cell (p := ⟨b, off + (n - 1 - k), none⟩) (by show b < _; omega)).trans (HC.out (n - 1 - k) (by rw [← HN.out]; omega))
        have hcell := (HO.out.at' k (by rw [flipL_plen p k (by rw [← HN.out]; exact hk), ← HN.out]; exact hlt)).1
        have hfr := (HO.out.at' k (by rw [flipL_plen p k (by rw [← HN.out]; exact hk), ← HN.out]; exact hlt)).2
        have HS := hid (HO.out.set k ((n : Int) - 1 - (x : Int))).1
        have HX := hid (flipL_set p k (by rw [← HN.out]; exact hlt))
        rw [← HN.out, hx] at HX
        clear hx
        obtain ⟨m, hm⟩ : ∃ m, m = n - 1 - k := ⟨_, rfl⟩
        have hmi : (n : Int) - 1 - (k : Int) = (m : Int) := by omega
        rw [← hm] at h1
        clear hm
        go_wp2
        go_roundw
        case rel => exact ⟨k + 1, by omega, by go_num, by have := HS.out; rw [HX.out] at this; simpa using this, HBr.out.setCell (by simp) _⟩
        case measure => simp [intOf]; omega
      · obtain rfl : k = n := by omega
        go_wp2
        go_ret
        exact ⟨_, rfl, by have := HO.out; rw [show sl.part (flipL p) k = flipL p by rw [HN.out, ← flipL_len p]; exact sl.part_all _] at this; exact this, HBr.out⟩

def flP (p : List Int) : List Int := if permB p = true then flipL p else []
theorem flP_len (p : List Int) : (flP p).length ≤ 12 := by
  unfold flP
  split
  · rename_i h; rw [flipL_len]; exact perm_len h
  · simp

theorem specFlipP (p : List Int) (v : Value) (B : Nat) (w : World) (ha : Ints w B v p) (hB : B ≤ w.heap.size) (hn : p.length ≤ 1099511627776) (hcap : CapOk v) :
    Calls Try.prog 31 #[v] w fun e w' => ∃ v', e = .returned v' ∧ Own w' w.heap.size w'.heap.size v' (flP p) ∧ Below w.heap.size w w' := by
  have HA := hid ha
  clear ha
  by_cases h : permB p = true
  · have HF : Hid (flP p = flipL p) := hid (by rw [flP, if_pos h])
    have HP := hid (perm_places h)
    go_enter Try.func31, Try.ntmps31
    go_wp2_with fail
    refine (specPerm4 p v _ w HA.out hn hcap).mono ?_
    rintro e w1 ⟨rfl, b1⟩
    have HA1 := hid (HA.out.chg (Chg.ofBelow (lo := 0) b1) (.inr (Nat.zero_le _)))
    have C1 := hid b1
    clear b1
    go_wp2_with fail
    refine (specFlip p v _ w1 HA1.out (Nat.le_trans hB C1.out.size) hn HP.out).mono ?_
    rintro e w2 ⟨v', rfl, o2, b2⟩
    have O2 := hid (o2.lo C1.out.size)
    have C2 := hid (C1.out.trans (b2.mono C1.out.size))
    clear o2 b2
    go_wp2
    go_ret
    exact ⟨_, rfl, by rw [HF.out]; exact O2.out, C2.out⟩
  · have h' : permB p = false := by simpa using h
    have HF : Hid (flP p = []) := hid (by rw [flP, if_neg h])
    clear h
    go_enter Try.func31, Try.ntmps31
    go_wp2_with fail
    refine (specPerm4 p v _ w HA.out hn hcap).mono ?_
    rintro e w1 ⟨rfl, b1⟩
    have C1 := hid b1
    clear b1
    go_wp2
    go_ret
    exact ⟨_, rfl, by rw [HF.out]; exact (Own.nil _ _), C1.out⟩

theorem implFlipP (p : List Int) (v : Value) (B : Nat) (w : World) (ha : Ints w B v p) (hB : B ≤ w.heap.size) (hn : p.length ≤ 1099511627776) (_hcap : CapOk v) :
    Calls Try.prog 32 #[v] w fun e w' => ∃ v', e = .returned v' ∧ Own w' w.heap.size w'.heap.size v' (flP p) ∧ Below w.heap.size w w' := by
  have HA := hid ha
  clear ha
  by_cases h : permB p = true
  · have HF : Hid (flP p = flipL p) := hid (by rw [flP, if_pos h])
    have HP := hid (perm_places h)
    have HL : Hid ((revL p).length ≤ 1099511627776) := hid (by rw [revL_len]; exact hn)
    go_enter Try.func32, Try.ntmps32
    go_wp2_with fail
    refine (implOk p v _ w HA.out hB hn).mono ?_
    rintro e w1 ⟨rfl, b1⟩
    have HA1 := hid (HA.out.chg (Chg.ofBelow (lo := 0) b1) (.inr (Nat.zero_le _)))
    have C1 := hid b1
    clear b1
    go_wp2_with fail
    refine (implRev p v _ w1 HA1.out (Nat.le_trans hB C1.out.size) hn HP.out).mono ?_
    rintro e w2 ⟨v2, rfl, o2, b2⟩
    have O2 := hid (o2.lo C1.out.size)
    have C2 := hid (C1.out.trans (b2.mono C1.out.size))
    clear o2 b2
    go_wp2_with fail
    refine (rv.reverse (revL p) v2 _ _ w2 O2.out HL.out).mono ?_
    rintro e w3 ⟨rfl, o3, c3⟩
    have hz3 := c3.size
    have O3 := hid o3
    have C3 := hid (C2.out.trans (c3.below (Nat.le_refl _) C2.out.size))
    clear o3 c3
    go_wp2
    go_ret
    exact ⟨_, rfl, by rw [HF.out]; exact O3.out.hi hz3 (Nat.le_refl _), C3.out⟩
  · have h' : permB p = false := by simpa using h
    have HF : Hid (flP p = []) := hid (by rw [flP, if_neg h])
    clear h
    go_enter Try.func32, Try.ntmps32
    go_wp2_with fail
    refine (implOk p v _ w HA.out hB hn).mono ?_
    rintro e w1 ⟨rfl, b1⟩
    have C1 := hid b1
    clear b1
    go_wp2
    go_ret
    exact ⟨_, rfl, by rw [HF.out]; exact (Own.nil _ _), C1.out⟩

end Go.Proofs.Ytnnbhgiaaelkiaa.fn
