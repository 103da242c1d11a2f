/-
  Join and meet of the model: contracts of l02Close, l02Turn, JoinPermutations and MeetPermutations.
-/
import Derived.Test.YtnnbhgiaaelkiaaMj7
namespace Go.Proofs.Ytnnbhgiaaelkiaa.mj
open Go.RowKit Go.Proofs.Ytnnbhgiaaelkiaa.sl Go.Proofs.Ytnnbhgiaaelkiaa.pm Go.Proofs.Ytnnbhgiaaelkiaa.bt Go.Proofs.Ytnnbhgiaaelkiaa.la Go.Proofs.Ytnnbhgiaaelkiaa.fn

set_option maxRecDepth 100000 in
theorem specClose0 (ao : Option Addr) (cap : Nat) (u : Value) (w : World) :
    Calls Try.prog 56 #[.slice ao 0 cap, u] w fun e w' => ∃ v', e = .returned v' ∧ Own w' w.heap.size w'.heap.size v' [] ∧ Below w.heap.size w w' := by
  obtain ⟨i0, hi, hz0, hz1, hz2⟩ := info_parts infoB
  obtain ⟨i1, hi1, hy0, hy1, hy2⟩ := info_parts info64
  go_enter Try.func56, Try.ntmps56
  go_wp2_with (at_make; refine wpList_make_full _ rfl (.tmp 19) (.tmp 19) 67 rfl w.heap.size 4 i0 (.bool false) 1 Try.underlying67 hi hz0 hz1 .i64 .i64 _ _ 0 rfl rfl (by rfl) (by rfl) (by omega) (by unfold maxLen; omega) (Nat.le_refl _) ?_; intro w1 hown1 hgrow1)
  have HL1 : Hid (Below w.heap.size w w1) := hid ((Below.refl _ _).grown hgrow1 (Nat.le_refl _) (fun k hk => by cases hk))
  have hz := hgrow1.size
  clear hown1 hgrow1
  refine wp_loop_rounds 1 ?_
  rw [rounds_succ]
  go_wp2
  refine wp_loop_rounds 1 ?_
  rw [rounds_succ]
  go_wp2_with (at_make; refine wpList_make_full _ rfl (.tmp 110) (.tmp 110) 22 rfl w1.heap.size 2 i1 (.int .i64 0) 1 Try.underlying22 hi1 hy0 hy1 .i64 .i64 _ _ 0 rfl rfl (by rfl) (by rfl) (by omega) (by unfold maxLen; omega) (Nat.le_refl _) ?_; intro w3 hown3 hgrow3)
  have HO3 := hid (made_own hown3)
  have HL3 : Hid (Below w1.heap.size w1 w3) := hid ((Below.refl _ _).grown hgrow3 (Nat.le_refl _) (fun k hk => by cases hk))
  clear hown3 hgrow3
  refine wp_loop_rounds 1 ?_
  rw [rounds_succ]
  go_wp2
  go_ret
  exact ⟨_, rfl, HO3.out.lo HL1.out.size, HL1.out.trans (HL3.out.mono HL1.out.size)⟩

theorem specClose (p q : List Int) (v u : Value) (B C : Nat) (w : World) (ha : Ints w B v p) (hb : Ints w C u q) (hB : B ≤ w.heap.size) (hC : C ≤ w.heap.size) (hp : p.length ≤ 12) (hl : p.length = q.length) :
    Calls Try.prog 56 #[v, u] w fun e w' => ∃ v', e = .returned v' ∧ Own w' w.heap.size w'.heap.size v' (joinL p q) ∧ Below w.heap.size w w' := by
  rcases ha with ⟨rfl, ao, cap, rfl⟩ | ⟨hp0, b, off, cap, rfl, hbb, hc⟩
  · rw [show joinL [] q = [] from List.eq_nil_of_length_eq_zero (joinL_len [] q)]
    exact specClose0 ao cap u w
  · rcases hb with ⟨rfl, ao', cap', rfl⟩ | ⟨hq0, b', off', cap', rfl, hbb', hc'⟩
    · rw [List.length_nil] at hl; omega
    · rw [← hl] at hc' ⊢
      exact specCloseN p q p.length b off cap b' off' cap' w rfl hl hp0 hp (by omega) (by omega) hc hc'

theorem turn_step (p : List Int) (k : Nat) (h : k < p.length) : (revL p).take (k + 1) = (revL p).take k ++ [(p.length : Int) - 1 - p.getD k 0] := by
  rw [take_one (revL p) k (by rw [revL_len]; exact h), revL_at p k h]

theorem specTurn (p : List Int) (v : Value) (B : Nat) (w : World) (ha : Ints w B v p) (hB : B ≤ w.heap.size) (hn : p.length ≤ 1099511627776) (hp : Places p.length p) :
    Calls Try.prog 58 #[v] w fun e w' => ∃ v', e = .returned v' ∧ Own w' w.heap.size w'.heap.size v' (revL p) ∧ Below w.heap.size w w' := by
  have HP := hid hp
  clear hp
  rcases ha with ⟨rfl, ao, cap, rfl⟩ | ⟨hp, b, off, cap, rfl, hb', hc⟩
  · go_enter Try.func58, Try.ntmps58
    go_wp2
    refine wp_loop_rounds 1 ?_
    rw [rounds_succ]
    go_wp2
    go_ret
    exact ⟨_, rfl, Own.built w _ rfl, (Below.refl _ _).alloc (Nat.le_refl _) _⟩
  · have HC : Hid (∀ j, j < p.length → w.cell? ⟨b, off + j, none⟩ = some (.int .i64 (p.getD j 0))) := hid hc
    obtain ⟨n, hnn⟩ : ∃ n, n = p.length := ⟨_, rfl⟩
    rw [← hnn] at hp hn ⊢
    have HN := hid hnn
    clear hc hnn
    go_enter Try.func58, Try.ntmps58
    go_wp2
    go_loopw [3, 4] (fun v i wr => ∃ k : Nat, k ≤ n ∧ i = .int .i64 k ∧ Own wr w.heap.size wr.heap.size v ((revL p).take k) ∧ Below w.heap.size w wr)
      (fun _ i _ => n - (intOf i).toNat)
    case atStart => exact ⟨0, Nat.zero_le _, rfl, Own.built w _ rfl, (Below.refl _ _).alloc (Nat.le_refl _) _⟩
    case round =>
      obtain ⟨k, hk, rfl, hown, hbel⟩ := hrel
      have HO := hid hown
      have HB := hid hbel
      have hsz := hbel.size
      clear hown hbel
      by_cases hlt : k < n
      · obtain ⟨x, hx, hxm⟩ := HP.out k (by rw [← HN.out]; exact hlt)
        rw [← HN.out] at hxm
        have h1 : wr.cell? ⟨b, off + k, none⟩ = some (.int .i64 (x : Int)) := by rw [← hx]; exact (HB.out.cell (p := ⟨b, off + k, none⟩) (by show b < _; omega)).trans (HC.out k (by rw [← HN.out]; exact hlt))
        have HS := hid (turn_step p k (by rw [← HN.out]; exact hlt))
        rw [hx, ← HN.out] at HS
        have htl : ((revL p).take k).length ≤ 1099511627775 := by rw [List.length_take]; omega
        clear hx
        go_wp2_with (at_builtin; refine wp_append rfl _ _ rfl w.heap.size wr.heap.size _ ((revL p).take k) ((n : Int) - 1 - (x : Int)) HO.out rfl rfl hsz (by omega) ?_; intro v' w1 hown1 hchg1 hsz1)
        have HO1 := hid hown1
        have HB1 := hid (HB.out.trans (hchg1.below (Nat.le_refl _) hsz))
        clear hown1 hchg1
        go_wp2
        go_roundw
        case rel => exact ⟨k + 1, by omega, by go_num, by rw [HS.out]; exact HO1.out, HB1.out⟩
        case measure => simp [intOf]; omega
      · obtain rfl : k = n := by omega
        have HS : Hid ((revL p).take k = revL p) := hid (by rw [List.take_of_length_le]; rw [revL_len]; exact Nat.le_of_eq HN.out.symm)
        go_wp2
        go_ret
        exact ⟨_, rfl, by rw [← HS.out]; exact HO.out, HB.out⟩

theorem specJoinP (p q : List Int) (v u : Value) (B C : Nat) (w : World) (ha : Ints w B v p) (hb : Ints w C u q) (hB : B ≤ w.heap.size) (hC : C ≤ w.heap.size) (hn : p.length ≤ 1099511627776) (hm : q.length ≤ 1099511627776) :
    Calls Try.prog 21 #[v, u] w fun e w' => ∃ v', e = .returned (.tuple #[v', .bool (bothB p q)]) ∧ Own w' w.heap.size w'.heap.size v' (jnP p q) ∧ Below w.heap.size w w' := by
  have HA := hid ha
  have HB := hid hb
  by_cases h : bothB p q = true
  · have HP : Hid (p.length ≤ 12 ∧ p.length = q.length) := hid ⟨perm_len (both_parts h).1, (both_parts h).2.2⟩
    have HF : Hid (jnP p q = joinL p q) := hid (by rw [jnP, if_pos h])
    clear ha hb
    go_enter Try.func21, Try.ntmps21
    go_wp2_with fail
    refine (specBoth p q v u _ _ w HA.out HB.out hB hC hn hm).mono ?_
    rintro e w1 ⟨rfl, b1⟩
    have HA1 := hid (HA.out.chg (Chg.ofBelow (lo := 0) b1) (.inr (Nat.zero_le _)))
    have HB1 := hid (HB.out.chg (Chg.ofBelow (lo := 0) b1) (.inr (Nat.zero_le _)))
    have C1 := hid b1
    clear b1 HA HB
    go_wp2_with fail
    refine (specClose p q v u _ _ w1 HA1.out HB1.out (Nat.le_trans hB C1.out.size) (Nat.le_trans hC C1.out.size) HP.out.1 HP.out.2).mono ?_
    rintro e w2 ⟨v2, rfl, o2, b2⟩
    have O2 := hid (o2.lo C1.out.size)
    have C2 := hid (C1.out.trans (b2.mono C1.out.size))
    clear o2 b2
    go_wp2
    go_ret2
    exact ⟨_, by rw [h]; rfl, by rw [HF.out]; exact O2.out, C2.out⟩
  · have h' : bothB p q = false := by simpa using h
    have HF : Hid (jnP p q = []) := hid (by rw [jnP, if_neg h])
    clear h ha hb
    go_enter Try.func21, Try.ntmps21
    go_wp2_with fail
    refine (specBoth p q v u _ _ w HA.out HB.out hB hC hn hm).mono ?_
    rintro e w1 ⟨rfl, b1⟩
    have C1 := hid b1
    clear b1
    go_wp2
    go_ret2
    exact ⟨_, by rw [h']; rfl, by rw [HF.out]; exact (Own.nil _ _), C1.out⟩

theorem specMeetP (p q : List Int) (v u : Value) (B C : Nat) (w : World) (ha : Ints w B v p) (hb : Ints w C u q) (hB : B ≤ w.heap.size) (hC : C ≤ w.heap.size) (hn : p.length ≤ 1099511627776) (hm : q.length ≤ 1099511627776) :
    Calls Try.prog 23 #[v, u] w fun e w' => ∃ v', e = .returned (.tuple #[v', .bool (bothB p q)]) ∧ Own w' w.heap.size w'.heap.size v' (mtP p q) ∧ Below w.heap.size w w' := by
  have HA := hid ha
  have HB := hid hb
  by_cases h : bothB p q = true
  · have HP : Hid (p.length ≤ 12 ∧ p.length = q.length ∧ Places p.length p ∧ Places q.length q) := hid ⟨perm_len (both_parts h).1, (both_parts h).2.2, perm_places (both_parts h).1, perm_places (both_parts h).2.1⟩
    have HF : Hid (mtP p q = meetL p q) := hid (by rw [mtP, if_pos h])
    have HJp : Hid (Places (joinL (revL p) (revL q)).length (joinL (revL p) (revL q))) := hid (by have := join_places (revL p) (revL q); rw [joinL_len]; exact this)
    have HR1 : Hid ((revL p).length ≤ 12 ∧ (revL p).length = (revL q).length ∧ (joinL (revL p) (revL q)).length ≤ 1099511627776) := hid ⟨by rw [revL_len]; exact HP.out.1, by rw [revL_len, revL_len]; exact HP.out.2.1, by rw [joinL_len, revL_len]; omega⟩
    clear ha hb
    go_enter Try.func23, Try.ntmps23
    go_wp2_with fail
    refine (specBoth p q v u _ _ w HA.out HB.out hB hC hn hm).mono ?_
    rintro e w1 ⟨rfl, b1⟩
    have HA1 := hid (HA.out.chg (Chg.ofBelow (lo := 0) b1) (.inr (Nat.zero_le _)))
    have HB1 := hid (HB.out.chg (Chg.ofBelow (lo := 0) b1) (.inr (Nat.zero_le _)))
    have C1 := hid b1
    have z1 := b1.size
    clear b1 HA HB
    go_wp2_with fail
    refine (specTurn p v _ w1 HA1.out (by omega) hn HP.out.2.2.1).mono ?_
    rintro e w2 ⟨v2, rfl, o2, b2⟩
    have HB2 := hid (HB1.out.chg (Chg.ofBelow (lo := 0) b2) (.inr (Nat.zero_le _)))
    have O2 := hid o2
    have C2 := hid (C1.out.trans (b2.mono z1))
    have z2 := b2.size
    clear o2 b2 HA1 HB1
    go_wp2_with fail
    refine (specTurn q u _ w2 HB2.out (by omega) hm HP.out.2.2.2).mono ?_
    rintro e w3 ⟨v3, rfl, o3, b3⟩
    have O2b := hid (O2.out.chg (Chg.ofBelow (lo := 0) b3) (.inr (.inr (Nat.zero_le _))))
    have O3 := hid o3
    have C3 := hid (C2.out.trans (b3.mono (by omega)))
    have z3 := b3.size
    clear o3 b3 O2 HB2
    go_wp2_with fail
    refine (specClose (revL p) (revL q) v2 v3 _ _ w3 O2b.out.ints O3.out.ints (by omega) (by omega) HR1.out.1 HR1.out.2.1).mono ?_
    rintro e w4 ⟨v4, rfl, o4, b4⟩
    have O4 := hid o4
    have C4 := hid (C3.out.trans (b4.mono (by omega)))
    have z4 := b4.size
    clear o4 b4 O2b O3
    go_wp2_with fail
    refine (specTurn (joinL (revL p) (revL q)) v4 _ w4 O4.out.ints (Nat.le_refl _) HR1.out.2.2 HJp.out).mono ?_
    rintro e w5 ⟨v5, rfl, o5, b5⟩
    have O5 := hid (o5.lo (lo' := w.heap.size) (by omega))
    have C5 := hid (C4.out.trans (b5.mono (by omega)))
    clear o5 b5
    go_wp2
    go_ret2
    exact ⟨_, by rw [h]; rfl, by rw [HF.out]; exact O5.out, C5.out⟩
  · have h' : bothB p q = false := by simpa using h
    have HF : Hid (mtP p q = []) := hid (by rw [mtP, if_neg h])
    clear h ha hb
    go_enter Try.func23, Try.ntmps23
    go_wp2_with fail
    refine (specBoth p q v u _ _ w HA.out HB.out hB hC hn hm).mono ?_
    rintro e w1 ⟨rfl, b1⟩
    have C1 := hid b1
    clear b1
    go_wp2
    go_ret2
    exact ⟨_, by rw [h']; rfl, by rw [HF.out]; exact (Own.nil _ _), C1.out⟩

end Go.Proofs.Ytnnbhgiaaelkiaa.mj
