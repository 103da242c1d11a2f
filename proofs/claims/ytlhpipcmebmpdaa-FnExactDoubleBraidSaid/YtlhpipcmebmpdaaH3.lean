/-
  The letters with which permutation braids begin and end: contracts of StartLetters and FinishLetters, of the program and of its model.
-/
import Derived.Test.YtlhpipcmebmpdaaH1
import Derived.Test.YtlhpipcmebmpdaaDesc
import Derived.Test.YtlhpipcmebmpdaaInv
namespace Go.Proofs.Ytlhpipcmebmpdaa.fn
open Go.RowKit Go.Proofs.Ytlhpipcmebmpdaa.sl Go.Proofs.Ytlhpipcmebmpdaa.pm

def startTo (p : List Int) (k : Nat) : List Int := (descTo p k).map (· + 1)
def startL (p : List Int) : List Int := (descL p).map (· + 1)
theorem startTo_len (p : List Int) (k : Nat) : (startTo p k).length ≤ k := by simp [startTo]; exact descTo_len p k
theorem startL_len (p : List Int) : (startL p).length ≤ p.length := by
  have := descTo_len p (p.length - 1)
  simp only [startL, descL, List.length_map]; omega
theorem start_yes (p : List Int) (k : Nat) (h : p.getD (k + 1) 0 < p.getD k 0) : startTo p (k + 1) = startTo p k ++ [(k : Int) + 1] := by simp [startTo, desc_yes p k h]
theorem start_no (p : List Int) (k : Nat) (h : ¬ p.getD (k + 1) 0 < p.getD k 0) : startTo p (k + 1) = startTo p k := by simp [startTo, desc_no p k h]
theorem descTo_mem (p : List Int) (k : Nat) (x : Int) : x ∈ descTo p k ↔ ∃ j : Nat, j < k ∧ p.getD (j + 1) 0 < p.getD j 0 ∧ x = (j : Int) := by
  induction k with
  | zero => simp [descTo]
  | succ k ih =>
    by_cases h : p.getD (k + 1) 0 < p.getD k 0
    · rw [desc_yes p k h, List.mem_append, ih]
      constructor
      · rintro (⟨j, hj, hd, rfl⟩ | hx)
        · exact ⟨j, by omega, hd, rfl⟩
        · exact ⟨k, by omega, h, by simpa using hx⟩
      · rintro ⟨j, hj, hd, rfl⟩
        by_cases e : j = k
        · subst e; exact .inr (by simp)
        · exact .inl ⟨j, by omega, hd, rfl⟩
    · rw [desc_no p k h, ih]
      constructor
      · rintro ⟨j, hj, hd, rfl⟩; exact ⟨j, by omega, hd, rfl⟩
      · rintro ⟨j, hj, hd, rfl⟩
        by_cases e : j = k
        · subst e; exact absurd hd h
        · exact ⟨j, by omega, hd, rfl⟩
theorem startL_mem (p : List Int) (x : Int) : x ∈ startL p ↔ ∃ j : Nat, j + 1 < p.length ∧ p.getD (j + 1) 0 < p.getD j 0 ∧ x = (j : Int) + 1 := by
  simp only [startL, descL, List.mem_map, descTo_mem]
  constructor
  · rintro ⟨y, ⟨j, hj, hd, rfl⟩, rfl⟩; exact ⟨j, by omega, hd, rfl⟩
  · rintro ⟨j, hj, hd, rfl⟩; exact ⟨_, ⟨j, by omega, hd, rfl⟩, rfl⟩

theorem specStart (p : List Int) (v : Value) (B : Nat) (w : World) (ha : Ints w B v p) (hB : B ≤ w.heap.size) (hn : p.length ≤ 1099511627776) :
    Calls Try.prog 153 #[v] w fun e w' => ∃ v', e = .returned v' ∧ Own w' w.heap.size w'.heap.size v' (startL p) ∧ Below w.heap.size w w' := by
  rcases ha with ⟨rfl, ao, cap, rfl⟩ | ⟨hp, b, off, cap, rfl, hb', hc⟩
  · go_enter Try.func153, Try.ntmps153
    go_wp2
    refine wp_loop_rounds 1 ?_
    rw [rounds_succ]
    go_wp2
    go_ret
    exact ⟨_, rfl, Own.built w _ rfl, (Below.refl _ _).alloc (Nat.le_refl _) _⟩
  · have HC : Hid (∀ j, j < p.length → w.cell? ⟨b, off + j, none⟩ = some (.int .i64 (p.getD j 0))) := hid hc
    obtain ⟨n, hnn⟩ : ∃ n, n = p.length := ⟨_, rfl⟩
    rw [← hnn] at hp hn ⊢
    have HN := hid hnn
    clear hc hnn
    go_enter Try.func153, Try.ntmps153
    go_wp2
    go_loopw [3, 4] (fun v i wr => ∃ k : Nat, k ≤ n - 1 ∧ i = .int .i64 ((k : Int) + 1) ∧ Own wr w.heap.size wr.heap.size v (startTo p k) ∧ Below w.heap.size w wr)
      (fun _ i _ => n - (intOf i).toNat)
    case atStart => exact ⟨0, Nat.zero_le _, rfl, Own.built w _ rfl, (Below.refl _ _).alloc (Nat.le_refl _) _⟩
    case round =>
      obtain ⟨k, hk, rfl, hown, hbel⟩ := hrel
      have HO := hid hown
      have HB := hid hbel
      have hsz := hbel.size
      have hdl := startTo_len p k
      clear hown hbel
      by_cases hlt : k + 1 < n
      · have hlt' : (k : Int) + 1 < (n : Int) := by omega
        obtain ⟨x, hx⟩ : ∃ x, x = p.getD k 0 := ⟨_, rfl⟩
        obtain ⟨y, hy⟩ : ∃ y, y = p.getD (k + 1) 0 := ⟨_, rfl⟩
        have h1 : wr.cell? ⟨b, off + k, none⟩ = some (.int .i64 x) := by rw [hx]; exact (HB.out.cell (p := ⟨b, off + k, none⟩) (by show b < _; omega)).trans (HC.out k (by rw [← HN.out]; omega))
        have h2 : wr.cell? ⟨b, off + (k + 1), none⟩ = some (.int .i64 y) := by rw [hy]; exact (HB.out.cell (p := ⟨b, off + (k + 1), none⟩) (by show b < _; omega)).trans (HC.out (k + 1) (by rw [← HN.out]; omega))
        have HX := hid hx
        have HY := hid hy
        clear hx hy
        by_cases hd : y < x
        · have HD : Hid (startTo p (k + 1) = startTo p k ++ [(k : Int) + 1]) := hid (start_yes p k (by rw [← HX.out, ← HY.out]; exact hd))
          go_wp2
          go_quiet (fail)
          have HO2 := hid (HO.out.drewN nq)
          have HB2 := hid (bdrewN HB.out nq)
          have hsz2 : w.heap.size ≤ (wr.drewN nq).heap.size := hsz
          clear h1 h2
          generalize wr.drewN nq = w2 at *
          go_wp2_with (at_builtin; refine wp_append rfl _ _ rfl w.heap.size wr.heap.size _ (startTo p k) ((k : Int) + 1) HO2.out rfl rfl hsz2 (by omega) ?_; intro v' w1 hown1 hchg1 hsz1)
          have HO1 := hid hown1
          have HB1 := hid (HB2.out.trans (hchg1.below (Nat.le_refl _) hsz2))
          clear hown1 hchg1
          go_wp2
          go_roundw
          case rel => exact ⟨k + 1, by omega, by go_num, by rw [HD.out]; exact HO1.out, HB1.out⟩
          case measure => simp [intOf]; omega
        · have HD : Hid (startTo p (k + 1) = startTo p k) := hid (start_no p k (by rw [← HX.out, ← HY.out]; exact hd))
          go_wp2
          go_quiet (fail)
          go_wp2
          go_roundw
          case rel => exact ⟨k + 1, by omega, by go_num, by rw [HD.out]; exact HO.out.drewN _, bdrewN HB.out _⟩
          case measure => simp [intOf]; omega
      · have hk' : k = n - 1 := by omega
        have hge : ¬ (k : Int) + 1 < (n : Int) := by omega
        have HE : Hid (startTo p k = startL p) := hid (by rw [hk', HN.out]; rfl)
        go_wp2
        go_ret
        exact ⟨_, rfl, by rw [← HE.out]; exact HO.out, HB.out⟩

def stP (p : List Int) : List Int := if permB p = true then startL p else []
theorem stP_len (p : List Int) : (stP p).length ≤ 12 := by
  unfold stP
  split
  · rename_i h; exact Nat.le_trans (startL_len p) (perm_len h)
  · simp

/-! ### the program -/
theorem succ_at (p : List Int) (k : Nat) (h : k < p.length) : (p.map (· + 1)).getD k 0 = p.getD k 0 + 1 := by
  simp [List.getD, List.getElem?_eq_getElem h]
theorem succ_set (p : List Int) (k : Nat) (h : k < p.length) : (sl.part (p.map (· + 1)) k).set k (p.getD k 0 + 1) = sl.part (p.map (· + 1)) (k + 1) := by
  rw [← succ_at p k h]; exact sl.part_set _ k (by simpa using h)
theorem succ_plen (p : List Int) (k : Nat) (h : k ≤ p.length) : (sl.part (p.map (· + 1)) k).length = p.length := by rw [sl.part_len _ k (by simpa using h)]; simp

theorem desc_small (p : List Int) (h : p.length ≤ 1099511627776) : ∀ j, j < (descL p).length → 0 ≤ (descL p).getD j 0 ∧ (descL p).getD j 0 ≤ 1099511627776 := by
  intro j hj
  have hm : (descL p).getD j 0 ∈ descL p := by
    rw [show (descL p).getD j 0 = (descL p)[j] from by simp [List.getD, List.getElem?_eq_getElem hj]]
    exact List.getElem_mem hj
  obtain ⟨i, hi, _, e⟩ := (descTo_mem p _ _).1 hm
  omega

/-! ### the letters at the end -/
theorem specInv4 (p : List Int) (v : Value) (B : Nat) (w : World) (ha : Ints w B v p) (hB : B ≤ w.heap.size) (hn : p.length ≤ 1099511627776) (hp : Places p.length p) :
    Calls Try.prog 161 #[v] w fun e w' => ∃ v', e = .returned v' ∧ Own w' w.heap.size w'.heap.size v' (invL p) ∧ Below w.heap.size w w' := by
  obtain ⟨i0, hi, hz0, hz1, hz2⟩ := info_parts info64
  have HP := hid hp
  clear hp
  rcases ha with ⟨rfl, ao, cap, rfl⟩ | ⟨hp, b, off, cap, rfl, hb', hc⟩
  · go_enter Try.func161, Try.ntmps161
    go_wp2_with (at_make; refine wpList_make_full _ rfl (.tmp 6) (.tmp 6) 22 rfl w.heap.size 2 i0 (.int .i64 0) 1 Try.underlying22 hi hz0 hz1 .i64 .i64 _ _ 0 rfl rfl (by rfl) (by rfl) (by omega) (by unfold maxLen; omega) (Nat.le_refl _) ?_; intro w1 hown1 hgrow1)
    have HO1 := hid (made_own hown1)
    have HB1 : Hid (Below w.heap.size w w1) := hid ((Below.refl _ _).grown hgrow1 (Nat.le_refl _) (fun k hk => by cases hk))
    clear hown1 hgrow1
    refine wp_loop_rounds 1 ?_
    rw [rounds_succ]
    go_wp2
    go_ret
    exact ⟨_, rfl, HO1.out, HB1.out⟩
  · have HC : Hid (∀ j, j < p.length → w.cell? ⟨b, off + j, none⟩ = some (.int .i64 (p.getD j 0))) := hid hc
    obtain ⟨n, hnn⟩ : ∃ n, n = p.length := ⟨_, rfl⟩
    rw [← hnn] at hp hn ⊢
    have HN := hid hnn
    clear hc hnn
    go_enter Try.func161, Try.ntmps161
    go_wp2_with (at_make; refine wpList_make_full _ rfl (.tmp 6) (.tmp 6) 22 rfl w.heap.size 2 i0 (.int .i64 0) 1 Try.underlying22 hi hz0 hz1 .i64 .i64 _ _ n rfl rfl (by rfl) (by rfl) (by rw [hz2]; omega) (by unfold maxLen; omega) (Nat.le_refl _) ?_; intro w1 hown1 hgrow1)
    have HO1 := hid (made_own hown1)
    have HB1 : Hid (Below w.heap.size w w1) := hid ((Below.refl _ _).grown hgrow1 (Nat.le_refl _) (fun k hk => by cases hk))
    clear hown1 hgrow1
    go_loopw [4] (fun i wr => ∃ k : Nat, k ≤ n ∧ i = .int .i64 k ∧ Own wr w.heap.size wr.heap.size (.slice (some ⟨w.heap.size, 0, none⟩) n n) (invTo p k) ∧ Below w.heap.size w wr)
      (fun i _ => n - (intOf i).toNat)
    case atStart => exact ⟨0, Nat.zero_le _, rfl, by rw [invTo, ← HN.out]; exact HO1.out, HB1.out⟩
    case round =>
      obtain ⟨k, hk, rfl, hown, hbel⟩ := hrel
      have HO := hid hown
      have HBr := hid hbel
      clear hown hbel
      by_cases hlt : k < n
      · obtain ⟨x, hx, hxm⟩ := HP.out k (by rw [← HN.out]; exact hlt)
        rw [← HN.out] at hxm
        have h1 : wr.cell? ⟨b, off + k, none⟩ = some (.int .i64 (x : Int)) := by rw [← hx]; exact (HBr.out.cell (p := ⟨b, off + k, none⟩) (by show b < _; omega)).trans (HC.out k (by rw [← HN.out]; exact hlt))
        have hcell := (HO.out.at' x (by rw [invTo_len, ← HN.out]; exact hxm)).1
        have hfr := (HO.out.at' x (by rw [invTo_len, ← HN.out]; exact hxm)).2
        have HS := hid (HO.out.set x k).1
        have HX := hid hx
        clear hx
        go_wp2
        go_roundw
        case rel => exact ⟨k + 1, by omega, by go_num, by have := HS.out; rw [← invTo_succ p k x HX.out] at this; simpa using this, HBr.out.setCell (by simp) _⟩
        case measure => simp [intOf]; omega
      · obtain rfl : k = n := by omega
        go_wp2
        go_ret
        exact ⟨_, rfl, by have := HO.out; rw [invL, ← HN.out]; exact this, HBr.out⟩

theorem specFinish (p : List Int) (v : Value) (B : Nat) (w : World) (ha : Ints w B v p) (hB : B ≤ w.heap.size) (hn : p.length ≤ 1099511627776) (hp : Places p.length p) :
    Calls Try.prog 152 #[v] w fun e w' => ∃ v', e = .returned v' ∧ Own w' w.heap.size w'.heap.size v' (startL (invL p)) ∧ Below w.heap.size w w' := by
  have HA := hid ha
  have HL : Hid ((invL p).length ≤ 1099511627776) := hid (by rw [invL_len]; exact hn)
  have HP := hid hp
  clear ha hp
  go_enter Try.func152, Try.ntmps152
  go_wp2_with fail
  refine (specInv4 p v _ w HA.out hB hn HP.out).mono ?_
  rintro e w2 ⟨v2, rfl, o2, b2⟩
  have O2 := hid o2
  have C2 := hid b2
  clear o2 b2
  go_wp2_with fail
  refine (specStart (invL p) v2 _ w2 O2.out.ints (Nat.le_refl _) HL.out).mono ?_
  rintro e w3 ⟨v3, rfl, o3, b3⟩
  have O3 := hid (o3.lo C2.out.size)
  have C3 := hid (C2.out.trans (b3.mono C2.out.size))
  clear o3 b3
  go_wp2
  go_ret
  exact ⟨_, rfl, O3.out, C3.out⟩

def fiP (p : List Int) : List Int := if permB p = true then startL (invL p) else []
theorem fiP_len (p : List Int) : (fiP p).length ≤ 12 := by
  unfold fiP
  split
  · rename_i h; have h1 := startL_len (invL p); rw [invL_len] at h1; exact Nat.le_trans h1 (perm_len h)
  · simp

end Go.Proofs.Ytlhpipcmebmpdaa.fn
