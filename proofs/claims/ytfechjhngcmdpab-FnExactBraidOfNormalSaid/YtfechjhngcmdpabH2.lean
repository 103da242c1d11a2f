/-
  Half twists and reversed places: contracts of HalfTwist, of the program and of its model, and of impl.reversed.
-/
import Derived.Test.YtfechjhngcmdpabH1
import Derived.Test.YtfechjhngcmdpabLat2
namespace Go.Proofs.Ytfechjhngcmdpab.fn
open Go.RowKit Go.Proofs.Ytfechjhngcmdpab.sl Go.Proofs.Ytfechjhngcmdpab.pm Go.Proofs.Ytfechjhngcmdpab.la

theorem revL_at (p : List Int) (k : Nat) (h : k < p.length) : (revL p).getD k 0 = (p.length : Int) - 1 - p.getD k 0 := by
  simp [revL, List.getD, List.getElem?_eq_getElem h]
theorem revL_set (p : List Int) (k : Nat) (h : k < p.length) : (sl.part (revL p) k).set k ((p.length : Int) - 1 - p.getD k 0) = sl.part (revL p) (k + 1) := by
  rw [← revL_at p k h]; exact sl.part_set _ k (by rw [revL_len]; exact h)
theorem revL_plen (p : List Int) (k : Nat) (h : k ≤ p.length) : (sl.part (revL p) k).length = p.length := by rw [sl.part_len _ k (by rw [revL_len]; exact h), revL_len]

theorem implRev (p : List Int) (v : Value) (B : Nat) (w : World) (ha : Ints w B v p) (hB : B ≤ w.heap.size) (hn : p.length ≤ 1099511627776) (hp : Places p.length p) :
    Calls Try.prog 83 #[v] w fun e w' => ∃ v', e = .returned v' ∧ Own w' w.heap.size w'.heap.size v' (revL p) ∧ Below w.heap.size w w' := by
  obtain ⟨i0, hi, hz0, hz1, hz2⟩ := info_parts info64
  have HP := hid hp
  clear hp
  rcases ha with ⟨rfl, ao, cap, rfl⟩ | ⟨hp, b, off, cap, rfl, hb', hc⟩
  · go_enter Try.func83, Try.ntmps83
    go_wp2_with (at_make; refine wpList_make_full _ rfl (.tmp 7) (.tmp 7) 23 rfl w.heap.size 2 i0 (.int .i64 0) 1 Try.underlying23 hi hz0 hz1 .i64 .i64 _ _ 0 rfl rfl (by rfl) (by rfl) (by omega) (by unfold maxLen; omega) (Nat.le_refl _) ?_; intro w1 hown1 hgrow1)
    have HO1 := hid (made_own hown1)
    have HB1 : Hid (Below w.heap.size w w1) := hid ((Below.refl _ _).grown hgrow1 (Nat.le_refl _) (fun k hk => by cases hk))
    clear hown1 hgrow1
    refine wp_loop_rounds 1 ?_
    rw [rounds_succ]
    go_wp2
    go_ret
    exact ⟨_, rfl, HO1.out, HB1.out⟩
  · have HC : Hid (∀ j, j < p.length → w.cell? ⟨b, off + j, none⟩ = some (.int .i64 (p.getD j 0))) := hid hc
    obtain ⟨n, hnn⟩ : ∃ n, n = p.length := ⟨_, rfl⟩
    rw [← hnn] at hp hn ⊢
    have HN := hid hnn
    clear hc hnn
    go_enter Try.func83, Try.ntmps83
    go_wp2_with (at_make; refine wpList_make_full _ rfl (.tmp 7) (.tmp 7) 23 rfl w.heap.size 2 i0 (.int .i64 0) 1 Try.underlying23 hi hz0 hz1 .i64 .i64 _ _ n rfl rfl (by rfl) (by rfl) (by rw [hz2]; omega) (by unfold maxLen; omega) (Nat.le_refl _) ?_; intro w1 hown1 hgrow1)
    have HO1 := hid (made_own hown1)
    have HB1 : Hid (Below w.heap.size w w1) := hid ((Below.refl _ _).grown hgrow1 (Nat.le_refl _) (fun k hk => by cases hk))
    clear hown1 hgrow1
    go_loopw [11] (fun i wr => ∃ k : Nat, k ≤ n ∧ i = .int .i64 k ∧ Own wr w.heap.size wr.heap.size (.slice (some ⟨w.heap.size, 0, none⟩) n n) (sl.part (revL p) k) ∧ Below w.heap.size w wr)
      (fun i _ => n - (intOf i).toNat)
    case atStart => exact ⟨0, Nat.zero_le _, rfl, by rw [sl.part_zero, revL_len, ← HN.out]; exact HO1.out, HB1.out⟩
    case round =>
      obtain ⟨k, hk, rfl, hown, hbel⟩ := hrel
      have HO := hid hown
      have HBr := hid hbel
      clear hown hbel
      by_cases hlt : k < n
      · obtain ⟨x, hx, hxm⟩ := HP.out k (by rw [← HN.out]; exact hlt)
        rw [← HN.out] at hxm
        have h1 : wr.cell? ⟨b, off + k, none⟩ = some (.int .i64 (x : Int)) := by rw [← hx]; exact (HBr.out.cell (p := ⟨b, off + k, none⟩) (by show b < _; omega)).trans (HC.out k (by rw [← HN.out]; exact hlt))
        have hcell := (HO.out.at' k (by rw [revL_plen p k (by rw [← HN.out]; exact hk), ← HN.out]; exact hlt)).1
        have hfr := (HO.out.at' k (by rw [revL_plen p k (by rw [← HN.out]; exact hk), ← HN.out]; exact hlt)).2
        have HS := hid (HO.out.set k ((n : Int) - 1 - (x : Int))).1
        have HX := hid (revL_set p k (by rw [← HN.out]; exact hlt))
        rw [hx, ← HN.out] at HX
        clear hx
        go_wp2
        go_roundw
        case rel => exact ⟨k + 1, by omega, by go_num, by have := HS.out; rw [HX.out] at this; simpa using this, HBr.out.setCell (by simp) _⟩
        case measure => simp [intOf]; omega
      · obtain rfl : k = n := by omega
        go_wp2
        go_ret
        exact ⟨_, rfl, by have := HO.out; rw [show sl.part (revL p) k = revL p by rw [HN.out, ← revL_len p]; exact sl.part_all _] at this; exact this, HBr.out⟩

/-! ### HalfTwist -/
def halfL (n : Nat) : List Int := revL (ids n)
def halfTo (n k : Nat) : List Int := (List.range k).map fun (j : Nat) => (n : Int) - 1 - (j : Int)
theorem halfTo_zero (n : Nat) : halfTo n 0 = [] := rfl
theorem halfTo_len (n k : Nat) : (halfTo n k).length = k := by simp [halfTo]
theorem halfTo_succ (n k : Nat) : halfTo n (k + 1) = halfTo n k ++ [(n : Int) - 1 - (k : Int)] := by simp [halfTo, List.range_succ]
theorem halfTo_all (n : Nat) : halfTo n n = halfL n := by
  simp only [halfTo, halfL, revL, ids, List.map_map, List.length_map, List.length_range]
  rfl
theorem halfL_len (n : Nat) : (halfL n).length = n := by rw [← halfTo_all, halfTo_len]
theorem ids_at (n j : Nat) (h : j < n) : (ids n).getD j 0 = (j : Int) := by simp [ids, List.getD, h]
theorem ids_places (n : Nat) : Places n (ids n) := by
  intro j hj
  rw [ids_len] at hj
  exact ⟨j, ids_at n j hj, hj⟩

theorem specHalf (n : Nat) (w : World) (hn : n ≤ 1099511627776) :
    Calls Try.prog 40 #[.int .i64 n] w fun e w' => ∃ v', e = .returned v' ∧ Own w' w.heap.size w'.heap.size v' (halfL n) ∧ Below w.heap.size w w' := by
  go_enter Try.func40, Try.ntmps40
  go_wp2
  go_loopw [3, 4] (fun v i wr => ∃ k : Nat, k ≤ n ∧ i = .int .i64 ((n : Int) - 1 - (k : Int)) ∧ Own wr w.heap.size wr.heap.size v (halfTo n k) ∧ Below w.heap.size w wr)
    (fun _ i _ => (intOf i + 1).toNat)
  case atStart => exact ⟨0, Nat.zero_le _, by congr 1; omega, Own.built w _ rfl, (Below.refl _ _).alloc (Nat.le_refl _) _⟩
  case round =>
    obtain ⟨k, hk, rfl, hown, hbel⟩ := hrel
    have HO := hid hown
    have HB := hid hbel
    have hsz := hbel.size
    clear hown hbel
    by_cases hlt : k < n
    · have h0 : (0 : Int) ≤ (n : Int) - 1 - (k : Int) := by omega
      go_wp2_with (at_builtin; refine wp_append rfl _ _ rfl w.heap.size wr.heap.size _ (halfTo n k) ((n : Int) - 1 - (k : Int)) HO.out rfl rfl hsz (by rw [halfTo_len]; omega) ?_; intro v' w1 hown1 hchg1 hsz1)
      have HO1 := hid hown1
      have HB1 := hid (HB.out.trans (hchg1.below (Nat.le_refl _) hsz))
      clear hown1 hchg1
      go_wp2
      go_roundw
      case rel => exact ⟨k + 1, by omega, by go_num, by rw [halfTo_succ]; exact HO1.out, HB1.out⟩
      case measure => simp [intOf]; omega
    · obtain rfl : k = n := by omega
      have h0 : ¬ (0 : Int) ≤ (k : Int) - 1 - (k : Int) := by omega
      go_wp2
      go_ret
      exact ⟨_, rfl, by rw [← halfTo_all]; exact HO.out, HB.out⟩

def twiL (n : Int) : List Int := if idOk n = true then halfL n.toNat else []
theorem twiL_len (n : Int) : (twiL n).length ≤ 12 := by
  unfold twiL
  split
  · rename_i h; simp only [idOk, decide_eq_true_eq] at h; rw [halfL_len]; omega
  · simp

theorem withinQ (c lo hi : Int) (q : Bool) (hq : decide (lo ≤ c ∧ c ≤ hi) = q) (w : World) : Calls Try.prog 54 #[.int .i64 c, .int .i64 lo, .int .i64 hi] w fun e w' => e = .returned (.bool q) ∧ w' = w :=
  (within64 c lo hi w).mono fun _ _ h => ⟨by rw [h.1, hq], h.2.symm⟩

theorem implTwist (n : Int) (w : World) :
    Calls Try.prog 44 #[.int .i64 n] w fun e w' => ∃ v', e = .returned v' ∧ Own w' w.heap.size w'.heap.size v' (twiL n) ∧ Below w.heap.size w w' := by
  by_cases h : 0 ≤ n ∧ n ≤ 12
  · obtain ⟨m, rfl⟩ := Int.eq_ofNat_of_zero_le h.1
    have hd : decide ((0 : Int) ≤ (m : Int) ∧ (m : Int) ≤ 12) = true := by simpa using h
    have HF : Hid (twiL (m : Int) = halfL m) := hid (by have e : idOk (m : Int) = true := hd; rw [twiL, if_pos e]; rfl)
    go_enter Try.func44, Try.ntmps44
    go_wp2_with fail
    refine (withinQ _ _ _ true hd _).mono ?_
    rintro e w' ⟨rfl, rfl⟩
    go_wp2_with fail
    refine (implIds m _ (by omega)).mono ?_
    rintro e w1 ⟨v1, rfl, o1, b1⟩
    have O1 := hid o1
    have B1 := hid b1
    have hz1 := b1.size
    clear o1 b1
    go_wp2_with fail
    refine (implRev (ids m) v1 _ w1 O1.out.ints (Nat.le_refl _) (by rw [ids_len]; omega) (by rw [ids_len]; exact ids_places m)).mono ?_
    rintro e w2 ⟨v2, rfl, o2, b2⟩
    have O2 := hid (o2.lo hz1)
    have B2 := hid (B1.out.trans (b2.mono hz1))
    clear o2 b2
    go_wp2
    go_ret
    exact ⟨_, rfl, by rw [HF.out]; exact O2.out, B2.out⟩
  · have hd : decide ((0 : Int) ≤ n ∧ n ≤ 12) = false := by simpa using h
    have HF : Hid (twiL n = []) := hid (by have e : idOk n = false := hd; rw [twiL, if_neg (by rw [e]; simp)])
    clear h
    go_enter Try.func44, Try.ntmps44
    go_wp2_with fail
    refine (withinQ _ _ _ false hd _).mono ?_
    rintro e w' ⟨rfl, rfl⟩
    go_wp2
    go_ret
    exact ⟨_, rfl, by rw [HF.out]; exact Own.nil _ _, Below.refl _ _⟩

end Go.Proofs.Ytfechjhngcmdpab.fn
