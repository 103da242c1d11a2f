/-
  Contracts of PermutationOfWord, of the program and of its model.
-/
import Derived.Test.YtaconeliiicloaaRed
import Derived.Test.YtaconeliiicloaaInv
namespace Go.Proofs.Ytaconeliiicloaa.fn
open Go.RowKit Go.Proofs.Ytaconeliiicloaa.sl Go.Proofs.Ytaconeliiicloaa.pm

/-- The things after k exchanges of a word. -/
def things (n : Nat) (ws : List Int) : Nat → List Int
  | 0 => ids n
  | k + 1 => swapAt (things n ws k) (ws.getD k 0).toNat
theorem things_len (n : Nat) (ws : List Int) (k : Nat) : (things n ws k).length = n := by
  induction k with
  | zero => exact ids_len n
  | succ k ih => rw [things, swap_len]; exact ih
theorem places_ids (n : Nat) : Places n (ids n) := by
  intro j hj
  rw [ids_len] at hj
  exact ⟨j, by simp [ids, List.getD, hj], hj⟩
theorem places_swap (n k : Nat) (p : List Int) (h : Places n p) (hk : k + 1 < p.length) : Places n (swapAt p k) := by
  intro j hj
  rw [swap_len] at hj
  have e : (swapAt p k).getD j 0 = if j = k + 1 then p.getD k 0 else if j = k then p.getD (k + 1) 0 else p.getD j 0 := by
    unfold swapAt
    simp only [List.getD, List.getElem?_set]
    by_cases h1 : j = k + 1
    · subst h1; simp [hj]
    · by_cases h2 : j = k
      · subst h2; simp [hj]
      · have h3 : ¬ k + 1 = j := fun h => h1 h.symm
        have h4 : ¬ k = j := fun h => h2 h.symm
        simp [h1, h2, h3, h4]
  rw [e]
  split
  · exact h k (by omega)
  · split
    · exact h (k + 1) hk
    · exact h j hj
/-- Every exchange of the word is one of n things. -/
def stepOk (n : Int) (x : Int) : Bool := decide (0 ≤ x ∧ x ≤ n - 2)
def wordOk (n : Int) (ws : List Int) : Bool := idOk n && decide (ws.length ≤ 200) && ws.all (stepOk n)
theorem places_things (n : Nat) (ws : List Int) (k : Nat) (hk : k ≤ ws.length) (h : ∀ j, j < k → stepOk n (ws.getD j 0) = true) : Places n (things n ws k) := by
  induction k with
  | zero => exact places_ids n
  | succ k ih =>
    rw [things]
    have h1 := h k (by omega)
    simp only [stepOk, decide_eq_true_eq] at h1
    exact places_swap n _ _ (ih (by omega) (fun j hj => h j (by omega))) (by rw [things_len]; omega)
def powL (n : Int) (ws : List Int) : List Int := if wordOk n ws = true then invL (things n.toNat ws ws.length) else []
theorem powL_len (n : Int) (ws : List Int) : (powL n ws).length ≤ 12 := by
  unfold powL
  split
  · rename_i h
    simp only [wordOk, Bool.and_eq_true, idOk, decide_eq_true_eq] at h
    rw [invL_len, things_len]; omega
  · simp
theorem word_bad (n : Int) (ws : List Int) (k : Nat) (hk : k < ws.length) (h : ¬ (0 ≤ ws.getD k 0 ∧ ws.getD k 0 ≤ n - 2)) : wordOk n ws = false := by
  have : ws.all (stepOk n) = false := by
    rw [List.all_eq_false]
    refine ⟨ws.getD k 0, ?_, by simpa [stepOk] using h⟩
    rw [show ws.getD k 0 = ws[k] from by simp [List.getD, List.getElem?_eq_getElem hk]]
    exact List.getElem_mem hk
  simp [wordOk, this]
theorem word_good (n : Int) (ws : List Int) (h1 : idOk n = true) (h2 : ws.length ≤ 200) (h : ∀ j, j < ws.length → stepOk n (ws.getD j 0) = true) : wordOk n ws = true := by
  have : ws.all (stepOk n) = true := by
    rw [List.all_eq_true]
    intro x hx
    obtain ⟨j, hj, rfl⟩ := List.getElem_of_mem hx
    have := h j hj
    rwa [show ws.getD j 0 = ws[j] from by simp [List.getD, List.getElem?_eq_getElem hj]] at this
  simp [wordOk, h1, h2, this]

set_option maxHeartbeats 800000 in
theorem implPow (n : Int) (ws : List Int) (v : Value) (B : Nat) (w : World) (ha : Ints w B v ws) (_hB : B ≤ w.heap.size) (hn : ws.length ≤ 1099511627776) :
    Calls Try.prog 17 #[.int .i64 n, v] w fun e w' => ∃ v', e = .returned (.tuple #[v', .bool (wordOk n ws)]) ∧ Own w' w.heap.size w'.heap.size v' (powL n ws) ∧ Below w.heap.size w w' := by
  have HA := hid ha
  obtain ⟨ao, cap, hv⟩ := ints_slice ha
  obtain ⟨L, hL⟩ : ∃ L, L = ws.length := ⟨_, rfl⟩
  rw [← hL] at hv hn
  subst hv
  have HL := hid hL
  clear ha hL
  by_cases h : 0 ≤ n ∧ n ≤ 12
  · obtain ⟨m, rfl⟩ := Int.eq_ofNat_of_zero_le h.1
    have hd : decide ((0 : Int) ≤ (m : Int) ∧ (m : Int) ≤ 12) = true := by simpa using h
    have hid1 : Hid (idOk (m : Int) = true) := hid hd
    by_cases hlen : L ≤ 200
    · have hdl : decide ((200 : Int) < (L : Int)) = false := by simp; omega
      go_enter Try.func17, Try.ntmps17
      go_wp2_with fail
      refine (within64 _ _ _ _).mono ?_
      rintro e w' ⟨rfl, rfl⟩
      go_wp2_with fail
      refine (implIds m _ (by omega)).mono ?_
      rintro e w1 ⟨v1, rfl, o1, b1⟩
      have HO1 := hid o1
      have HB1 := hid b1
      clear o1 b1
      go_wp2
      go_loopw [21] (fun i wr => ∃ k : Nat, k ≤ L ∧ i = .int .i64 k ∧ (∀ j, j < k → stepOk (m : Int) (ws.getD j 0) = true) ∧ Own wr w.heap.size w1.heap.size v1 (things m ws k) ∧ Below w.heap.size w wr)
        (fun i _ => L - (intOf i).toNat)
      case atStart => exact ⟨0, Nat.zero_le _, rfl, fun j hj => by omega, HO1.out, HB1.out⟩
      case round =>
        obtain ⟨k, hk, rfl, hok, hown, hbel⟩ := hrel
        have HK := hid hok
        have HO := hid hown
        have HB := hid hbel
        have z := hbel.size
        have z1 := hown.2.2
        have HAr := hid (HA.out.chg (Chg.ofBelow (lo := 0) hbel) (.inr (Nat.zero_le _)))
        clear hok hown hbel
        by_cases hlt : k < L
        · obtain ⟨x, hx⟩ : ∃ x, x = ws.getD k 0 := ⟨_, rfl⟩
          have HX := hid hx
          clear hx
          rcases HAr.out with ⟨he, _⟩ | ⟨hp, b, off, cap2, hv2, hbB, hc⟩
          · rw [he] at HL; have := HL.out; simp at this; omega
          · simp only [Value.slice.injEq] at hv2
            obtain ⟨rfl, -, rfl⟩ := hv2
            have h1 : wr.cell? ⟨b, off + k, none⟩ = some (.int .i64 x) := by rw [HX.out]; exact hc k (by rw [← HL.out]; exact hlt)
            clear hc hp
            by_cases hr : 0 ≤ x ∧ x ≤ (m : Int) - 2
            · obtain ⟨y, rfl⟩ := Int.eq_ofNat_of_zero_le hr.1
              have hdx : decide ((0 : Int) ≤ (y : Int) ∧ (y : Int) ≤ (m : Int) - 2) = true := by simpa using hr
              have hy : y + 1 < m := by omega
              have hdy : decide ((y : Int) ≤ (m : Int) - 2) = true := by simp; omega
              have hst : Hid (stepOk (m : Int) (ws.getD k 0) = true) := hid (by rw [← HX.out]; exact hdx)
              clear hr
              go_wp2_with fail
              refine (within64 _ _ _ _).mono ?_
              rintro e w' ⟨rfl, rfl⟩
              go_wp2_with fail
              refine (implExchange (things m ws k) v1 w.heap.size w1.heap.size y wr HO.out (by rw [things_len]; omega) (by rw [things_len]; omega)).mono ?_
              rintro e w5 ⟨rfl, o5, c5⟩
              have HO5 := hid o5
              have HB5 := hid (HB.out.trans (c5.below (B := w.heap.size) (Nat.le_refl _) z))
              clear o5 c5
              go_wp2
              go_roundw
              case rel => exact ⟨k + 1, by omega, by go_num, fun j hj => by
                rcases Nat.lt_or_ge j k with h1 | h1
                · exact HK.out j h1
                · obtain rfl : j = k := by omega
                  exact hst.out, by rw [things, ← HX.out]; exact HO5.out, HB5.out⟩
              case measure => simp [intOf]; omega
            · have hdx : decide ((0 : Int) ≤ x ∧ x ≤ (m : Int) - 2) = false := by simpa using hr
              have HF := hid (word_bad (m : Int) ws k (by rw [← HL.out]; exact hlt) (by rw [← HX.out]; exact hr))
              clear hr
              go_wp2_with fail
              refine (within64 _ _ _ _).mono ?_
              rintro e w' ⟨rfl, rfl⟩
              go_wp2
              go_ret2
              exact ⟨_, by rw [HF.out]; rfl, by rw [powL, if_neg (by rw [HF.out]; simp)]; exact (Own.nil _ _), HB.out⟩
        · obtain rfl : k = L := by omega
          have HF : Hid (wordOk (m : Int) ws = true) := hid (word_good _ ws hid1.out (by rw [← HL.out]; exact hlen) (by rw [← HL.out]; exact HK.out))
          have hpl := places_things m ws k (by rw [HL.out]; exact Nat.le_refl _) HK.out
          go_wp2_with fail
          refine (implInv (things m ws k) v1 _ wr HO.out.ints HO.out.2.2 (by rw [things_len]; omega) (by rw [things_len]; exact hpl)).mono ?_
          rintro e w5 ⟨v5, rfl, o5, b5⟩
          have HO5 := hid o5
          have HB5 := hid (HB.out.trans (b5.mono z))
          clear o5 b5 hpl
          go_wp2
          go_ret2
          exact ⟨_, by rw [HF.out]; rfl, by rw [powL, if_pos HF.out, ← HL.out]; exact HO5.out.lo z, HB5.out⟩
    · have hdl : decide ((200 : Int) < (L : Int)) = true := by simp; omega
      have HF : Hid (wordOk (m : Int) ws = false) := hid (by have : ¬ ws.length ≤ 200 := by rw [← HL.out]; exact hlen
                                                             simp [wordOk, this])
      go_enter Try.func17, Try.ntmps17
      go_wp2_with fail
      refine (within64 _ _ _ _).mono ?_
      rintro e w' ⟨rfl, rfl⟩
      go_wp2
      go_ret2
      exact ⟨_, by rw [HF.out]; rfl, by rw [powL, if_neg (by rw [HF.out]; simp)]; exact (Own.nil _ _), Below.refl _ _⟩
  · have hd : decide ((0 : Int) ≤ n ∧ n ≤ 12) = false := by simpa using h
    have HF : Hid (wordOk n ws = false) := hid (by have e : idOk n = false := hd
                                                   simp [wordOk, e])
    clear h
    go_enter Try.func17, Try.ntmps17
    go_wp2_with fail
    refine (within64 _ _ _ _).mono ?_
    rintro e w' ⟨rfl, rfl⟩
    go_wp2
    go_ret2
    exact ⟨_, by rw [HF.out]; rfl, by rw [powL, if_neg (by rw [HF.out]; simp)]; exact (Own.nil _ _), Below.refl _ _⟩

end Go.Proofs.Ytaconeliiicloaa.fn
