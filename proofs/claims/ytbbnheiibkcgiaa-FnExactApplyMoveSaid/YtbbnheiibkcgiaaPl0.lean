/-
  Needles of columns: mathematics; areNeedles, isFrontNeedle, ValidPlaces of the program; l21Places, ValidPlaces of the model.
-/
import Derived.Test.YtbbnheiibkcgiaaAp
import Derived.Test.YtbbnheiibkcgiaaPerm
import Derived.IntWalk
namespace Go.Proofs.Ytbbnheiibkcgiaa.mo
open Go.RowKit Go.Proofs.Ytbbnheiibkcgiaa.sl Go.Proofs.Ytbbnheiibkcgiaa.pm
set_option linter.unusedVariables false

def frB (x : Int) : Bool := decide (0 ≤ x ∧ x ≤ 23)
theorem fr_iff {x : Int} : frB x = true ↔ 0 ≤ x ∧ x ≤ 23 := by simp [frB]
/-- Element k fits behind the one before it, at least g behind it. -/
def stpB (g : Int) (xs : List Int) (k : Nat) : Bool := frB (xs.getD k 0) && (decide (k = 0) || decide (xs.getD (k - 1) 0 + g ≤ xs.getD k 0))
def arB (g : Int) (xs : List Int) : Bool := (List.range xs.length).all (stpB g xs)
theorem ar_bad {g : Int} {xs : List Int} {k : Nat} (hk : k < xs.length) (h : stpB g xs k = false) : arB g xs = false := by
  unfold arB
  rw [List.all_eq_false]
  exact ⟨k, List.mem_range.2 hk, by rw [h]; simp⟩
theorem ar_good {g : Int} {xs : List Int} (h : ∀ k, k < xs.length → stpB g xs k = true) : arB g xs = true := by
  unfold arB
  rw [List.all_eq_true]
  exact fun x hx => h x (List.mem_range.1 hx)
theorem ar_at {g : Int} {xs : List Int} (h : arB g xs = true) (k : Nat) (hk : k < xs.length) : stpB g xs k = true := by
  unfold arB at h
  rw [List.all_eq_true] at h
  exact h k (List.mem_range.2 hk)
theorem ar_nil (g : Int) : arB g [] = true := rfl
theorem stp_fr {g : Int} {xs : List Int} {k : Nat} (h : stpB g xs k = true) : 0 ≤ xs.getD k 0 ∧ xs.getD k 0 ≤ 23 := by
  simp only [stpB, Bool.and_eq_true] at h
  exact fr_iff.1 h.1
theorem stp_no {g : Int} {xs : List Int} {k : Nat} (h : frB (xs.getD k 0) = false) : stpB g xs k = false := by simp only [stpB, h, Bool.false_and]
theorem stp_zero {g : Int} {xs : List Int} {k : Nat} (h : frB (xs.getD k 0) = true) (hk : k = 0) : stpB g xs k = true := by unfold stpB; rw [h, hk]; rfl
theorem stp_yes {g : Int} {xs : List Int} {k : Nat} (h : frB (xs.getD k 0) = true) (h2 : xs.getD (k - 1) 0 + g ≤ xs.getD k 0) : stpB g xs k = true := by
  simp only [stpB, h, decide_eq_true h2, Bool.or_true, Bool.and_true]
theorem stp_bad {g : Int} {xs : List Int} {k : Nat} (hk : ¬ k = 0) (h2 : ¬ xs.getD (k - 1) 0 + g ≤ xs.getD k 0) : stpB g xs k = false := by
  simp only [stpB, decide_eq_false h2, decide_eq_false hk, Bool.or_false, Bool.and_false]
def plB (xs : List Int) : Bool := decide (xs.length ≤ 8) && arB 1 xs
theorem pl_len {xs : List Int} (h : plB xs = true) : xs.length ≤ 8 := by simp only [plB, Bool.and_eq_true, decide_eq_true_eq] at h; exact h.1
theorem pl_ar {xs : List Int} (h : plB xs = true) : arB 1 xs = true := by simp only [plB, Bool.and_eq_true, decide_eq_true_eq] at h; exact h.2

theorem dadd (w : World) (a b : Nat) : (w.drewN a).drewN b = w.drewN (a + b) := by simp [World.drewN, Nat.add_assoc]
theorem frontQ (x : Int) (q : Bool) (hq : frB x = q) (w : World) : Calls Try.prog 64 #[.int .i64 x] w fun e w' => e = .returned (.bool q) ∧ w = w' := by
  subst hq
  go_enter Try.func64, Try.ntmps64
  go_wp2_with (go_at_call 37; refine (pm.within64 _ _ _ _).mono ?_; rintro e w' ⟨rfl, rfl⟩)
  go_ret
  exact ⟨by simp [frB, Bool.decide_and], rfl⟩
theorem inQ (x : Int) (q : Bool) (hq : frB x = q) (w : World) : Calls Try.prog 35 #[.int .i64 x, .int .i64 0, .int .i64 23] w fun e w' => e = .returned (.bool q) ∧ w' = w := by
  subst hq
  exact (pm.specIn x 0 23 w).mono fun _ _ h => ⟨h.1, h.2.symm⟩

set_option maxRecDepth 100000 in
theorem implAN (g : Int) (hg : 0 ≤ g ∧ g ≤ 1) (xs : List Int) (v : Value) (B : Nat) (w : World) (ha : Ints w B v xs) (hn : xs.length ≤ 1099511627776) :
    Calls Try.prog 40 #[v, .int .i64 g] w fun e w' => e = .returned (.bool (arB g xs)) ∧ w = w' := by
  rcases ha with ⟨rfl, ao, cap, rfl⟩ | ⟨hp, b, off, cap, rfl, hb, hc⟩
  · have HF : Hid (arB g [] = true) := hid (ar_nil g)
    go_enter Try.func40, Try.ntmps40
    go_wp2
    refine wp_loop_rounds 1 ?_
    rw [rounds_succ]
    go_wp2
    go_ret
    exact ⟨by rw [HF.out]; rfl, rfl⟩
  · obtain ⟨n, hnn⟩ : ∃ n, n = xs.length := ⟨_, rfl⟩
    have HBad : Hid (∀ k, k < n → stpB g xs k = false → arB g xs = false) := hid (fun k hk h => ar_bad (by omega) h)
    have HGood : Hid ((∀ k, k < n → stpB g xs k = true) → arB g xs = true) := hid (fun h => ar_good (fun k hk => h k (by omega)))
    rw [← hnn] at hp hc hn ⊢
    have HC := hid hc
    clear hnn hc
    generalize arB g xs = q at *
    go_enter Try.func40, Try.ntmps40
    go_wp2
    go_loop [9] (fun i => ∃ k : Nat, k ≤ n ∧ i = .int .i64 k ∧ ∀ j, j < k → stpB g xs j = true) (fun i => n - (intOf i).toNat)
    case atStart => exact ⟨0, Nat.zero_le _, rfl, fun j hj => by omega⟩
    case round =>
      obtain ⟨k, hk, rfl, hg2⟩ := hrel
      have HG := hid hg2
      clear hg2
      by_cases hlt : k < n
      · have hx := HC.out k hlt
        obtain ⟨t, ht⟩ : ∃ t, frB (xs.getD k 0) = t := ⟨_, rfl⟩
        have HI := hid (fun W => frontQ (xs.getD k 0) t ht W)
        cases t with
        | false =>
          have HF := hid (HBad.out k hlt (stp_no ht))
          clear ht
          generalize xs.getD k 0 = x at *
          go_wp2_with (go_at_call 64; refine (HI.out _).mono ?_; rintro e w' ⟨rfl, rfl⟩)
          go_ret
          exact ⟨by rw [HF.out]; rfl, rfl⟩
        | true =>
          by_cases hk0 : k = 0
          · have HS := hid (stp_zero (g := g) ht hk0)
            have hd0 : decide ((0 : Int) < (k : Int)) = false := decide_eq_false (by omega)
            have hd0n : decide (0 < k) = false := decide_eq_false (by omega)
            have HR : Hid (∀ j, j < k + 1 → stpB g xs j = true) := hid (fun j hj => by
              obtain rfl : j = k := by omega
              exact HS.out)
            clear ht hk0
            generalize xs.getD k 0 = x at *
            go_wp2_with (go_at_call 64; refine (HI.out _).mono ?_; rintro e w' ⟨rfl, rfl⟩)
            go_round
            case rel => exact ⟨k + 1, by omega, by go_num, HR.out⟩
            case measure => simp [intOf]; omega
          · obtain ⟨j, hj⟩ : ∃ j, k = j + 1 := ⟨k - 1, by omega⟩
            have hy := HC.out j (by omega)
            have hyb := stp_fr (HG.out j (by omega))
            have HS := hid (fun h => stp_yes (g := g) ht (show xs.getD (k - 1) 0 + g ≤ xs.getD k 0 from h))
            have HN := hid (fun h => stp_bad (g := g) (xs := xs) hk0 (show ¬ xs.getD (k - 1) 0 + g ≤ xs.getD k 0 from h))
            have e1 : k - 1 = j := by omega
            rw [e1] at HS HN
            have HBk := hid (HBad.out k hlt)
            have HR : Hid (stpB g xs k = true → ∀ j, j < k + 1 → stpB g xs j = true) := hid (fun h i hi => by
              rcases Nat.lt_or_ge i k with h' | h'
              · exact HG.out i h'
              · obtain rfl : i = k := by omega
                exact h)
            have hwrp : IntKind.i64.wrap ((k : Int) - 1) = (j : Int) := by rw [show (k : Int) - 1 = (j : Int) from by omega]; exact IntWalk.i64_in _ (by omega)
            have hjn : j < n := by omega
            have hd0 : decide ((0 : Int) < (k : Int)) = true := decide_eq_true (by omega)
            have hd0n : decide (0 < k) = true := decide_eq_true (by omega)
            have hkp : 0 < k := by omega
            clear ht hk0 e1 hj
            generalize xs.getD k 0 = x at *
            generalize xs.getD j 0 = y at *
            have hsum : IntKind.i64.wrap (y + g) = y + g := IntWalk.i64_in _ (by omega)
            by_cases hle : y + g ≤ x
            · have HR2 := hid (HR.out (HS.out hle))
              have hd1 : decide (x < y + g) = false := decide_eq_false (by omega)
              clear hle
              go_wp2_with (go_at_call 64; refine (HI.out _).mono ?_; rintro e w' ⟨rfl, rfl⟩)
              go_round
              case rel => exact ⟨k + 1, by omega, by go_num, HR2.out⟩
              case measure => simp [intOf]; omega
            · have HF := hid (HBk.out (HN.out hle))
              have hd1 : decide (x < y + g) = true := decide_eq_true (by omega)
              clear hle
              go_wp2_with (go_at_call 64; refine (HI.out _).mono ?_; rintro e w' ⟨rfl, rfl⟩)
              go_ret
              exact ⟨by rw [HF.out]; rfl, rfl⟩
      · obtain rfl : k = n := by omega
        have HF := hid (HGood.out HG.out)
        go_wp2
        go_ret
        exact ⟨by rw [HF.out]; rfl, rfl⟩

theorem implVPl (xs : List Int) (v : Value) (B : Nat) (w : World) (ha : Ints w B v xs) (hB : B ≤ w.heap.size) (hn : xs.length ≤ 1099511627776) :
    Calls Try.prog 16 #[v] w fun e w' => e = .returned (.bool (plB xs)) ∧ Below w.heap.size w w' := by
  have HA := hid (implAN 1 (by omega) xs v B w ha hn)
  obtain ⟨q, hq⟩ : ∃ q, q = arB 1 xs := ⟨_, rfl⟩
  rw [← hq] at HA
  obtain ⟨ao, cap, hv⟩ : ∃ ao cap, v = .slice ao xs.length cap := by
    rcases ha with ⟨rfl, ao, cap, rfl⟩ | ⟨hp, b, off, cap, rfl, hb', hc⟩ <;> exact ⟨_, _, rfl⟩
  have HF : Hid (plB xs = (decide (xs.length ≤ 8) && q)) := hid (by rw [plB, hq])
  generalize plB xs = z at *
  clear hq ha
  generalize xs.length = n at *
  subst hv
  by_cases h : n ≤ 8
  · have h1 : decide ((n : Int) ≤ 8) = true := decide_eq_true (by omega)
    have h2 : decide (n ≤ 8) = true := decide_eq_true h
    go_enter Try.func16, Try.ntmps16
    go_wp2_with (go_at_call 40; refine HA.out.mono ?_; rintro e w' ⟨rfl, rfl⟩)
    go_ret
    exact ⟨by rw [HF.out, h2]; cases q <;> rfl, Below.refl _ _⟩
  · have h1 : decide ((n : Int) ≤ 8) = false := decide_eq_false (by omega)
    have h2 : decide (n ≤ 8) = false := decide_eq_false h
    go_enter Try.func16, Try.ntmps16
    go_wp2
    go_ret
    exact ⟨by rw [HF.out, h2]; rfl, Below.refl _ _⟩

set_option maxRecDepth 100000 in
set_option maxHeartbeats 1000000 in
theorem specPlc (tw : Bool) (g : Int) (hg : g = if tw = true then 0 else 1) (xs : List Int) (v : Value) (B : Nat) (w : World) (ha : Ints w B v xs) (hn : xs.length ≤ 1099511627776) :
    Calls Try.prog 39 #[v, .bool tw] w fun e w' => e = .returned (.bool (arB g xs && decide (xs.length ≤ 8))) ∧ ∃ q, w' = w.drewN q := by
  rcases ha with ⟨rfl, ao, cap, rfl⟩ | ⟨hp, b, off, cap, rfl, hb, hc⟩
  · go_enter Try.func39, Try.ntmps39
    go_wp2
    refine wp_loop_rounds 1 ?_
    rw [rounds_succ]
    go_wp2
    go_ret
    exact ⟨by rw [ar_nil]; rfl, 0, rfl⟩
  · obtain ⟨n, hnn⟩ : ∃ n, n = xs.length := ⟨_, rfl⟩
    have HBad : Hid (∀ k, k < n → stpB g xs k = false → (arB g xs && decide (xs.length ≤ 8)) = false) := hid (fun k hk h => by rw [ar_bad (by omega) h]; rfl)
    have HGood : Hid ((∀ k, k < n → stpB g xs k = true) → (arB g xs && decide (xs.length ≤ 8)) = decide (n ≤ 8)) := hid (fun h => by rw [ar_good (fun k hk => h k (by omega)), ← hnn]; rfl)
    generalize (arB g xs && decide (xs.length ≤ 8)) = q at *
    rw [← hnn] at hp hc hn ⊢
    have HC := hid hc
    clear hnn hc
    go_enter Try.func39, Try.ntmps39
    go_wp2
    go_loopw [5] (fun i wr => ∃ k : Nat, k ≤ n ∧ i = .int .i64 k ∧ (∀ j, j < k → stpB g xs j = true) ∧ ∃ q, wr = w.drewN q) (fun i _ => n - (intOf i).toNat)
    case atStart => exact ⟨0, Nat.zero_le _, rfl, fun j hj => by omega, 0, rfl⟩
    case round =>
      obtain ⟨k, hk, rfl, hg2, qd, hwr⟩ := hrel
      have HG := hid hg2
      have HW := hid hwr
      clear hg2 hwr
      by_cases hlt : k < n
      · have hx : wr.cell? ⟨b, off + k, none⟩ = some (.int .i64 (xs.getD k 0)) := by rw [HW.out]; exact HC.out k hlt
        obtain ⟨t, ht⟩ : ∃ t, frB (xs.getD k 0) = t := ⟨_, rfl⟩
        have HI := hid (fun W => inQ (xs.getD k 0) t ht W)
        cases t with
        | false =>
          have HF := hid (HBad.out k hlt (stp_no ht))
          clear ht
          generalize xs.getD k 0 = x at *
          go_wp2
          go_quiet ((go_at_call 35; exact Calls.quiet_of_same (HI.out _)))
          go_wp2
          go_ret
          exact ⟨by rw [HF.out]; rfl, _, by rw [HW.out]; exact dadd _ _ _⟩
        | true =>
          by_cases hk0 : k = 0
          · have HS := hid (stp_zero (g := g) ht hk0)
            have hd0 : decide ((0 : Int) < (k : Int)) = false := decide_eq_false (by omega)
            have hd0n : decide (0 < k) = false := decide_eq_false (by omega)
            have HR : Hid (∀ j, j < k + 1 → stpB g xs j = true) := hid (fun j hj => by
              obtain rfl : j = k := by omega
              exact HS.out)
            clear ht hk0
            generalize xs.getD k 0 = x at *
            go_wp2
            go_quiet ((go_at_call 35; exact Calls.quiet_of_same (HI.out _)))
            go_wp2
            go_roundw
            case rel => exact ⟨k + 1, by omega, by go_num, HR.out, _, by rw [HW.out]; exact dadd _ _ _⟩
            case measure => simp [intOf]; omega
          · obtain ⟨j, hj⟩ : ∃ j, k = j + 1 := ⟨k - 1, by omega⟩
            have hy : wr.cell? ⟨b, off + j, none⟩ = some (.int .i64 (xs.getD j 0)) := by rw [HW.out]; exact HC.out j (by omega)
            have HS := hid (fun h => stp_yes (g := g) ht (show xs.getD (k - 1) 0 + g ≤ xs.getD k 0 from h))
            have HN := hid (fun h => stp_bad (g := g) (xs := xs) hk0 (show ¬ xs.getD (k - 1) 0 + g ≤ xs.getD k 0 from h))
            have e1 : k - 1 = j := by omega
            rw [e1] at HS HN
            have HBk := hid (HBad.out k hlt)
            have HR : Hid (stpB g xs k = true → ∀ j, j < k + 1 → stpB g xs j = true) := hid (fun h i hi => by
              rcases Nat.lt_or_ge i k with h' | h'
              · exact HG.out i h'
              · obtain rfl : i = k := by omega
                exact h)
            have hwrp : IntKind.i64.wrap ((k : Int) - 1) = (j : Int) := by rw [show (k : Int) - 1 = (j : Int) from by omega]; exact IntWalk.i64_in _ (by omega)
            have hjn : j < n := by omega
            have hd0 : decide ((0 : Int) < (k : Int)) = true := decide_eq_true (by omega)
            have hd0n : decide (0 < k) = true := decide_eq_true (by omega)
            have hkp : 0 < k := by omega
            clear ht hk0 e1 hj
            generalize xs.getD k 0 = x at *
            generalize xs.getD j 0 = y at *
            by_cases hgt : x < y
            · have HF := hid (HBk.out (HN.out (by cases tw <;> simp at hg <;> omega)))
              have hd1 : decide (x < y) = true := decide_eq_true hgt
              clear hgt hg
              go_wp2
              go_quiet ((go_at_call 35; exact Calls.quiet_of_same (HI.out _)))
              go_wp2
              go_ret
              exact ⟨by rw [HF.out]; rfl, _, by rw [HW.out]; exact dadd _ _ _⟩
            · have hd1 : decide (x < y) = false := decide_eq_false hgt
              by_cases heq : y = x
              · have hd2 : (y == x) = true := by simpa using heq
                cases tw with
                | false =>
                  have HF := hid (HBk.out (HN.out (by simp at hg; omega)))
                  clear hgt hg heq
                  go_wp2
                  go_quiet ((go_at_call 35; exact Calls.quiet_of_same (HI.out _)))
                  go_wp2
                  go_ret
                  exact ⟨by rw [HF.out]; rfl, _, by rw [HW.out]; exact dadd _ _ _⟩
                | true =>
                  have HR2 := hid (HR.out (HS.out (by simp at hg; omega)))
                  clear hgt heq hg
                  go_wp2
                  go_quiet ((go_at_call 35; exact Calls.quiet_of_same (HI.out _)))
                  go_wp2
                  go_roundw
                  case rel => exact ⟨k + 1, by omega, by go_num, HR2.out, _, by rw [HW.out]; exact dadd _ _ _⟩
                  case measure => simp [intOf]; omega
              · have hd2 : (y == x) = false := by simpa using heq
                have HR2 := hid (HR.out (HS.out (by cases tw <;> simp at hg <;> omega)))
                clear hgt heq hg
                cases tw
                all_goals
                  go_wp2
                  go_quiet ((go_at_call 35; exact Calls.quiet_of_same (HI.out _)))
                  go_wp2
                  go_roundw
                  case rel => exact ⟨k + 1, by omega, by go_num, HR2.out, _, by rw [HW.out]; exact dadd _ _ _⟩
                  case measure => simp [intOf]; omega
      · obtain rfl : k = n := by omega
        have HF := hid (HGood.out HG.out)
        by_cases h : k ≤ 8
        · have h1 : decide ((k : Int) ≤ 8) = true := decide_eq_true (by omega)
          have h2 : decide (k ≤ 8) = true := decide_eq_true h
          go_wp2
          go_ret
          exact ⟨by rw [HF.out, h2]; rfl, _, HW.out⟩
        · have h1 : decide ((k : Int) ≤ 8) = false := decide_eq_false (by omega)
          have h2 : decide (k ≤ 8) = false := decide_eq_false h
          go_wp2
          go_ret
          exact ⟨by rw [HF.out, h2]; rfl, _, HW.out⟩

theorem specPl1 (xs : List Int) (v : Value) (B : Nat) (w : World) (ha : Ints w B v xs) (hn : xs.length ≤ 1099511627776) :
    Calls Try.prog 39 #[v, .bool false] w fun e w' => e = .returned (.bool (plB xs)) ∧ ∃ q, w' = w.drewN q :=
  (specPlc false 1 rfl xs v B w ha hn).mono fun _ _ h => ⟨by rw [h.1, plB, Bool.and_comm], h.2⟩

theorem specVPl (xs : List Int) (v : Value) (B : Nat) (w : World) (ha : Ints w B v xs) (hB : B ≤ w.heap.size) (hn : xs.length ≤ 1099511627776) :
    Calls Try.prog 14 #[v] w fun e w' => e = .returned (.bool (plB xs)) ∧ Below w.heap.size w w' := by
  have HA := hid (specPl1 xs v B w ha hn)
  generalize plB xs = q at *
  obtain ⟨ao, cap, hv⟩ : ∃ ao cap, v = .slice ao xs.length cap := by
    rcases ha with ⟨rfl, ao, cap, rfl⟩ | ⟨hp, b, off, cap, rfl, hb', hc⟩ <;> exact ⟨_, _, rfl⟩
  clear ha
  generalize xs.length = n at *
  subst hv
  go_enter Try.func14, Try.ntmps14
  go_wp2_with fail
  refine HA.out.mono ?_
  rintro e w1 ⟨rfl, qd, h⟩
  have HW := hid h
  clear h
  go_wp2
  go_ret
  exact ⟨rfl, by rw [HW.out]; exact bdrewN (Below.refl _ _) _⟩
end Go.Proofs.Ytbbnheiibkcgiaa.mo
