/-
  The main letter of a word: contracts of both sides.
-/
import Derived.Test.YtedajefapddekaaBp
import Derived.Test.YtedajefapddekaaCm
namespace Go.Proofs.Ytedajefapddekaa.ml
open Go.RowKit Go.Proofs.Ytedajefapddekaa.sl Go.Proofs.Ytedajefapddekaa.bw Go.Proofs.Ytedajefapddekaa.br Go.Proofs.Ytedajefapddekaa.mj
set_option linter.unusedVariables false

/-- The first letter of the least generator among the first k + 1. -/
def mnTo (xs : List Int) : Nat → Int
  | 0 => xs.getD 0 0
  | k + 1 => if ab (xs.getD k 0) < ab (mnTo xs k) then xs.getD k 0 else mnTo xs k
def mnL (xs : List Int) : Int := mnTo xs xs.length
theorem mn_one (xs : List Int) : mnTo xs 1 = xs.getD 0 0 := by
  rw [mnTo, mnTo]; split <;> rfl
theorem mn_yes (xs : List Int) (k : Nat) (h : ab (xs.getD k 0) < ab (mnTo xs k)) : mnTo xs (k + 1) = xs.getD k 0 := by rw [mnTo, if_pos h]
theorem mn_no (xs : List Int) (k : Nat) (h : ¬ ab (xs.getD k 0) < ab (mnTo xs k)) : mnTo xs (k + 1) = mnTo xs k := by rw [mnTo, if_neg h]
def Small (xs : List Int) : Prop := ∀ j, j < xs.length → -100 ≤ xs.getD j 0 ∧ xs.getD j 0 ≤ 100
theorem mn_small {xs : List Int} (h : Small xs) (hp : 0 < xs.length) (k : Nat) (hk : k ≤ xs.length) : -100 ≤ mnTo xs k ∧ mnTo xs k ≤ 100 := by
  induction k with
  | zero => exact h 0 hp
  | succ k ih =>
    rw [mnTo]
    split
    · exact h k (by omega)
    · exact ih (by omega)
/-- Is a letter there? -/
def inB (xs : List Int) (x : Int) : Bool := xs.any fun y => decide (x = y)
def mlOk (s : Int) (xs : List Int) : Bool := okB s xs && decide (0 < xs.length) && !inB xs (-(mnL xs))
def mlL (s : Int) (xs : List Int) : Int := if mlOk s xs = true then mnL xs else 0
def mOk (xs : List Int) : Bool := decide (0 < xs.length) && !inB xs (-(mnL xs))
def mL (xs : List Int) : Int := if mOk xs = true then mnL xs else 0
theorem ok_small {s : Int} {xs : List Int} (h : okB s xs = true) : Small xs := fun j hj => by
  have h1 := ok_parts h
  have h2 := h1.2.2.2 j hj
  omega
theorem ml_no {s : Int} {xs : List Int} (h : okB s xs = false) : mlOk s xs = false ∧ mlL s xs = 0 := by
  have : mlOk s xs = false := by simp [mlOk, h]
  exact ⟨this, by rw [mlL, this]; rfl⟩
theorem ml_yes {s : Int} {xs : List Int} (h : okB s xs = true) : mlOk s xs = mOk xs ∧ mlL s xs = mL xs := by
  have : mlOk s xs = mOk xs := by simp [mlOk, mOk, h]
  exact ⟨this, by rw [mlL, this]; rfl⟩
theorem m_nil : mOk [] = false ∧ mL [] = 0 := ⟨rfl, rfl⟩
theorem m_bad {xs : List Int} (h : inB xs (-(mnL xs)) = true) : mOk xs = false ∧ mL xs = 0 := by
  have : mOk xs = false := by simp [mOk, h]
  exact ⟨this, by rw [mL, this]; rfl⟩
theorem m_good {xs : List Int} (hp : 0 < xs.length) (h : inB xs (-(mnL xs)) = false) : mOk xs = true ∧ mL xs = mnL xs := by
  have : mOk xs = true := by simp [mOk, h, hp]
  exact ⟨this, by rw [mL, this]; rfl⟩
theorem in_at {xs : List Int} {x : Int} (k : Nat) (hk : k < xs.length) (h : xs.getD k 0 = x) : inB xs x = true := by
  rw [inB, List.any_eq_true]
  refine ⟨xs.getD k 0, ?_, decide_eq_true h.symm⟩
  rw [show xs.getD k 0 = xs[k] from by simp [List.getD, List.getElem?_eq_getElem hk]]
  exact List.getElem_mem hk
theorem in_none {xs : List Int} {x : Int} (h : ∀ j, j < xs.length → ¬ x = xs.getD j 0) : inB xs x = false := by
  rw [inB, List.any_eq_false]
  intro y hy
  obtain ⟨j, hj, rfl⟩ := List.getElem_of_mem hy
  have := h j hj
  rw [show xs.getD j 0 = xs[j] from by simp [List.getD, List.getElem?_eq_getElem hj]] at this
  simpa using this

/-! ### the program -/
theorem cmpGen (x y : Int) (hx : -100 ≤ x ∧ x ≤ 100) (hy : -100 ≤ y ∧ y ≤ 100) (c : Int) (hc : cmpI (ab x) (ab y) = c) (w : World) :
    Calls Try.prog 137 #[.int .i64 x, .int .i64 y] w fun e w' => e = .returned (.int .i64 c) ∧ w' = w := by
  subst hc
  have HX := hid (fun W => quiet_gen x hx (ab x) rfl W)
  have HY := hid (fun W => quiet_gen y hy (ab y) rfl W)
  generalize ab x = p at *
  generalize ab y = q at *
  go_enter Try.func137, Try.ntmps137
  go_wp2_with fail
  refine (HX.out _).mono ?_
  rintro e w1 ⟨rfl, rfl⟩
  go_wp2_with fail
  refine (HY.out _).mono ?_
  rintro e w1 ⟨rfl, rfl⟩
  go_wp2_with fail
  refine (cmpC p q _).mono ?_
  rintro e w1 ⟨rfl, rfl⟩
  go_wp2
  go_ret
  exact ⟨rfl, rfl⟩

set_option maxHeartbeats 800000 in
theorem minFunc (xs : List Int) (v : Value) (B : Nat) (w : World) (ha : Ints w B v xs) (hB : B ≤ w.heap.size) (hp : 0 < xs.length) (hn : xs.length ≤ 5000) (hs : Small xs) :
    Calls Try.prog 136 #[v, .func (.func 137) #[] #[]] w fun e w' => e = .returned (.int .i64 (mnL xs)) ∧ Below w.heap.size w w' := by
  have eg := enters_of Try.func137 (by kernel_rfl) rfl
  have HM := hid (fun k hk => mn_small hs hp k hk)
  have HS := hid hs
  have HO := hid (mn_one xs)
  clear hs
  rcases ha with ⟨rfl, ao, cap, rfl⟩ | ⟨_, b, off, cap, rfl, hb, hc⟩
  · simp at hp
  · have HF : Hid (mnL xs = mnTo xs xs.length) := hid rfl
    obtain ⟨n, hnn⟩ : ∃ n, n = xs.length := ⟨_, rfl⟩
    rw [← hnn] at hp hc hn HM HF ⊢
    have HN := hid hnn
    have HC := hid hc
    have h0 : w.cell? ⟨b, off, none⟩ = some (.int .i64 (xs.getD 0 0)) := hc 0 hp
    have hg : ¬ (n : Int) < 1 := by omega
    have hg2 : decide ((n : Int) < 1) = false := by simp; omega
    have hg3 : decide (n < 1) = false := by simp; omega
    have hg4 : 0 < (n : Int) := by omega
    clear hnn hc
    rw [HF.out]
    rw [← HO.out] at h0
    go_enter Try.func136, Try.ntmps136
    go_wp2
    go_loopw [5, 6] (fun m i wr => ∃ k : Nat, 1 ≤ k ∧ k ≤ n ∧ i = .int .i64 k ∧ m = .int .i64 (mnTo xs k) ∧ Below w.heap.size w wr) (fun _ i _ => n - (intOf i).toNat)
    case atStart => exact ⟨1, by omega, by omega, rfl, rfl, Below.refl _ _⟩
    case round =>
      obtain ⟨k, hk1, hk, rfl, rfl, hbel⟩ := hrel
      have HB := hid hbel
      clear hbel
      by_cases hlt : k < n
      · have h1 : wr.cell? ⟨b, off + k, none⟩ = some (.int .i64 (xs.getD k 0)) := (HB.out.cell (p := ⟨b, off + k, none⟩) (by show b < _; omega)).trans (HC.out k hlt)
        have hm1 := HM.out k hk
        have hs1 := HS.out k (by rw [← HN.out]; exact hlt)
        by_cases hc : ab (xs.getD k 0) < ab (mnTo xs k)
        · have HY := hid (mn_yes xs k hc)
          have hcm : cmpI (ab (xs.getD k 0)) (ab (mnTo xs k)) = -1 := by rw [cmpI, if_pos hc]
          obtain ⟨m, hmm⟩ : ∃ m, m = mnTo xs k := ⟨_, rfl⟩
          rw [← hmm] at hcm hm1 ⊢
          obtain ⟨x, hx⟩ : ∃ x, x = xs.getD k 0 := ⟨_, rfl⟩
          rw [← hx] at h1 hcm hs1
          have HX := hid hx
          clear hx hc hmm
          go_wp2_with fail
          refine (cmpGen x m hs1 hm1 (-1) hcm wr).mono ?_
          rintro e w1 ⟨rfl, rfl⟩
          go_wp2
          go_roundw
          case rel => exact ⟨k + 1, by omega, by omega, by go_num, by rw [HY.out, ← HX.out], HB.out⟩
          case measure => simp [intOf]; omega
        · have HY := hid (mn_no xs k hc)
          obtain ⟨c, hcc, hcm⟩ : ∃ c : Int, 0 ≤ c ∧ cmpI (ab (xs.getD k 0)) (ab (mnTo xs k)) = c := by
            rw [cmpI, if_neg hc]; split
            · exact ⟨1, by omega, rfl⟩
            · exact ⟨0, by omega, rfl⟩
          have hcd : decide (c < 0) = false := by simp; omega
          have hcn : ¬ c < 0 := by omega
          obtain ⟨m, hmm⟩ : ∃ m, m = mnTo xs k := ⟨_, rfl⟩
          rw [← hmm] at hcm hm1 ⊢
          rw [← hmm] at HY
          obtain ⟨x, hx⟩ : ∃ x, x = xs.getD k 0 := ⟨_, rfl⟩
          rw [← hx] at h1 hcm hs1
          clear hx hc hmm
          go_wp2_with fail
          refine (cmpGen x m hs1 hm1 c hcm wr).mono ?_
          rintro e w1 ⟨rfl, rfl⟩
          go_wp2
          go_roundw
          case rel => exact ⟨k + 1, by omega, by omega, by go_num, by rw [HY.out], HB.out⟩
          case measure => simp [intOf]; omega
      · obtain rfl : k = n := by omega
        obtain ⟨m, hmm⟩ : ∃ m, m = mnTo xs k := ⟨_, rfl⟩
        have HMM := hid hmm
        rw [← hmm]
        clear hmm
        go_wp2
        go_ret
        exact ⟨by rw [← HMM.out]; rfl, HB.out⟩

set_option maxHeartbeats 800000 in
theorem index (xs : List Int) (x : Int) (v : Value) (B : Nat) (w : World) (ha : Ints w B v xs) (hB : B ≤ w.heap.size) (hn : xs.length ≤ 1099511627776) :
    Calls Try.prog 142 #[v, .int .i64 x] w fun e w' => ∃ c : Int, e = .returned (.int .i64 c) ∧ -1 ≤ c ∧ c ≤ 1099511627776 ∧ decide (0 ≤ c) = inB xs x ∧ Below w.heap.size w w' := by
  rcases ha with ⟨rfl, ao, cap, rfl⟩ | ⟨hp, b, off, cap, rfl, hb, hc⟩
  · go_enter Try.func142, Try.ntmps142
    go_wp2
    refine wp_loop_rounds 1 ?_
    rw [rounds_succ]
    go_wp2
    go_ret
    exact ⟨-1, rfl, by omega, by omega, rfl, Below.refl _ _⟩
  · obtain ⟨n, hnn⟩ : ∃ n, n = xs.length := ⟨_, rfl⟩
    rw [← hnn] at hp hc hn ⊢
    have HN := hid hnn
    have HC := hid hc
    clear hnn hc
    go_enter Try.func142, Try.ntmps142
    go_wp2
    go_loopw [8] (fun i wr => ∃ k : Nat, k ≤ n ∧ i = .int .i64 k ∧ (∀ j, j < k → ¬ x = xs.getD j 0) ∧ Below w.heap.size w wr) (fun i _ => n - (intOf i).toNat)
    case atStart => exact ⟨0, Nat.zero_le _, rfl, fun j hj => by omega, Below.refl _ _⟩
    case round =>
      obtain ⟨k, hk, rfl, hg, hbel⟩ := hrel
      have HG := hid hg
      have HB := hid hbel
      clear hg hbel
      by_cases hlt : k < n
      · have h1 : wr.cell? ⟨b, off + k, none⟩ = some (.int .i64 (xs.getD k 0)) := (HB.out.cell (p := ⟨b, off + k, none⟩) (by show b < _; omega)).trans (HC.out k hlt)
        obtain ⟨y, hy⟩ : ∃ y, y = xs.getD k 0 := ⟨_, rfl⟩
        rw [← hy] at h1
        have HY := hid hy
        clear hy
        by_cases he : x = y
        · subst he
          have HI := hid (in_at (xs := xs) (x := x) k (by rw [← HN.out]; exact hlt) HY.out.symm)
          go_wp2
          go_ret
          exact ⟨(k : Int), rfl, by omega, by omega, by rw [HI.out]; simp, HB.out⟩
        · have hf : (x == y) = false := beq_eq_false_iff_ne.2 he
          have HE := hid he
          clear he
          go_wp2
          go_roundw
          case rel => exact ⟨k + 1, by omega, by go_num, fun j hj => by
            rcases Nat.lt_or_ge j k with h | h
            · exact HG.out j h
            · obtain rfl : j = k := by omega
              rw [← HY.out]; exact HE.out, HB.out⟩
          case measure => simp [intOf]; omega
      · obtain rfl : k = n := by omega
        have HI := hid (in_none (xs := xs) (x := x) fun j hj => HG.out j (by rw [HN.out]; exact hj))
        go_wp2
        go_ret
        exact ⟨-1, rfl, by omega, by omega, by rw [HI.out]; rfl, HB.out⟩

theorem contains (xs : List Int) (x : Int) (q : Bool) (hq : inB xs x = q) (v : Value) (B : Nat) (w : World) (ha : Ints w B v xs) (hB : B ≤ w.heap.size) (hn : xs.length ≤ 1099511627776) :
    Calls Try.prog 138 #[v, .int .i64 x] w fun e w' => e = .returned (.bool q) ∧ Below w.heap.size w w' := by
  subst hq
  have H := hid (index xs x v B w ha hB hn)
  obtain ⟨ao, cap, hv⟩ := ints_val ha
  clear ha
  generalize inB xs x = q at *
  generalize xs.length = n at *
  subst hv
  go_enter Try.func138, Try.ntmps138
  go_wp2_with fail
  refine H.out.mono ?_
  rintro e w1 ⟨c, rfl, h1, h2, h3, b1⟩
  have B1 := hid b1
  have H3 := hid h3
  clear b1 h3
  go_wp2
  go_ret
  exact ⟨by rw [← H3.out]; rfl, B1.out⟩

set_option maxHeartbeats 800000 in
theorem implMain0 (xs : List Int) (v : Value) (B : Nat) (w : World) (ha : Ints w B v xs) (hB : B ≤ w.heap.size) (hn : xs.length ≤ 5000) (hs : Small xs) :
    Calls Try.prog 124 #[v] w fun e w' => e = .returned (.tuple #[.int .i64 (mL xs), .bool (mOk xs)]) ∧ Below w.heap.size w w' := by
  obtain ⟨ao, cap, hv⟩ := ints_val ha
  subst hv
  have HA := hid ha
  have HS := hid hs
  clear ha hs
  by_cases hp : 0 < xs.length
  · obtain ⟨q, hq⟩ : ∃ q, inB xs (-(mnL xs)) = q := ⟨_, rfl⟩
    have hm := mn_small HS.out hp xs.length (Nat.le_refl _)
    have HV : Hid (mL xs = (if q = true then 0 else mnL xs) ∧ mOk xs = !q) := hid (by
      cases q
      · exact ⟨(m_good hp hq).2, (m_good hp hq).1⟩
      · exact ⟨(m_bad hq).2, (m_bad hq).1⟩)
    rw [HV.out.1, HV.out.2]
    have HQ := hid hq
    have HMn : Hid (∀ W : World, Ints W B (.slice ao xs.length cap) xs → B ≤ W.heap.size → Calls Try.prog 136 #[.slice ao xs.length cap, .func (.func 137) #[] #[]] W fun e w' => e = .returned (.int .i64 (mnL xs)) ∧ Below W.heap.size W w') := hid (fun W i l => minFunc xs _ B W i l hp hn HS.out)
    have hm2 : -100 ≤ mnL xs ∧ mnL xs ≤ 100 := hm
    have HCt : Hid (∀ W : World, Ints W B (.slice ao xs.length cap) xs → B ≤ W.heap.size → Calls Try.prog 138 #[.slice ao xs.length cap, .int .i64 (-(mnL xs))] W fun e w' => e = .returned (.bool q) ∧ Below W.heap.size W w') := hid (fun W i l => contains xs _ q HQ.out _ B W i l (by omega))
    clear hm hq HV
    have hg : (((xs.length : Nat) : Int) == 0) = false := beq_eq_false_iff_ne.2 (by omega)
    have hg2 : decide (xs.length = 0) = false := decide_eq_false (by omega)
    generalize mnL xs = m at *
    have hw : IntKind.i64.wrap (-m) = -m := IntWalk.i64_in _ (by omega)
    generalize hln : xs.length = n at *
    go_enter Try.func124, Try.ntmps124
    go_wp2_with fail
    refine (HMn.out w HA.out hB).mono ?_
    rintro e w1 ⟨rfl, b1⟩
    have HB1 := hid b1
    have HA1 := hid (HA.out.chg (Chg.ofBelow (lo := 0) b1) (.inr (Nat.zero_le _)))
    clear b1
    go_wp2_with fail
    refine (HCt.out w1 HA1.out (by have := HB1.out.size; omega)).mono ?_
    rintro e w2 ⟨rfl, b2⟩
    have HB2 := hid (HB1.out.trans (b2.mono HB1.out.size))
    clear b2
    cases q
    · go_wp2
      go_ret2
      exact ⟨rfl, HB2.out⟩
    · go_wp2
      go_ret2
      exact ⟨rfl, HB2.out⟩
  · obtain rfl : xs = [] := List.length_eq_zero_iff.1 (by omega)
    have HV := hid m_nil
    rw [HV.out.1, HV.out.2]
    go_enter Try.func124, Try.ntmps124
    go_wp2
    go_ret2
    exact ⟨rfl, Below.refl _ _⟩

/-! ### the model -/
set_option maxHeartbeats 800000 in
theorem specMain0 (xs : List Int) (v : Value) (B : Nat) (w : World) (ha : Ints w B v xs) (hB : B ≤ w.heap.size) (hn : xs.length ≤ 5000) (hs : Small xs) :
    Calls Try.prog 123 #[v] w fun e w' => e = .returned (.tuple #[.int .i64 (mL xs), .bool (mOk xs)]) ∧ Below w.heap.size w w' := by
  rcases ha with ⟨rfl, ao, cap, rfl⟩ | ⟨hp, b, off, cap, rfl, hb, hc⟩
  · have HV := hid m_nil
    rw [HV.out.1, HV.out.2]
    go_enter Try.func123, Try.ntmps123
    go_wp2
    go_ret2
    exact ⟨rfl, Below.refl _ _⟩
  · obtain ⟨q, hq⟩ : ∃ q, inB xs (-(mnL xs)) = q := ⟨_, rfl⟩
    have HV : Hid (mL xs = (if q = true then 0 else mnL xs) ∧ mOk xs = !q) := hid (by
      cases q
      · exact ⟨(m_good hp hq).2, (m_good hp hq).1⟩
      · exact ⟨(m_bad hq).2, (m_bad hq).1⟩)
    rw [HV.out.1, HV.out.2]
    have HQ := hid hq
    have HM := hid (fun k hk => mn_small hs hp k hk)
    have HS := hid hs
    have HO := hid (mn_one xs)
    have HF : Hid (mnL xs = mnTo xs xs.length) := hid rfl
    clear hs hq HV
    obtain ⟨n, hnn⟩ : ∃ n, n = xs.length := ⟨_, rfl⟩
    rw [← hnn] at hp hc hn HM HF ⊢
    have HN := hid hnn
    have HC := hid hc
    have h0 : w.cell? ⟨b, off, none⟩ = some (.int .i64 (xs.getD 0 0)) := hc 0 hp
    have hg : (((n : Nat) : Int) == 0) = false := by simp; omega
    have hg2 : decide (n = 0) = false := by simp; omega
    have hg4 : 0 < (n : Int) := by omega
    clear hnn hc
    rw [← HO.out] at h0
    go_enter Try.func123, Try.ntmps123
    go_wp2
    go_loopw [4, 5] (fun m i wr => ∃ k : Nat, 1 ≤ k ∧ k ≤ n ∧ i = .int .i64 k ∧ m = .int .i64 (mnTo xs k) ∧ Below w.heap.size w wr) (fun _ i _ => n - (intOf i).toNat)
    case atStart => exact ⟨1, by omega, by omega, rfl, rfl, Below.refl _ _⟩
    case round =>
      obtain ⟨k, hk1, hk, rfl, rfl, hbel⟩ := hrel
      have HB := hid hbel
      clear hbel
      by_cases hlt : k < n
      · have h1 : wr.cell? ⟨b, off + k, none⟩ = some (.int .i64 (xs.getD k 0)) := (HB.out.cell (p := ⟨b, off + k, none⟩) (by show b < _; omega)).trans (HC.out k hlt)
        have hm1 := HM.out k hk
        have hs1 := HS.out k (by rw [← HN.out]; exact hlt)
        obtain ⟨m, hmm⟩ : ∃ m, m = mnTo xs k := ⟨_, rfl⟩
        obtain ⟨x, hx⟩ : ∃ x, x = xs.getD k 0 := ⟨_, rfl⟩
        by_cases hc : ab (xs.getD k 0) < ab (mnTo xs k)
        · have HY := hid (mn_yes xs k hc)
          rw [← hmm] at hm1 hc ⊢
          rw [← hx] at h1 hs1 hc
          have HX := hid hx
          have HQx := hid (fun W => quiet_abs x hs1 (ab x) rfl W)
          have HQm := hid (fun W => quiet_abs m hm1 (ab m) rfl W)
          generalize ab x = p at *
          generalize ab m = r at *
          clear hx hmm
          go_wp2_with fail
          refine (HQx.out _).mono ?_
          rintro e w1 ⟨rfl, rfl⟩
          go_wp2_with fail
          refine (HQm.out _).mono ?_
          rintro e w1 ⟨rfl, rfl⟩
          go_wp2
          go_roundw
          case rel => exact ⟨k + 1, by omega, by omega, by go_num, by rw [HY.out, ← HX.out], HB.out⟩
          case measure => simp [intOf]; omega
        · have HY := hid (mn_no xs k hc)
          rw [← hmm] at hm1 hc ⊢
          rw [← hmm] at HY
          rw [← hx] at h1 hs1 hc
          have HQx := hid (fun W => quiet_abs x hs1 (ab x) rfl W)
          have HQm := hid (fun W => quiet_abs m hm1 (ab m) rfl W)
          generalize ab x = p at *
          generalize ab m = r at *
          have hcd : decide (p < r) = false := by simpa using hc
          clear hx hmm
          go_wp2_with fail
          refine (HQx.out _).mono ?_
          rintro e w1 ⟨rfl, rfl⟩
          go_wp2_with fail
          refine (HQm.out _).mono ?_
          rintro e w1 ⟨rfl, rfl⟩
          go_wp2
          go_roundw
          case rel => exact ⟨k + 1, by omega, by omega, by go_num, by rw [HY.out], HB.out⟩
          case measure => simp [intOf]; omega
      · obtain rfl : k = n := by omega
        have hmb := HM.out k (Nat.le_refl _)
        rw [← HF.out] at hmb ⊢
        obtain ⟨m, hmm⟩ : ∃ m, m = mnL xs := ⟨_, rfl⟩
        rw [← hmm] at hmb ⊢
        rw [← hmm] at HQ
        have hw : IntKind.i64.wrap (-m) = -m := IntWalk.i64_in _ (by omega)
        have HMM := hid hmm
        clear hmm HF HM HS HO
        go_wp2
        go_loopw [6] (fun i wq => ∃ j : Nat, j ≤ k ∧ i = .int .i64 j ∧ (∀ t, t < j → ¬ (-m) = xs.getD t 0) ∧ Below w.heap.size w wq) (fun i _ => k - (intOf i).toNat)
        case atStart => exact ⟨0, Nat.zero_le _, rfl, fun t ht => by omega, HB.out⟩
        case round =>
          obtain ⟨j, hj, rfl, hgg, hbel⟩ := hrel
          have HG := hid hgg
          have HB2 := hid hbel
          clear hgg hbel
          by_cases hlt2 : j < k
          · have h1 : wr.cell? ⟨b, off + j, none⟩ = some (.int .i64 (xs.getD j 0)) := (HB2.out.cell (p := ⟨b, off + j, none⟩) (by show b < _; omega)).trans (HC.out j hlt2)
            obtain ⟨y, hy⟩ : ∃ y, y = xs.getD j 0 := ⟨_, rfl⟩
            rw [← hy] at h1
            have HY := hid hy
            clear hy
            by_cases he : y = -m
            · have hq1 : q = true := by
                rw [← HQ.out]
                exact in_at j (by rw [← HN.out]; exact hlt2) (by rw [← HY.out]; exact he)
              subst he
              subst hq1
              go_wp2
              go_ret2
              exact ⟨rfl, HB2.out⟩
            · have hf : (y == -m) = false := beq_eq_false_iff_ne.2 he
              have hf2 : decide (y = -m) = false := by simpa using he
              have HE := hid he
              clear he
              go_wp2
              go_roundw
              case rel => exact ⟨j + 1, by omega, by go_num, fun t ht => by
                rcases Nat.lt_or_ge t j with h | h
                · exact HG.out t h
                · obtain rfl : t = j := by omega
                  rw [← HY.out]; exact fun e => HE.out e.symm, HB2.out⟩
              case measure => simp [intOf]; omega
          · obtain rfl : j = k := by omega
            have hq1 : q = false := by
              rw [← HQ.out]
              exact in_none fun t ht => HG.out t (by rw [HN.out]; exact ht)
            subst hq1
            go_wp2
            go_ret2
            exact ⟨by rw [← HMM.out]; rfl, HB2.out⟩

end Go.Proofs.Ytedajefapddekaa.ml
