/-
  HandleForm, HandleTrivial and SignOfBraid of both sides.
-/
import Derived.Test.YtedajefapddekaaHm3
import Derived.Test.YtedajefapddekaaMl
namespace Go.Proofs.Ytedajefapddekaa.hl
open Go.RowKit Go.Proofs.Ytedajefapddekaa.sl Go.Proofs.Ytedajefapddekaa.br Go.Proofs.Ytedajefapddekaa.bw Go.Proofs.Ytedajefapddekaa.fn
set_option linter.unusedVariables false

theorem form_let (f : Nat) : ∀ (y : List Int) (s : Int) (r : List Int × Int), Let 11 y → y.length ≤ 4000 → form f y s = some r → Let 11 r.1 ∧ r.1.length ≤ 4000 ∧ s ≤ r.2 ∧ r.2 ≤ s + f := by
  induction f with
  | zero =>
    intro y s r hl hn h
    rcases fst_cases y with ⟨h0, _⟩ | ⟨p, q, h1, _⟩
    · rw [form_end _ _ _ h0] at h; obtain rfl := Option.some.inj h; exact ⟨hl, hn, by simp, by simp⟩
    · rw [form_zero _ _ p q h1] at h; cases h
  | succ f ih =>
    intro y s r hl hn h
    rcases fst_cases y with ⟨h0, _⟩ | ⟨p, q, h1, hq, _⟩
    · rw [form_end _ _ _ h0] at h; obtain rfl := Option.some.inj h; exact ⟨hl, hn, by simp, by simp; omega⟩
    · by_cases hb : 4000 < (hred y p q).length
      · rw [form_long _ _ _ p q h1 hb] at h; cases h
      · rw [form_step _ _ _ p q h1 hb] at h
        obtain ⟨a, b, c, d⟩ := ih _ _ _ (hl.hred p q (by have := (fst_ok h1).1; omega)) (by omega) h
        exact ⟨a, b, by omega, by omega⟩
theorem hfL_let (b : Int) (xs : List Int) (hl : Let 11 xs) (hn : xs.length ≤ 4000) : Let 11 (hfL b xs) ∧ (hfL b xs).length ≤ 4000 := by
  unfold hfL
  split
  · cases h : hfR b xs with
    | none => exact ⟨fun x hx => by simp at hx, by simp⟩
    | some r => exact ⟨(form_let _ _ _ _ hl hn h).1, (form_let _ _ _ _ hl hn h).2.1⟩
  · exact ⟨fun x hx => by simp at hx, by simp⟩
theorem Let.small {xs : List Int} (h : Let 11 xs) : ml.Small xs := fun j hj => by have := ab_bound _ 11 (h.at j hj); omega

def hoL (s b : Int) (xs : List Int) : List Int := if okB s xs = true then hfL b xs else []
def hoS (s b : Int) (xs : List Int) : Int := if okB s xs = true then hfS b xs else 0
def hoC (s b : Int) (xs : List Int) : Int := if okB s xs = true then hfC b xs else 1
theorem ho_no {s b : Int} {xs : List Int} (h : okB s xs = false) : hoL s b xs = [] ∧ hoS s b xs = 0 ∧ hoC s b xs = 1 := by unfold hoL hoS hoC; rw [h]; exact ⟨rfl, rfl, rfl⟩
theorem ho_yes {s b : Int} {xs : List Int} (h : okB s xs = true) : hoL s b xs = hfL b xs ∧ hoS s b xs = hfS b xs ∧ hoC s b xs = hfC b xs := by unfold hoL hoS hoC; rw [h]; exact ⟨rfl, rfl, rfl⟩
theorem hoL_let (s b : Int) (xs : List Int) : Let 11 (hoL s b xs) ∧ (hoL s b xs).length ≤ 4000 := by
  cases h : okB s xs
  · rw [(ho_no (b := b) h).1]; exact ⟨fun x hx => by simp at hx, by simp⟩
  · rw [(ho_yes (b := b) h).1]; exact hfL_let b xs (Let.ofOk h) (by have := (ok_parts h).2.2.1; omega)
theorem hoL_len (s b : Int) (xs : List Int) : (hoL s b xs).length ≤ 20000 := by have := (hoL_let s b xs).2; omega
/-- The braid's word is trivial by handle reduction. -/
def htB (s b : Int) (xs : List Int) : Bool := decide (hoC s b xs = 0) && decide ((hoL s b xs).length = 0)
/-- The sign of a word without handles. -/
def sgL (y : List Int) : Int := if 0 < ml.mL y then 1 else if ml.mL y < 0 then -1 else 0
def soI (s b : Int) (xs : List Int) : Int := sgL (hoL s b xs)
def SOk (v : Value) : Prop := NilOk v ∧ CapOk v
theorem sok_own {w : World} {lo hi : Nat} {v : Value} {xs : List Int} (o : Own w lo hi v xs) : SOk v := ⟨nilok_own o, capok_own o⟩
theorem cmp0 (m : Int) : mj.cmpI m 0 = if 0 < m then 1 else if m < 0 then -1 else 0 := by
  unfold mj.cmpI; split <;> (try split) <;> (try split) <;> omega

theorem implSg (y : List Int) (v : Value) (B : Nat) (w : World) (ha : Ints w B v y) (hB : B ≤ w.heap.size) (hn : y.length ≤ 4000) (hl : Let 11 y) :
    Calls Try.prog 94 #[v] w fun e w' => e = .returned (.int .i64 (sgL y)) ∧ Below w.heap.size w w' := by
  have HM := hid (ml.implMain0 y v B w ha hB (by omega) hl.small)
  have HS : Hid (sgL y = mj.cmpI (ml.mL y) 0) := hid (by rw [cmp0]; rfl)
  generalize ml.mL y = m at *
  generalize ml.mOk y = q at *
  clear ha
  go_enter Try.func94, Try.ntmps94
  go_wp2_with fail
  refine HM.out.mono ?_
  rintro e w1 ⟨rfl, b1⟩
  have HB := hid b1
  clear b1
  go_wp2_with fail
  refine (mj.cmpC m 0 w1).mono ?_
  rintro e w2 ⟨rfl, hw⟩
  obtain rfl := hw.symm
  go_wp2
  go_ret
  exact ⟨by rw [HS.out]; rfl, HB.out⟩
theorem specSg (y : List Int) (v : Value) (B : Nat) (w : World) (ha : Ints w B v y) (hB : B ≤ w.heap.size) (hn : y.length ≤ 4000) (hl : Let 11 y) :
    Calls Try.prog 93 #[v] w fun e w' => e = .returned (.int .i64 (sgL y)) ∧ Below w.heap.size w w' := by
  have HM := hid (ml.specMain0 y v B w ha hB (by omega) hl.small)
  have HS1 : Hid (0 < ml.mL y → sgL y = 1) := hid (fun h => by unfold sgL; rw [if_pos h])
  have HS2 : Hid (¬ 0 < ml.mL y → ml.mL y < 0 → sgL y = -1) := hid (fun h h2 => by unfold sgL; rw [if_neg h, if_pos h2])
  have HS3 : Hid (¬ 0 < ml.mL y → ¬ ml.mL y < 0 → sgL y = 0) := hid (fun h h2 => by unfold sgL; rw [if_neg h, if_neg h2])
  generalize ml.mL y = m at *
  generalize ml.mOk y = q at *
  clear ha
  by_cases h1 : 0 < m
  · go_enter Try.func93, Try.ntmps93
    go_wp2_with fail
    refine HM.out.mono ?_
    rintro e w1 ⟨rfl, b1⟩
    have HB := hid b1
    have HV := hid (HS1.out h1)
    clear b1
    go_wp2
    go_ret
    exact ⟨by rw [HV.out]; rfl, HB.out⟩
  · by_cases h2 : m < 0
    · go_enter Try.func93, Try.ntmps93
      go_wp2_with fail
      refine HM.out.mono ?_
      rintro e w1 ⟨rfl, b1⟩
      have HB := hid b1
      have HV := hid (HS2.out h1 h2)
      clear b1
      go_wp2
      go_ret
      exact ⟨by rw [HV.out]; rfl, HB.out⟩
    · go_enter Try.func93, Try.ntmps93
      go_wp2_with fail
      refine HM.out.mono ?_
      rintro e w1 ⟨rfl, b1⟩
      have HB := hid b1
      have HV := hid (HS3.out h1 h2)
      clear b1
      go_wp2
      go_ret
      exact ⟨by rw [HV.out]; rfl, HB.out⟩

theorem implHF (s : Int) (xs : List Int) (b : Int) (v : Value) (B : Nat) (w : World) (ha : Ints w B v xs) (hB : B ≤ w.heap.size) (hn : xs.length ≤ 1099511627776) (hok : SOk v) :
    Calls Try.prog 44 #[.agg #[.int .i64 s, v], .int .i64 b] w fun e w' => ∃ v', e = .returned (.tuple #[v', .int .i64 (hoS s b xs), .int .i64 (hoC s b xs)]) ∧ Own w' w.heap.size w'.heap.size v' (hoL s b xs) ∧ Below w.heap.size w w' := by
  obtain ⟨ao, cap, hv⟩ := ints_val ha
  subst hv
  have HA := hid ha
  have HOk := hid hok
  clear ha hok
  have HV := hid (implValidB s xs (.slice ao xs.length cap) B (w.alloc (.cells #[.int .i64 s, .slice ao xs.length cap] 39)) (ints_al HA.out _) (by simp; omega) hn)
  cases h : okB s xs
  · have HW := hid (ho_no (b := b) h)
    rw [h] at HV
    rw [HW.out.1, HW.out.2.1, HW.out.2.2]
    clear h
    go_enter Try.func44, Try.ntmps44
    go_wp2_with fail
    refine HV.out.mono ?_
    rintro e w1 ⟨rfl, b1⟩
    have HB1 := hid (box1 b1).2.1
    clear HV b1
    go_wp2
    refine bodyPost_ret (v := .tuple #[.slice none 0 0, .int .i64 0, .int .i64 1]) (by simp [results, Try.results44, go_sem]) rfl ⟨_, rfl, Own.nil _ _, HB1.out⟩
  · have HW := hid (ho_yes (b := b) h)
    have HFm : Hid (∀ W : World, Ints W B (.slice ao xs.length cap) xs → B ≤ W.heap.size → Calls Try.prog 90 #[.slice ao xs.length cap, .int .i64 b] W fun e w' => ∃ v', e = .returned (.tuple #[v', .int .i64 (hfS b xs), .int .i64 (hfC b xs)]) ∧ Own w' W.heap.size w'.heap.size v' (hfL b xs) ∧ Below W.heap.size W w') := hid (fun W i l => formI b xs _ B W i l (by have := (ok_parts h).2.2.1; omega) (Let.ofOk h))
    rw [h] at HV
    rw [HW.out.1, HW.out.2.1, HW.out.2.2]
    clear h
    generalize hfS b xs = f1 at *
    generalize hfC b xs = f2 at *
    generalize hfL b xs = f3 at *
    generalize hln : xs.length = n at *
    go_enter Try.func44, Try.ntmps44
    go_wp2_with fail
    refine HV.out.mono ?_
    rintro e w1 ⟨rfl, b1⟩
    have hb := box1 (b1)
    
    have d0 := hb.1 0
    have d1 := hb.1 1
    have hz := hb.2.2
    have HB1 := hid hb.2.1
    have HA1 := hid (HA.out.chg (Chg.ofBelow (lo := 0) hb.2.1) (.inr (Nat.zero_le _)))
    simp at d0 d1
    clear hb HV
    go_wp2_with fail
    refine (HFm.out w1 HA1.out (by omega)).mono ?_
    rintro e w2 ⟨v2, rfl, o2, b2⟩
    have HO2 := hid (o2.lo HB1.out.size)
    have HB2 := hid (HB1.out.trans (b2.mono HB1.out.size))
    clear b2 o2
    go_wp2
    refine bodyPost_ret (v := .tuple #[v2, .int .i64 f1, .int .i64 f2]) (by simp [results, Try.results44, go_sem]) rfl ⟨v2, rfl, HO2.out, HB2.out⟩

theorem implHT (s : Int) (xs : List Int) (b : Int) (v : Value) (B : Nat) (w : World) (ha : Ints w B v xs) (hB : B ≤ w.heap.size) (hn : xs.length ≤ 1099511627776) (hok : SOk v) :
    Calls Try.prog 46 #[.agg #[.int .i64 s, v], .int .i64 b] w fun e w' => e = .returned (.tuple #[.bool (htB s b xs), .int .i64 (hoC s b xs)]) ∧ Below w.heap.size w w' := by
  obtain ⟨ao, cap, hv⟩ := ints_val ha
  subst hv
  have HA := hid ha
  have HOk := hid hok
  clear ha hok
  have HFm := hid (implHF s xs b (.slice ao xs.length cap) B (w.alloc (.cells #[.int .i64 s, .slice ao xs.length cap] 39)) (ints_al HA.out _) (by simp; omega) hn HOk.out)
  have HLt := hid (hoL_let s b xs)

  have HT : Hid (htB s b xs = (decide (hoC s b xs = 0) && decide ((hoL s b xs).length = 0))) := hid rfl
  rw [HT.out]
  clear HT
  generalize hoS s b xs = f1 at *
  generalize hoC s b xs = f2 at *
  generalize hoL s b xs = f3 at *
  obtain ⟨l3, hl3⟩ : ∃ l3, l3 = f3.length := ⟨_, rfl⟩
  rw [← hl3]
  have HL3 := hid hl3
  clear hl3
  by_cases c1 : f2 = 0
  · have g1 : (f2 == 0) = true := by simp [c1]
    by_cases c2 : l3 = 0
    · have g2 : decide (l3 = 0) = true := by simp [c2]
      have g3 : ((l3 : Int) == 0) = true := by simp [c2]
      rw [decide_eq_true c1, g2]
      clear c1 c2 g2
      go_enter Try.func46, Try.ntmps46
      go_wp2_with fail
      refine HFm.out.mono ?_
      rintro e w1 ⟨v1, rfl, o1, b1⟩
      have HB1 := hid (box1 b1).2.1
      obtain ⟨ao1, cp1, rfl⟩ := br.own_val o1
      rw [← HL3.out]
      clear b1 o1
      go_wp2
      go_ret2
      exact ⟨rfl, HB1.out⟩
    · have g2 : decide (l3 = 0) = false := by simp [c2]
      have g3 : ((l3 : Int) == 0) = false := by simp; omega
      rw [decide_eq_true c1, g2]
      clear c1 c2 g2
      go_enter Try.func46, Try.ntmps46
      go_wp2_with fail
      refine HFm.out.mono ?_
      rintro e w1 ⟨v1, rfl, o1, b1⟩
      have HB1 := hid (box1 b1).2.1
      obtain ⟨ao1, cp1, rfl⟩ := br.own_val o1
      rw [← HL3.out]
      clear b1 o1
      go_wp2
      go_ret2
      exact ⟨rfl, HB1.out⟩
  · have g1 : (f2 == 0) = false := by simp [c1]
    rw [decide_eq_false c1, Bool.false_and]
    clear c1
    go_enter Try.func46, Try.ntmps46
    go_wp2_with fail
    refine HFm.out.mono ?_
    rintro e w1 ⟨v1, rfl, o1, b1⟩
    have HB1 := hid (box1 b1).2.1
    obtain ⟨ao1, cp1, rfl⟩ := br.own_val o1
    rw [← HL3.out]
    clear b1 o1
    go_wp2
    go_ret2
    exact ⟨rfl, HB1.out⟩

theorem implSO (s : Int) (xs : List Int) (b : Int) (v : Value) (B : Nat) (w : World) (ha : Ints w B v xs) (hB : B ≤ w.heap.size) (hn : xs.length ≤ 1099511627776) (hok : SOk v) :
    Calls Try.prog 50 #[.agg #[.int .i64 s, v], .int .i64 b] w fun e w' => e = .returned (.tuple #[.int .i64 (soI s b xs), .int .i64 (hoC s b xs)]) ∧ Below w.heap.size w w' := by
  obtain ⟨ao, cap, hv⟩ := ints_val ha
  subst hv
  have HA := hid ha
  have HOk := hid hok
  clear ha hok
  have HFm := hid (implHF s xs b (.slice ao xs.length cap) B (w.alloc (.cells #[.int .i64 s, .slice ao xs.length cap] 39)) (ints_al HA.out _) (by simp; omega) hn HOk.out)
  have HLt := hid (hoL_let s b xs)

  have HSg : Hid (∀ (W : World) (u : Value) (C : Nat), Ints W C u (hoL s b xs) → C ≤ W.heap.size → Calls Try.prog 94 #[u] W fun e w' => e = .returned (.int .i64 (soI s b xs)) ∧ Below W.heap.size W w') := hid (fun W u C i l => implSg _ u C W i l HLt.out.2 HLt.out.1)
  generalize soI s b xs = r at *
  generalize hoS s b xs = f1 at *
  generalize hoC s b xs = f2 at *
  generalize hoL s b xs = f3 at *
  go_enter Try.func50, Try.ntmps50
  go_wp2_with fail
  refine HFm.out.mono ?_
  rintro e w1 ⟨v1, rfl, o1, b1⟩
  have HB1 := hid (box1 b1).2.1
  have HI1 := hid o1.ints
  clear b1 o1
  go_wp2_with fail
  refine (HSg.out w1 v1 _ HI1.out (Nat.le_refl _)).mono ?_
  rintro e w2 ⟨rfl, b2⟩
  have HB2 := hid (HB1.out.trans (b2.mono HB1.out.size))
  clear b2
  go_wp2
  go_ret2
  exact ⟨rfl, HB2.out⟩

theorem specHF (s : Int) (xs : List Int) (b : Int) (v : Value) (B : Nat) (w : World) (ha : Ints w B v xs) (hB : B ≤ w.heap.size) (hn : xs.length ≤ 1099511627776) (hok : SOk v) :
    Calls Try.prog 43 #[.agg #[.int .i64 s, v], .int .i64 b] w fun e w' => ∃ v', e = .returned (.tuple #[v', .int .i64 (hoS s b xs), .int .i64 (hoC s b xs)]) ∧ Own w' w.heap.size w'.heap.size v' (hoL s b xs) ∧ Below w.heap.size w w' := by
  obtain ⟨ao, cap, hv⟩ := ints_val ha
  subst hv
  have HA := hid ha
  have HOk := hid hok
  clear ha hok
  have HV := hid (specOkA s xs (.slice ao xs.length cap) B w HA.out hn)
  cases h : okB s xs
  · have HW := hid (ho_no (b := b) h)
    rw [h] at HV
    rw [HW.out.1, HW.out.2.1, HW.out.2.2]
    clear h
    go_enter Try.func43, Try.ntmps43
    go_wp2_with fail
    refine HV.out.mono ?_
    rintro e w1 ⟨rfl, q, rfl⟩
    go_wp2
    refine bodyPost_ret (v := .tuple #[.slice none 0 0, .int .i64 0, .int .i64 1]) (by simp [results, Try.results43, go_sem]) rfl ⟨_, rfl, Own.nil _ _, bdrewN ((Below.refl w.heap.size w).alloc (Nat.le_refl _) _) _⟩
  · have HW := hid (ho_yes (b := b) h)
    have HFm : Hid (∀ W : World, Ints W B (.slice ao xs.length cap) xs → B ≤ W.heap.size → Calls Try.prog 89 #[.slice ao xs.length cap, .int .i64 b] W fun e w' => ∃ v', e = .returned (.tuple #[v', .int .i64 (hfS b xs), .int .i64 (hfC b xs)]) ∧ Own w' W.heap.size w'.heap.size v' (hfL b xs) ∧ Below W.heap.size W w') := hid (fun W i l => formS b xs _ B W i l HOk.out.1 HOk.out.2 (by have := (ok_parts h).2.2.1; omega) (Let.ofOk h))
    rw [h] at HV
    rw [HW.out.1, HW.out.2.1, HW.out.2.2]
    clear h
    generalize hfS b xs = f1 at *
    generalize hfC b xs = f2 at *
    generalize hfL b xs = f3 at *
    generalize hln : xs.length = n at *
    go_enter Try.func43, Try.ntmps43
    go_wp2_with fail
    refine HV.out.mono ?_
    rintro e w1 ⟨rfl, q, rfl⟩
    have hb := box1 (bdrewN (Below.refl _ (w.alloc (.cells #[.int .i64 s, .slice ao n cap] 39))) q)
    generalize (w.alloc (.cells #[.int .i64 s, .slice ao n cap] 39)).drewN q = w1 at *
    have d0 := hb.1 0
    have d1 := hb.1 1
    have hz := hb.2.2
    have HB1 := hid hb.2.1
    have HA1 := hid (HA.out.chg (Chg.ofBelow (lo := 0) hb.2.1) (.inr (Nat.zero_le _)))
    simp at d0 d1
    clear hb HV
    go_wp2_with fail
    refine (HFm.out w1 HA1.out (by omega)).mono ?_
    rintro e w2 ⟨v2, rfl, o2, b2⟩
    have HO2 := hid (o2.lo HB1.out.size)
    have HB2 := hid (HB1.out.trans (b2.mono HB1.out.size))
    clear b2 o2
    go_wp2
    refine bodyPost_ret (v := .tuple #[v2, .int .i64 f1, .int .i64 f2]) (by simp [results, Try.results43, go_sem]) rfl ⟨v2, rfl, HO2.out, HB2.out⟩

theorem specHT (s : Int) (xs : List Int) (b : Int) (v : Value) (B : Nat) (w : World) (ha : Ints w B v xs) (hB : B ≤ w.heap.size) (hn : xs.length ≤ 1099511627776) (hok : SOk v) :
    Calls Try.prog 45 #[.agg #[.int .i64 s, v], .int .i64 b] w fun e w' => e = .returned (.tuple #[.bool (htB s b xs), .int .i64 (hoC s b xs)]) ∧ Below w.heap.size w w' := by
  obtain ⟨ao, cap, hv⟩ := ints_val ha
  subst hv
  have HA := hid ha
  have HOk := hid hok
  clear ha hok
  have HFm := hid (specHF s xs b (.slice ao xs.length cap) B (w.alloc (.cells #[.int .i64 s, .slice ao xs.length cap] 39)) (ints_al HA.out _) (by simp; omega) hn HOk.out)
  have HLt := hid (hoL_let s b xs)

  have HT : Hid (htB s b xs = (decide (hoC s b xs = 0) && decide ((hoL s b xs).length = 0))) := hid rfl
  rw [HT.out]
  clear HT
  generalize hoS s b xs = f1 at *
  generalize hoC s b xs = f2 at *
  generalize hoL s b xs = f3 at *
  obtain ⟨l3, hl3⟩ : ∃ l3, l3 = f3.length := ⟨_, rfl⟩
  rw [← hl3]
  have HL3 := hid hl3
  clear hl3
  by_cases c1 : f2 = 0
  · have g1 : (f2 == 0) = true := by simp [c1]
    by_cases c2 : l3 = 0
    · have g2 : decide (l3 = 0) = true := by simp [c2]
      have g3 : ((l3 : Int) == 0) = true := by simp [c2]
      rw [decide_eq_true c1, g2]
      clear c1 c2 g2
      go_enter Try.func45, Try.ntmps45
      go_wp2_with fail
      refine HFm.out.mono ?_
      rintro e w1 ⟨v1, rfl, o1, b1⟩
      have HB1 := hid (box1 b1).2.1
      obtain ⟨ao1, cp1, rfl⟩ := br.own_val o1
      rw [← HL3.out]
      clear b1 o1
      go_wp2
      go_ret2
      exact ⟨rfl, HB1.out⟩
    · have g2 : decide (l3 = 0) = false := by simp [c2]
      have g3 : ((l3 : Int) == 0) = false := by simp; omega
      rw [decide_eq_true c1, g2]
      clear c1 c2 g2
      go_enter Try.func45, Try.ntmps45
      go_wp2_with fail
      refine HFm.out.mono ?_
      rintro e w1 ⟨v1, rfl, o1, b1⟩
      have HB1 := hid (box1 b1).2.1
      obtain ⟨ao1, cp1, rfl⟩ := br.own_val o1
      rw [← HL3.out]
      clear b1 o1
      go_wp2
      go_ret2
      exact ⟨rfl, HB1.out⟩
  · have g1 : (f2 == 0) = false := by simp [c1]
    rw [decide_eq_false c1, Bool.false_and]
    clear c1
    go_enter Try.func45, Try.ntmps45
    go_wp2_with fail
    refine HFm.out.mono ?_
    rintro e w1 ⟨v1, rfl, o1, b1⟩
    have HB1 := hid (box1 b1).2.1
    obtain ⟨ao1, cp1, rfl⟩ := br.own_val o1
    rw [← HL3.out]
    clear b1 o1
    go_wp2
    go_ret2
    exact ⟨rfl, HB1.out⟩

theorem specSO (s : Int) (xs : List Int) (b : Int) (v : Value) (B : Nat) (w : World) (ha : Ints w B v xs) (hB : B ≤ w.heap.size) (hn : xs.length ≤ 1099511627776) (hok : SOk v) :
    Calls Try.prog 49 #[.agg #[.int .i64 s, v], .int .i64 b] w fun e w' => e = .returned (.tuple #[.int .i64 (soI s b xs), .int .i64 (hoC s b xs)]) ∧ Below w.heap.size w w' := by
  obtain ⟨ao, cap, hv⟩ := ints_val ha
  subst hv
  have HA := hid ha
  have HOk := hid hok
  clear ha hok
  have HFm := hid (specHF s xs b (.slice ao xs.length cap) B (w.alloc (.cells #[.int .i64 s, .slice ao xs.length cap] 39)) (ints_al HA.out _) (by simp; omega) hn HOk.out)
  have HLt := hid (hoL_let s b xs)

  have HSg : Hid (∀ (W : World) (u : Value) (C : Nat), Ints W C u (hoL s b xs) → C ≤ W.heap.size → Calls Try.prog 93 #[u] W fun e w' => e = .returned (.int .i64 (soI s b xs)) ∧ Below W.heap.size W w') := hid (fun W u C i l => specSg _ u C W i l HLt.out.2 HLt.out.1)
  generalize soI s b xs = r at *
  generalize hoS s b xs = f1 at *
  generalize hoC s b xs = f2 at *
  generalize hoL s b xs = f3 at *
  go_enter Try.func49, Try.ntmps49
  go_wp2_with fail
  refine HFm.out.mono ?_
  rintro e w1 ⟨v1, rfl, o1, b1⟩
  have HB1 := hid (box1 b1).2.1
  have HI1 := hid o1.ints
  clear b1 o1
  go_wp2_with fail
  refine (HSg.out w1 v1 _ HI1.out (Nat.le_refl _)).mono ?_
  rintro e w2 ⟨rfl, b2⟩
  have HB2 := hid (HB1.out.trans (b2.mono HB1.out.size))
  clear b2
  go_wp2
  go_ret2
  exact ⟨rfl, HB2.out⟩

theorem implHFq (s : Int) (xs : List Int) (b : Int) (v : Value) (B : Nat) (w : World) (ha : Ints w B v xs) (hB : B ≤ w.heap.size) (hn : xs.length ≤ 1099511627776) (hok : SOk v) :
    Calls Try.prog 44 #[.agg #[.int .i64 s, v], .int .i64 b] w fun e w' => ∃ ao cap, e = .returned (.tuple #[.slice ao (hoL s b xs).length cap, .int .i64 (hoS s b xs), .int .i64 (hoC s b xs)]) ∧ Own w' w.heap.size w'.heap.size (.slice ao (hoL s b xs).length cap) (hoL s b xs) ∧ Below w.heap.size w w' := by
  refine (implHF s xs b v B w ha hB hn hok).mono ?_
  rintro e w1 ⟨v1, rfl, o1, b1⟩
  obtain ⟨ao, cap, rfl⟩ := br.own_val o1
  exact ⟨ao, cap, rfl, o1, b1⟩
theorem specHFq (s : Int) (xs : List Int) (b : Int) (v : Value) (B : Nat) (w : World) (ha : Ints w B v xs) (hB : B ≤ w.heap.size) (hn : xs.length ≤ 1099511627776) (hok : SOk v) :
    Calls Try.prog 43 #[.agg #[.int .i64 s, v], .int .i64 b] w fun e w' => ∃ ao cap, e = .returned (.tuple #[.slice ao (hoL s b xs).length cap, .int .i64 (hoS s b xs), .int .i64 (hoC s b xs)]) ∧ Own w' w.heap.size w'.heap.size (.slice ao (hoL s b xs).length cap) (hoL s b xs) ∧ Below w.heap.size w w' := by
  refine (specHF s xs b v B w ha hB hn hok).mono ?_
  rintro e w1 ⟨v1, rfl, o1, b1⟩
  obtain ⟨ao, cap, rfl⟩ := br.own_val o1
  exact ⟨ao, cap, rfl, o1, b1⟩
end Go.Proofs.Ytedajefapddekaa.hl
