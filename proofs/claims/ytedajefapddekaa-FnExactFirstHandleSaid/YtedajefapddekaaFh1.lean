/-
  FirstHandle of both sides.
-/
import Derived.Test.YtedajefapddekaaHm3
namespace Go.Proofs.Ytedajefapddekaa.hl
open Go.RowKit Go.Proofs.Ytedajefapddekaa.sl Go.Proofs.Ytedajefapddekaa.br Go.Proofs.Ytedajefapddekaa.bw Go.Proofs.Ytedajefapddekaa.fn
set_option linter.unusedVariables false

def fiA (s : Int) (xs : List Int) : Int := if okB s xs = true then fsA xs else 0
def fiB (s : Int) (xs : List Int) : Int := if okB s xs = true then fsB xs else 0
def fiK (s : Int) (xs : List Int) : Bool := if okB s xs = true then fsK xs else false
theorem fi_no {s : Int} {xs : List Int} (h : okB s xs = false) : fiA s xs = 0 ∧ fiB s xs = 0 ∧ fiK s xs = false := by unfold fiA fiB fiK; rw [h]; exact ⟨rfl, rfl, rfl⟩
theorem fi_yes {s : Int} {xs : List Int} (h : okB s xs = true) : fiA s xs = fsA xs ∧ fiB s xs = fsB xs ∧ fiK s xs = fsK xs := by unfold fiA fiB fiK; rw [h]; exact ⟨rfl, rfl, rfl⟩

theorem implFi (s : Int) (xs : List Int) (v : Value) (B : Nat) (w : World) (ha : Ints w B v xs) (hB : B ≤ w.heap.size) (hn : xs.length ≤ 1099511627776) :
    Calls Try.prog 38 #[.agg #[.int .i64 s, v]] w fun e w' => e = .returned (.tuple #[.agg #[.int .i64 (fiA s xs), .int .i64 (fiB s xs)], .bool (fiK s xs)]) ∧ Below w.heap.size w w' := by
  obtain ⟨ao, cap, hv⟩ := ints_val ha
  subst hv
  have HA := hid ha
  clear ha
  obtain ⟨n, hnn⟩ : ∃ n, n = xs.length := ⟨_, rfl⟩
  rw [← hnn] at HA hn ⊢
  have HN := hid hnn
  clear hnn
  have HV := hid (implValidB s xs (.slice ao n cap) B ((w.alloc (.cells #[.int .i64 s, .slice ao n cap] 39)).alloc (.cells #[.int .i64 0, .int .i64 0] 50)) (ints_al (ints_al HA.out _) _) (by simp; omega) (by rw [← HN.out]; exact hn))
  cases h : okB s xs
  · have HW := hid (fi_no h)
    rw [h] at HV
    clear h
    go_enter Try.func38, Try.ntmps38
    go_wp2_with fail
    refine HV.out.mono ?_
    rintro e w1 ⟨rfl, b1⟩
    have HB1 := hid (box2 b1)
    have r0 := (HB1.out.2.1 0).1
    have r1 := (HB1.out.2.1 1).1
    have f0 := (HB1.out.2.1 0).2
    have f1 := (HB1.out.2.1 1).2
    simp at r0 r1
    clear b1 HV
    go_wp2
    refine bodyPost_ret (v := .tuple #[.agg #[.int .i64 0, .int .i64 0], .bool false]) (by simp [results, Try.results38, go_sem, r0, r1]) rfl ⟨by rw [HW.out.1, HW.out.2.1, HW.out.2.2], ?_⟩
    exact (HB1.out.2.2.1.setCell (by simp) _).setCell (by simp) _
  · have HW := hid (fi_yes h)
    have hl : n ≤ 40 := by rw [HN.out]; exact (ok_parts h).2.2.1
    have HLt := hid (Let.ofOk h)
    rw [h] at HV
    clear h
    go_enter Try.func38, Try.ntmps38
    go_wp2_with fail
    refine HV.out.mono ?_
    rintro e w1 ⟨rfl, b1⟩
    have HB1 := hid (box2 b1)
    have d0 := HB1.out.1 0
    have d1 := HB1.out.1 1
    have r0 := (HB1.out.2.1 0).1
    have r1 := (HB1.out.2.1 1).1
    have f0 := (HB1.out.2.1 0).2
    have f1 := (HB1.out.2.1 1).2
    have hz := HB1.out.2.2.2
    simp at d0 d1 r0 r1
    have HA1 := hid (HA.out.chg (Chg.ofBelow (lo := 0) HB1.out.2.2.1) (.inr (Nat.zero_le _)))
    clear b1 HV HA
    go_wp2_with fail
    refine (linkW xs (.slice ao n cap) B w1 HA1.out (by omega) (by rw [← HN.out]; omega)).mono ?_
    rintro e w2 ⟨W, Q, rfl, l2, b2⟩
    have HL2 := hid l2
    have HB2 := hid b2
    have x0 := (b2.cell (p := ⟨w.heap.size + 1, 0, none⟩) (by show w.heap.size + 1 < _; omega)).trans r0
    have x1 := (b2.cell (p := ⟨w.heap.size + 1, 1, none⟩) (by show w.heap.size + 1 < _; omega)).trans r1
    have y0 := (b2.frozen (p := ⟨w.heap.size + 1, 0, none⟩) (by show w.heap.size + 1 < _; omega)).trans f0
    have y1 := (b2.frozen (p := ⟨w.heap.size + 1, 1, none⟩) (by show w.heap.size + 1 < _; omega)).trans f1
    have c0 := HL2.out.c0
    have c1 := HL2.out.lst.nx 0 (Nat.zero_le _)
    unfold ptr at c0 c1
    obtain ⟨p0, hp0⟩ : ∃ p0, p0 = Q 0 := ⟨_, rfl⟩
    rw [← hp0] at c0 c1
    obtain ⟨p1, hp1⟩ : ∃ p1, p1 = Q (0 + 1) := ⟨_, rfl⟩
    rw [← hp1] at c1
    have HFH := hid (fhW w1.heap.size W Q xs 0 (Nat.zero_le _) (fun i hi => by omega) w2 HL2.out (by rw [← HN.out]; omega) HLt.out)
    rw [← hp1] at HFH
    have HBw := hid (HB1.out.2.2.1.trans (b2.mono (by have := HB1.out.2.2.1.size; exact this)))
    clear hp0 hp1 l2 b2 d0 d1 r0 r1 f0 f1 HB1
    unfold ptr at HFH
    unfold ptr
    rcases fst_cases xs with ⟨hno, _⟩ | ⟨p, q, hyes, hql, hqe, _⟩
    · have hA : fhA Q xs = .pointer none := by unfold fhA; rw [hno]
      have hB0 : fhB Q xs = .pointer none := by unfold fhB; rw [hno]
      have HE := hid (fs_no hno)
      rw [hA, hB0] at HFH
      clear hA hB0 hno
      go_wp2_with fail
      refine HFH.out.mono ?_
      rintro e w3 ⟨rfl, q, hw3⟩
      have HB3 : Hid (Below w.heap.size w w3) := hid (by rw [hw3]; exact bdrewN HBw.out q)
      have x0 : w3.cell? ⟨w.heap.size + 1, 0, none⟩ = some (.int .i64 0) := by rw [hw3]; exact x0
      have x1 : w3.cell? ⟨w.heap.size + 1, 1, none⟩ = some (.int .i64 0) := by rw [hw3]; exact x1
      have y0 : w3.frozen? ⟨w.heap.size + 1, 0, none⟩ = false := by rw [hw3]; exact y0
      have y1 : w3.frozen? ⟨w.heap.size + 1, 1, none⟩ = false := by rw [hw3]; exact y1
      clear hw3
      go_wp2
      refine bodyPost_ret (v := .tuple #[.agg #[.int .i64 0, .int .i64 0], .bool false]) (by simp [results, Try.results38, go_sem, x0, x1]) rfl ⟨by rw [HW.out.1, HW.out.2.1, HW.out.2.2, HE.out.1, HE.out.2.1, HE.out.2.2], ?_⟩
      exact (HB3.out.setCell (p := (⟨w.heap.size + 1, 0, none⟩ : Addr)) (Nat.le_succ _) _).setCell (p := (⟨w.heap.size + 1, 1, none⟩ : Addr)) (Nat.le_succ _) _
    · have hA : fhA Q xs = .pointer (some ⟨Q (p + 1), 0, none⟩) := by unfold fhA; rw [hyes]; rfl
      have hB0 : fhB Q xs = .pointer (some ⟨Q (q + 1), 0, none⟩) := by unfold fhB; rw [hyes]; rfl
      have HE := hid (fs_yes hyes)
      have HPQ := hid (And.intro (fst_ok hyes).1 hql)
      rw [hA, hB0] at HFH
      clear hA hB0 hyes hql hqe
      go_wp2_with fail
      refine HFH.out.mono ?_
      rintro e w3 ⟨rfl, q3, hw3⟩
      have HL3 : Hid (LW w3 w1.heap.size W Q xs) := hid (by rw [hw3]; exact HL2.out.drewN q3)
      have HB3 : Hid (Below w.heap.size w w3) := hid (by rw [hw3]; exact bdrewN HBw.out q3)
      have x0 : w3.cell? ⟨w.heap.size + 1, 0, none⟩ = some (.int .i64 0) := by rw [hw3]; exact x0
      have x1 : w3.cell? ⟨w.heap.size + 1, 1, none⟩ = some (.int .i64 0) := by rw [hw3]; exact x1
      have y0 : w3.frozen? ⟨w.heap.size + 1, 0, none⟩ = false := by rw [hw3]; exact y0
      have y1 : w3.frozen? ⟨w.heap.size + 1, 1, none⟩ = false := by rw [hw3]; exact y1
      clear hw3
      have HI1 := hid (idxW w1.heap.size W Q xs p (by have := HPQ.out; omega) w3 HL3.out (by rw [← HN.out]; omega))
      unfold ptr at HI1
      go_wp2_with fail
      refine HI1.out.mono ?_
      rintro e w4 ⟨rfl, q4, hw4⟩
      have HL4 : Hid (LW w4 w1.heap.size W Q xs) := hid (by rw [hw4]; exact HL3.out.drewN q4)
      have HB4 : Hid (Below w.heap.size w w4) := hid (by rw [hw4]; exact bdrewN HB3.out q4)
      have x0 : w4.cell? ⟨w.heap.size + 1, 0, none⟩ = some (.int .i64 0) := by rw [hw4]; exact x0
      have x1 : w4.cell? ⟨w.heap.size + 1, 1, none⟩ = some (.int .i64 0) := by rw [hw4]; exact x1
      have y0 : w4.frozen? ⟨w.heap.size + 1, 0, none⟩ = false := by rw [hw4]; exact y0
      have y1 : w4.frozen? ⟨w.heap.size + 1, 1, none⟩ = false := by rw [hw4]; exact y1
      clear hw4
      have HI2 := hid (idxW w1.heap.size W Q xs q (by have := HPQ.out; omega) w4 HL4.out (by rw [← HN.out]; omega))
      unfold ptr at HI2
      go_wp2_with fail
      refine HI2.out.mono ?_
      rintro e w5 ⟨rfl, q5, hw5⟩
      have HB5 : Hid (Below w.heap.size w w5) := hid (by rw [hw5]; exact bdrewN HB4.out q5)
      have x0 : w5.cell? ⟨w.heap.size + 1, 0, none⟩ = some (.int .i64 0) := by rw [hw5]; exact x0
      have x1 : w5.cell? ⟨w.heap.size + 1, 1, none⟩ = some (.int .i64 0) := by rw [hw5]; exact x1
      have y0 : w5.frozen? ⟨w.heap.size + 1, 0, none⟩ = false := by rw [hw5]; exact y0
      have y1 : w5.frozen? ⟨w.heap.size + 1, 1, none⟩ = false := by rw [hw5]; exact y1
      clear hw5
      go_wp2
      refine bodyPost_ret (v := .tuple #[.agg #[.int .i64 p, .int .i64 q], .bool true]) (by simp [results, Try.results38, go_sem, x0, x1]) rfl ⟨by rw [HW.out.1, HW.out.2.1, HW.out.2.2, HE.out.1, HE.out.2.1, HE.out.2.2], ?_⟩
      exact (HB5.out.setCell (p := (⟨w.heap.size + 1, 0, none⟩ : Addr)) (Nat.le_succ _) _).setCell (p := (⟨w.heap.size + 1, 1, none⟩ : Addr)) (Nat.le_succ _) _

theorem specFi (s : Int) (xs : List Int) (v : Value) (B : Nat) (w : World) (ha : Ints w B v xs) (hB : B ≤ w.heap.size) (hn : xs.length ≤ 1099511627776) :
    Calls Try.prog 37 #[.agg #[.int .i64 s, v]] w fun e w' => e = .returned (.tuple #[.agg #[.int .i64 (fiA s xs), .int .i64 (fiB s xs)], .bool (fiK s xs)]) ∧ Below w.heap.size w w' := by
  obtain ⟨ao, cap, hv⟩ := ints_val ha
  subst hv
  have HA := hid ha
  clear ha
  obtain ⟨n, hnn⟩ : ∃ n, n = xs.length := ⟨_, rfl⟩
  rw [← hnn] at HA hn ⊢
  have HN := hid hnn
  clear hnn
  have HV := hid (specOkA2 s xs (.slice ao n cap) B w (.cells #[.int .i64 0, .int .i64 0] 50) HA.out (by rw [← HN.out]; exact hn))
  cases h : okB s xs
  · have HW := hid (fi_no h)
    rw [h] at HV
    clear h
    go_enter Try.func37, Try.ntmps37
    go_wp2_with fail
    refine HV.out.mono ?_
    rintro e w1 ⟨rfl, q, rfl⟩
    have HB1 := hid (box2 (bdrewN (Below.refl _ ((w.alloc (.cells #[.int .i64 s, .slice ao n cap] 39)).alloc (.cells #[.int .i64 0, .int .i64 0] 50))) q))
    generalize ((w.alloc (.cells #[.int .i64 s, .slice ao n cap] 39)).alloc (.cells #[.int .i64 0, .int .i64 0] 50)).drewN q = w1 at *
    have r0 := (HB1.out.2.1 0).1
    have r1 := (HB1.out.2.1 1).1
    have f0 := (HB1.out.2.1 0).2
    have f1 := (HB1.out.2.1 1).2
    simp at r0 r1
    go_wp2
    refine bodyPost_ret (v := .tuple #[.agg #[.int .i64 0, .int .i64 0], .bool false]) (by simp [results, Try.results37, go_sem, r0, r1]) rfl ⟨by rw [HW.out.1, HW.out.2.1, HW.out.2.2], ?_⟩
    exact (HB1.out.2.2.1.setCell (by simp) _).setCell (by simp) _
  · have HW := hid (fi_yes h)
    have hl : n ≤ 40 := by rw [HN.out]; exact (ok_parts h).2.2.1
    have HLt := hid (Let.ofOk h)
    rw [h] at HV
    clear h
    go_enter Try.func37, Try.ntmps37
    go_wp2_with fail
    refine HV.out.mono ?_
    rintro e w1 ⟨rfl, q, rfl⟩
    have HB1 := hid (box2 (bdrewN (Below.refl _ ((w.alloc (.cells #[.int .i64 s, .slice ao n cap] 39)).alloc (.cells #[.int .i64 0, .int .i64 0] 50))) q))
    generalize ((w.alloc (.cells #[.int .i64 s, .slice ao n cap] 39)).alloc (.cells #[.int .i64 0, .int .i64 0] 50)).drewN q = w1 at *
    have d0 := HB1.out.1 0
    have d1 := HB1.out.1 1
    have r0 := (HB1.out.2.1 0).1
    have r1 := (HB1.out.2.1 1).1
    have f0 := (HB1.out.2.1 0).2
    have f1 := (HB1.out.2.1 1).2
    have hz := HB1.out.2.2.2
    simp at d0 d1 r0 r1
    have HA1 := hid (HA.out.chg (Chg.ofBelow (lo := 0) HB1.out.2.2.1) (.inr (Nat.zero_le _)))
    clear HV HA
    have HFi := hid (specFirst xs (.slice ao n cap) B w1 HA1.out (by omega) (by rw [← HN.out]; omega) HLt.out)
    generalize fsA xs = p at *
    generalize fsB xs = q at *
    generalize fsK xs = k at *
    go_wp2_with fail
    refine HFi.out.mono ?_
    rintro e w2 ⟨rfl, b2⟩
    have HB2 := hid (HB1.out.2.2.1.trans (b2.mono (by have := HB1.out.2.2.1.size; exact this)))
    have x0 := (b2.cell (p := ⟨w.heap.size + 1, 0, none⟩) (by show w.heap.size + 1 < _; omega)).trans r0
    have x1 := (b2.cell (p := ⟨w.heap.size + 1, 1, none⟩) (by show w.heap.size + 1 < _; omega)).trans r1
    have y0 := (b2.frozen (p := ⟨w.heap.size + 1, 0, none⟩) (by show w.heap.size + 1 < _; omega)).trans f0
    have y1 := (b2.frozen (p := ⟨w.heap.size + 1, 1, none⟩) (by show w.heap.size + 1 < _; omega)).trans f1
    clear b2 d0 d1 r0 r1 f0 f1
    go_wp2
    refine bodyPost_ret (v := .tuple #[.agg #[.int .i64 p, .int .i64 q], .bool k]) (by simp [results, Try.results37, go_sem, x0, x1]) rfl ⟨by rw [HW.out.1, HW.out.2.1, HW.out.2.2], ?_⟩
    exact (HB2.out.setCell (p := (⟨w.heap.size + 1, 0, none⟩ : Addr)) (Nat.le_succ _) _).setCell (p := (⟨w.heap.size + 1, 1, none⟩ : Addr)) (Nat.le_succ _) _

theorem eqH (a c : Int) (w : World) : Calls Try.prog 39 #[.agg #[.int .i64 a, .int .i64 c], .agg #[.int .i64 a, .int .i64 c]] w fun e w' => e = .returned (.bool true) ∧ Below w.heap.size w w' := by
  go_enter Try.func39, Try.ntmps39
  go_wp2
  go_ret
  refine ⟨rfl, ?_⟩
  repeat (first | exact Below.refl _ _ | refine Below.setCell ?_ (by simp) _ | refine Below.alloc ?_ (by simp; try omega) _)
end Go.Proofs.Ytedajefapddekaa.hl
