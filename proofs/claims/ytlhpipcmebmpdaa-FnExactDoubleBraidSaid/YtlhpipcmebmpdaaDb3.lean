/-
  DoubleBraid of the program.
-/
import Derived.Test.YtlhpipcmebmpdaaDb2
namespace Go.Proofs.Ytlhpipcmebmpdaa.db
open Go.RowKit Go.Proofs.Ytlhpipcmebmpdaa.sl Go.Proofs.Ytlhpipcmebmpdaa.pm Go.Proofs.Ytlhpipcmebmpdaa.fn Go.Proofs.Ytlhpipcmebmpdaa.br Go.Proofs.Ytlhpipcmebmpdaa.bw Go.Proofs.Ytlhpipcmebmpdaa.wk
set_option linter.unusedVariables false

def dbP (s : Int) (xs ss : List Int) : Bool := okB s xs && decide ((ss.length : Int) = s)
def badB (x : Int) : Bool := !decide (0 ≤ x ∧ x ≤ 4)
def dbSt (s : Int) (xs ss : List Int) : Int := if dbP s xs ss = true then (if ss.any badB = true then 0 else joinS (sumL ss) (rowsL ss xs xs.length)) else 0
def dbWo (s : Int) (xs ss : List Int) : List Int := if dbP s xs ss = true then (if ss.any badB = true then [] else joinW (sumL ss) (rowsL ss xs xs.length)) else []
def dbCo (s : Int) (xs ss : List Int) : Int := if dbP s xs ss = true then (if ss.any badB = true then 2 else joinC (sumL ss) (rowsL ss xs xs.length)) else 1
theorem sm_of {ss : List Int} (h : ss.any badB = false) : Sm ss := by
  intro j
  by_cases hj : j < ss.length
  · have h2 := List.any_eq_false.1 h (ss.getD j 0) (by simp [List.getD, List.getElem?_eq_getElem hj])
    simpa [badB] using h2
  · simp [List.getD, List.getElem?_eq_none (show ss.length ≤ j by omega)]

theorem sumL_le (ns : List Nat) (M : Nat) (h : ∀ x ∈ ns, x ≤ M) : ns.sum ≤ ns.length * M := by
  induction ns with
  | nil => simp
  | cons x ns ih =>
    have h1 := h x (by simp)
    have h2 := ih (fun r hr => h r (by simp [hr]))
    rw [List.sum_cons, List.length_cons, Nat.succ_mul]
    omega
theorem rows_tot (ss xs : List Int) (hsm : Sm ss) (hx : xs.length ≤ 40) (hs : ss.length ≤ 12) : (rowsL ss xs xs.length).flatten.length ≤ 1048576 := by
  rw [List.length_flatten]
  have h := sumL_le ((rowsL ss xs xs.length).map List.length) 16 (by
    intro x hx2
    simp only [List.mem_map, rowsL, List.mem_range] at hx2
    obtain ⟨_, ⟨j, hj, rfl⟩, rfl⟩ := hx2
    have hn := dbN_all (P := fun y => 0 ≤ y ∧ y ≤ 4) ⟨by omega, by omega⟩ ss xs hsm j (by omega)
    unfold dbL
    rw [swO_len]
    have a1 := hn (ab (xs.getD j 0) - 1).toNat
    have a2 := hn ((ab (xs.getD j 0) - 1).toNat + 1)
    have b1 : ((dbN ss xs j).getD (ab (xs.getD j 0) - 1).toNat 0).toNat ≤ 4 := by omega
    have b2 : ((dbN ss xs j).getD ((ab (xs.getD j 0) - 1).toNat + 1) 0).toNat ≤ 4 := by omega
    exact Nat.mul_le_mul b2 b1)
  rw [List.length_map, rows_len] at h
  omega
theorem badC (x : Int) (W : World) : Calls Try.prog 60 #[.int .i64 x] W fun e w' => e = .returned (.bool (badB x)) ∧ Below W.heap.size W w' := by
  have HF : Hid (badB x = !decide (0 ≤ x ∧ x ≤ 4)) := hid rfl
  have HK := hid (within64 x 0 4 W)
  generalize badB x = q at *
  generalize decide (0 ≤ x ∧ x ≤ 4) = d at *
  go_enter Try.func60, Try.ntmps60
  go_wp2_with (go_at_call 61; refine HK.out.mono ?_; rintro e w' ⟨rfl, rfl⟩)
  go_ret
  exact ⟨by rw [HF.out]; rfl, Below.refl _ _⟩

set_option maxRecDepth 100000 in
set_option maxHeartbeats 4000000 in
theorem implDouble (s : Int) (xs ss : List Int) (v u : Value) (B C : Nat) (w : World) (ha : Ints w B v xs) (hB : B ≤ w.heap.size) (hb : Ints w C u ss) (hC : C ≤ w.heap.size) (nu : NilOk u) (hn : xs.length ≤ 1099511627776) (hm : ss.length ≤ 1099511627776) :
    Calls Try.prog 17 #[.agg #[.int .i64 s, v], u] w fun e w' => ∃ ao cap, e = .returned (.tuple #[.agg #[.int .i64 (dbSt s xs ss), .slice ao (dbWo s xs ss).length cap], .int .i64 (dbCo s xs ss)]) ∧ sl.Own w' w.heap.size w'.heap.size (.slice ao (dbWo s xs ss).length cap) (dbWo s xs ss) ∧ Below w.heap.size w w' := by
  obtain ⟨ao, cap, hv⟩ := ints_val ha
  obtain ⟨bo, dap, hu⟩ := ints_val hb
  subst hv
  subst hu
  have HX := hid ha
  have HY := hid hb
  have HNu := hid nu
  clear ha hb nu
  have HV := hid (implValidB s xs (.slice ao xs.length cap) B ((w.alloc (.cells #[.int .i64 s, .slice ao xs.length cap] 26)).alloc (.cells #[.int .i64 0, .slice none 0 0] 26)) (ints_al (ints_al HX.out _) _) (by simp; omega) hn)
  obtain ⟨q0, hq0⟩ : ∃ q, q = okB s xs := ⟨_, rfl⟩
  obtain ⟨q1, hq1⟩ : ∃ q, q = ss.any badB := ⟨_, rfl⟩
  obtain ⟨zS, hzS⟩ : ∃ z, z = dbSt s xs ss := ⟨_, rfl⟩
  obtain ⟨zC, hzC⟩ : ∃ z, z = dbCo s xs ss := ⟨_, rfl⟩
  obtain ⟨zW, hzW⟩ : ∃ z, z = dbWo s xs ss := ⟨_, rfl⟩
  rw [← hzS, ← hzC, ← hzW]
  unfold dbSt dbP at hzS
  unfold dbCo dbP at hzC
  unfold dbWo dbP at hzW
  rw [← hq0, ← hq1] at hzS hzC hzW
  rw [← hq0] at HV
  have HS := hid hzS
  have HC := hid hzC
  have HW := hid hzW
  have H0 := hid hq0
  have H1 := hid hq1
  obtain ⟨n, hnn⟩ : ∃ n, n = xs.length := ⟨_, rfl⟩
  obtain ⟨m, hmm⟩ : ∃ m, m = ss.length := ⟨_, rfl⟩
  have HN := hid hnn
  have HM := hid hmm
  rw [← hnn] at HX HV hn ⊢
  rw [← hmm] at HY HNu hm ⊢
  clear hzS hzC hzW hq0 hq1 hnn hmm
  go_enter Try.func17, Try.ntmps17
  go_wp2_with fail
  refine HV.out.mono ?_
  rintro e w1 ⟨rfl, b1⟩
  have HB1 := hid (box2 b1)
  have d0 := HB1.out.1 0
  have d1 := HB1.out.1 1
  have r0 := (HB1.out.2.1 0).1
  have r1 := (HB1.out.2.1 1).1
  have f0 := (HB1.out.2.1 0).2
  have f1 := (HB1.out.2.1 1).2
  have hz := HB1.out.2.2.2
  simp at d0 d1 r0 r1
  have HBw := hid HB1.out.2.2.1
  clear b1 HB1 HV
  cases q0 with
  | false =>
    obtain rfl : zS = 0 := by rw [HS.out]; simp
    obtain rfl : zC = 1 := by rw [HC.out]; simp
    obtain rfl : zW = [] := by rw [HW.out]; simp
    go_wp2
    refine bodyPost_ret (v := .tuple #[.agg #[.int .i64 0, .slice none 0 0], .int .i64 1]) (by simp [results, Try.results17, go_sem, r0, r1]) rfl ⟨none, 0, rfl, Own.nil _ _, ?_⟩
    exact (HBw.out.setCell (p := ⟨w.heap.size + 1, 0, none⟩) (Nat.le_succ _) _).setCell (p := ⟨w.heap.size + 1, 1, none⟩) (Nat.le_succ _) _
  | true =>
    obtain ⟨hs0, hs1, hx1, hx2⟩ := ok_parts H0.out.symm
    by_cases hms : (m : Int) = s
    · have hmd : decide ((m : Int) = s) = true := decide_eq_true hms
      have hmb : ((m : Int) == s) = true := by simp [hms]
      have hPd : decide ((ss.length : Int) = s) = true := by rw [← HM.out]; exact hmd
      have HI1 := hid (HY.out.chg (Chg.ofBelow (lo := 0) HBw.out) (.inr (Nat.zero_le _)))
      have HX1 := hid (HX.out.chg (Chg.ofBelow (lo := 0) HBw.out) (.inr (Nat.zero_le _)))
      have HCf := hid (contFunc0 badB 60 ss _ C w1 HI1.out (by omega) (by rw [← HM.out]; exact hm) (enters_of Try.func60 (by kernel_rfl) rfl) badC)
      rw [← H1.out] at HCf
      go_wp2_with fail
      refine HCf.out.mono ?_
      rintro e w2 ⟨rfl, b2⟩
      have HB2 := hid b2
      have hz2 := b2.size
      have e0 := (b2.cell (p := ⟨w.heap.size, 0, none⟩) (by show w.heap.size < _; omega)).trans d0
      have e1 := (b2.cell (p := ⟨w.heap.size, 1, none⟩) (by show w.heap.size < _; omega)).trans d1
      have s0 := (b2.cell (p := ⟨w.heap.size + 1, 0, none⟩) (by show w.heap.size + 1 < _; omega)).trans r0
      have s1 := (b2.cell (p := ⟨w.heap.size + 1, 1, none⟩) (by show w.heap.size + 1 < _; omega)).trans r1
      have g0 := (b2.frozen (p := ⟨w.heap.size + 1, 0, none⟩) (by show w.heap.size + 1 < _; omega)).trans f0
      have g1 := (b2.frozen (p := ⟨w.heap.size + 1, 1, none⟩) (by show w.heap.size + 1 < _; omega)).trans f1
      have HBx := hid (HBw.out.trans (b2.mono (by omega)))
      clear b2 d0 d1 r0 r1 f0 f1 HCf
      cases q1 with
      | true =>
        obtain rfl : zS = 0 := by rw [HS.out, hPd]; simp
        obtain rfl : zC = 2 := by rw [HC.out, hPd]; simp
        obtain rfl : zW = [] := by rw [HW.out, hPd]; simp
        go_wp2
        refine bodyPost_ret (v := .tuple #[.agg #[.int .i64 0, .slice none 0 0], .int .i64 2]) (by simp [results, Try.results17, go_sem, s0, s1]) rfl ⟨none, 0, rfl, Own.nil _ _, ?_⟩
        exact (HBx.out.setCell (p := ⟨w.heap.size + 1, 0, none⟩) (Nat.le_succ _) _).setCell (p := ⟨w.heap.size + 1, 1, none⟩) (Nat.le_succ _) _
      | false =>
        have hsm := sm_of H1.out.symm
        have HSm := hid (fun W (hI : Ints W C (.slice bo m dap) ss) => implSum ss 4 _ C W hI (by rw [← HM.out]; omega) (by omega) (fun j hj => by have := hsm j; omega))
        have HI2 := hid (HI1.out.chg (Chg.ofBelow (lo := 0) HB2.out) (.inr (Nat.zero_le _)))
        have HX2 := hid (HX1.out.chg (Chg.ofBelow (lo := 0) HB2.out) (.inr (Nat.zero_le _)))
        have HBl := hid (fun W (b : Below w2.heap.size w2 W) => blockWordsC xs ss (.slice ao n cap) (.slice bo m dap) B C W (HX2.out.chg (Chg.ofBelow (lo := 0) b) (.inr (Nat.zero_le _))) (HI2.out.chg (Chg.ofBelow (lo := 0) b) (.inr (Nat.zero_le _))) (by have := b.size; omega) (by have := b.size; omega) HNu.out (fun j hj => by rw [← HM.out, hms]; exact hx2 j hj) hx1 (by rw [← HM.out]; omega) hsm)
        have eS : joinS (sumL ss) (rowsL ss xs xs.length) = zS := by rw [HS.out, hPd]; simp
        have eC : joinC (sumL ss) (rowsL ss xs xs.length) = zC := by rw [HC.out, hPd]; simp
        have eW : joinW (sumL ss) (rowsL ss xs xs.length) = zW := by rw [HW.out, hPd]; simp
        have eL : (rowsL ss xs xs.length).length = n := by rw [rows_len]; exact HN.out.symm
        have HJo : Hid (∀ (W : World) (g c lo : Nat) (vals : List Value), SR W lo (.slice (some ⟨g, 0, none⟩) n c) vals (rowsL ss xs xs.length) → g < W.heap.size → ∀ X, Below W.heap.size W X → Calls Try.prog 62 #[.int .i64 (sumL ss), .slice (some ⟨g, 0, none⟩) n c] X fun e w' => ∃ ao cap, e = .returned (.tuple #[.agg #[.int .i64 zS, .slice ao zW.length cap], .int .i64 zC]) ∧ sl.Own w' X.heap.size w'.heap.size (.slice ao zW.length cap) zW ∧ Below X.heap.size X w') := hid (fun W g c lo vals hsr hg X b => by
          have hw : Wds W W.heap.size g (rowsL ss xs xs.length) := sr_wds (c := c) (lo := lo) (vals := vals) (by rw [eL]; exact hsr)
          have h := implJoined (sumL ss) (rowsL ss xs xs.length) g c W.heap.size X (hw.below b hg (Nat.le_refl _)) b.size (Nat.lt_of_lt_of_le hg b.size) (by rw [rows_len]; omega) (rows_tot ss xs hsm hx1 (by rw [← HM.out]; omega))
          rw [eS, eC, eW, eL] at h
          exact h)
        rw [← HN.out] at HBl HJo
        clear eS eC eW eL HS HC HW hsm HX2 HX1 HI1 HX HY
        generalize sumL ss = sm at *
        go_wp2_with fail
        go_region_held3 (fun w' => w'.cell? ⟨w.heap.size, 1, none⟩ = some (.slice ao n cap)) (go_keep) (first
          | (go_at_call 63
             refine (HSm.out _ ?_).mono ?_
             · (first | exact HI3.out | exact HI2.out)
             rintro e w9 ⟨rfl, hw9⟩
             subst hw9)
          | (go_at_call 64
             refine (HBl.out _ ?_).mono ?_
             · (first | exact Below.refl _ _ | exact (Below.refl _ _).drew | exact bdrewN (Below.refl _ _) _)
             rintro e w3 ⟨g, c, rfl, ⟨vals, hsr⟩, hg, b3⟩
             have hz3 : w2.heap.size ≤ w3.heap.size := b3.size
             have kA : w3.cell? ⟨w.heap.size, 1, none⟩ = some (.slice ao n cap) := (b3.cell (p := ⟨w.heap.size, 1, none⟩) (by show w.heap.size < w2.heap.size; omega)).trans e1
             have t0 := (b3.cell (p := ⟨w.heap.size + 1, 0, none⟩) (by show w.heap.size + 1 < w2.heap.size; omega)).trans s0
             have t1 := (b3.cell (p := ⟨w.heap.size + 1, 1, none⟩) (by show w.heap.size + 1 < w2.heap.size; omega)).trans s1
             have y0 := (b3.frozen (p := ⟨w.heap.size + 1, 0, none⟩) (by show w.heap.size + 1 < w2.heap.size; omega)).trans g0
             have y1 := (b3.frozen (p := ⟨w.heap.size + 1, 1, none⟩) (by show w.heap.size + 1 < w2.heap.size; omega)).trans g1
             have HI3 : Hid (Ints w3 C (.slice bo m dap) ss) := hid (HI2.out.chg (lo := 0) (hi := 0) ⟨b3.os, b3.tape, b3.output, b3.size, fun k hk _ => b3.block k hk⟩ (.inr (Nat.zero_le _)))
             have HJ := hid (HJo.out w3 g c _ vals hsr hg)
             have HB3 : Hid (Below w.heap.size w w3) := hid (HBx.out.drew.trans (b3.mono (by show w.heap.size ≤ w2.heap.size; omega)))
             clear hsr b3 HBl)
          | (go_at_call 62
             refine (HJ.out _ ?_).mono ?_
             · (first | exact Below.refl _ _ | exact (Below.refl _ _).drew | exact bdrewN (Below.refl _ _) _)
             rintro e w4 ⟨ao4, cap4, rfl, o4, b4⟩
             have kC := (b4.cell (p := ⟨w.heap.size, 1, none⟩) (by show w.heap.size < w3.heap.size; omega)).trans kA
             have u0 := (b4.cell (p := ⟨w.heap.size + 1, 0, none⟩) (by show w.heap.size + 1 < w3.heap.size; omega)).trans t0
             have u1 := (b4.cell (p := ⟨w.heap.size + 1, 1, none⟩) (by show w.heap.size + 1 < w3.heap.size; omega)).trans t1
             have x0 := (b4.frozen (p := ⟨w.heap.size + 1, 0, none⟩) (by show w.heap.size + 1 < w3.heap.size; omega)).trans y0
             have x1 := (b4.frozen (p := ⟨w.heap.size + 1, 1, none⟩) (by show w.heap.size + 1 < w3.heap.size; omega)).trans y1
             have HO4 := hid (o4.lo (lo' := w.heap.size + 2) (by show w.heap.size + 2 ≤ w3.heap.size; omega))
             have HB4 := hid (HB3.out.trans (b4.mono (by show w.heap.size ≤ w3.heap.size; omega)))
             clear o4 b4 HJ t0 t1 y0 y1 kA))
        all_goals (try go_wp2)
        all_goals
          refine bodyPost_ret (v := .tuple #[.agg #[.int .i64 zS, .slice ao4 zW.length cap4], .int .i64 zC]) (by simp [results, Try.results17, go_sem, u0, u1]) rfl ⟨ao4, cap4, rfl, ?_, ?_⟩
          · have h := own_other (own_other HO4.out (w.heap.size + 1) 0 (.int .i64 zS) (by omega)) (w.heap.size + 1) 1 (.slice ao4 zW.length cap4) (by omega)
            have h2 := h.lo (lo' := w.heap.size) (by omega)
            simpa using h2
          · exact (HB4.out.setCell (p := ⟨w.heap.size + 1, 0, none⟩) (Nat.le_succ _) _).setCell (p := ⟨w.heap.size + 1, 1, none⟩) (Nat.le_succ _) _
    · have hmd : decide ((m : Int) = s) = false := decide_eq_false hms
      have hmb : ((m : Int) == s) = false := by simp [hms]
      have hPd : decide ((ss.length : Int) = s) = false := by rw [← HM.out]; exact hmd
      obtain rfl : zS = 0 := by rw [HS.out, hPd]; simp
      obtain rfl : zC = 1 := by rw [HC.out, hPd]; simp
      obtain rfl : zW = [] := by rw [HW.out, hPd]; simp
      go_wp2
      refine bodyPost_ret (v := .tuple #[.agg #[.int .i64 0, .slice none 0 0], .int .i64 1]) (by simp [results, Try.results17, go_sem, r0, r1]) rfl ⟨none, 0, rfl, Own.nil _ _, ?_⟩
      exact (HBw.out.setCell (p := ⟨w.heap.size + 1, 0, none⟩) (Nat.le_succ _) _).setCell (p := ⟨w.heap.size + 1, 1, none⟩) (Nat.le_succ _) _
end Go.Proofs.Ytlhpipcmebmpdaa.db
