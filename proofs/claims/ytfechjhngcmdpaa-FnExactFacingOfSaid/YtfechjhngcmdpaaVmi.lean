/-
  FacingOf of the model.
-/
import Derived.Test.YtfechjhngcmdpaaVmg
import Derived.Test.YtfechjhngcmdpaaVma
namespace Go.Proofs.Ytfechjhngcmdpaa.mc
open Go.RowKit Go.Sort Go.Proofs.Ytfechjhngcmdpaa.sl Go.Proofs.Ytfechjhngcmdpaa.br Go.Proofs.Ytfechjhngcmdpaa.fn Go.Proofs.Ytfechjhngcmdpaa.ss
set_option linter.unusedVariables false
set_option linter.unusedSimpArgs false

set_option maxRecDepth 100000 in
set_option maxHeartbeats 4000000 in
theorem specFac (a p : Int) (m : Mch) (b t : Int) (f0 f1 f2 f3 f4 : Value) (B : Nat) (w : World) (ha : MInC w B f0 f1 f2 f3 f4 m) (hB : B ≤ w.heap.size) (hq : Small m) :
    Calls Try.prog 12 #[.agg #[.int .i64 a, .int .i64 p, f0, f1, f2, f3, f4], .agg #[.int .i64 b, .int .i64 t]] w fun e w' => e = .returned (.tuple #[.agg #[.int .i64 (facB a p m b t), .int .i64 (facA a p m b t)], .bool (facG a p m b t)]) ∧ Below w.heap.size w w' := by
  have HV := hid (fun W (h : Below w.heap.size w W) (hx : Bx w W w.heap.size a p f0 f1 f2 f3 f4) => specOkC a p m f0 f1 f2 f3 f4 B w.heap.size w W (ha.below h) hq hx)
  obtain ⟨⟨a0, k0, rfl⟩, ⟨a1, k1, rfl⟩, ⟨a2, k2, rfl⟩, ⟨a3, k3, rfl⟩, ⟨a4, k4, rfl⟩⟩ := ha.vals
  have HPa := hid (fun h => @hasN_parts a p b t m h)
  have HVn := hid (fun W => nd.specNeedle b t W)
  obtain ⟨q0, hq0⟩ : ∃ q, q = facB a p m b t := ⟨_, rfl⟩
  obtain ⟨q1, hq1⟩ : ∃ q, q = facA a p m b t := ⟨_, rfl⟩
  obtain ⟨q2, hq2⟩ : ∃ q, q = facG a p m b t := ⟨_, rfl⟩
  rw [← hq0, ← hq1, ← hq2]
  unfold facB at hq0
  unfold facA at hq1
  unfold facG at hq2
  obtain ⟨h, hh⟩ : ∃ u, u = hasN a p m b t := ⟨_, rfl⟩
  rw [← hh] at hq0 hq1 hq2 HPa
  have HF1 := hid hq0
  have HF2 := hid hq1
  have HF3 := hid hq2
  unfold hasN at hh
  obtain ⟨u, hu⟩ : ∃ u, u = okM a p m := ⟨_, rfl⟩
  obtain ⟨v, hv⟩ : ∃ u, u = nd.validB b t := ⟨_, rfl⟩
  obtain ⟨z, hz⟩ : ∃ u, u = decide (t < a) := ⟨_, rfl⟩
  rw [← hu, ← hv, ← hz] at hh
  rw [← hu] at HV
  rw [← hv] at HVn
  have hz2 : decide (a ≤ t) = !z := by rw [hz]; by_cases h : t < a <;> simp [h] <;> omega
  have HH := hid hh
  clear ha hq hq0 hq1 hq2 hu hv hz hh
  generalize m.fr.length = n0 at *
  generalize m.bk.length = n1 at *
  generalize m.cs.length = n2 at *
  generalize m.ls.length = n3 at *
  generalize m.dr.length = n4 at *
  have HX := hid (fb_new w a p b t (.slice a0 n0 k0) (.slice a1 n1 k1) (.slice a2 n2 k2) (.slice a3 n3 k3) (.slice a4 n4 k4))
  go_enter Try.func12, Try.ntmps12
  go_wp2_with fail
  generalize ((w.alloc (.cells #[.int .i64 a, .int .i64 p, .slice a0 n0 k0, .slice a1 n1 k1, .slice a2 n2 k2, .slice a3 n3 k3, .slice a4 n4 k4] 37)).alloc (.cells #[.int .i64 b, .int .i64 t] 31)).alloc (.cells #[.int .i64 0, .int .i64 0] 31) = W1 at *
  refine (HV.out W1 HX.out.bx.b0 HX.out.bx).mono ?_
  rintro e W2 ⟨rfl, b2⟩
  have HX2 := hid (HX.out.below b2)
  clear b2 HX HV
  cases u with
  | false =>
    obtain rfl : h = false := by rw [HH.out]; rfl
    have r0 := HX2.out.r0
    have r1 := HX2.out.r1
    have g0 := HX2.out.g0
    have g1 := HX2.out.g1
    obtain rfl : q0 = 0 := HF1.out
    obtain rfl : q1 = 0 := HF2.out
    obtain rfl : q2 = false := HF3.out
    go_wp2
    refine bodyPost_ret (v := .tuple #[.agg #[.int .i64 0, .int .i64 0], .bool false]) (by simp [results, Try.results12, go_sem, r0, r1]) rfl ⟨rfl, ?_⟩
    exact (HX2.out.bx.b0.setCell (by first | (simp; done) | (simp; omega) | omega) _).setCell (by first | (simp; done) | (simp; omega) | omega) _
  | true =>
    have d0 := HX2.out.d0
    have d1 := HX2.out.d1
    go_wp2_with fail
    clear d0 d1
    refine (HVn.out W2).mono ?_
    rintro e W3 ⟨rfl, b3⟩
    have HX3 := hid (HX2.out.below b3)
    clear b3 HX2 HVn
    have r0 := HX3.out.r0
    have r1 := HX3.out.r1
    have g0 := HX3.out.g0
    have g1 := HX3.out.g1
    have d0 := HX3.out.d0
    have d1 := HX3.out.d1
    have y0 := HX3.out.bx.c0
    have y1 := HX3.out.bx.c1
    cases v with
    | false =>
      obtain rfl : h = false := by rw [HH.out]; rfl
      obtain rfl : q0 = 0 := HF1.out
      obtain rfl : q1 = 0 := HF2.out
      obtain rfl : q2 = false := HF3.out
      go_wp2
      refine bodyPost_ret (v := .tuple #[.agg #[.int .i64 0, .int .i64 0], .bool false]) (by simp [results, Try.results12, go_sem, r0, r1]) rfl ⟨rfl, ?_⟩
      exact (HX3.out.bx.b0.setCell (by first | (simp; done) | (simp; omega) | omega) _).setCell (by first | (simp; done) | (simp; omega) | omega) _
    | true =>
      cases z with
      | false =>
        obtain rfl : h = false := by rw [HH.out]; rfl
        obtain rfl : q0 = 0 := HF1.out
        obtain rfl : q1 = 0 := HF2.out
        obtain rfl : q2 = false := HF3.out
        go_wp2
        refine bodyPost_ret (v := .tuple #[.agg #[.int .i64 0, .int .i64 0], .bool false]) (by simp [results, Try.results12, go_sem, r0, r1]) rfl ⟨rfl, ?_⟩
        exact (HX3.out.bx.b0.setCell (by first | (simp; done) | (simp; omega) | omega) _).setCell (by first | (simp; done) | (simp; omega) | omega) _
      | true =>
        obtain rfl : h = true := by rw [HH.out]; rfl
        obtain ⟨hok, hb1, hb2, ht0, ht1, hta⟩ := HPa.out rfl
        have hw := hok.w
        have hr := hok.r
        obtain ⟨hw0, hw1⟩ := hw
        obtain ⟨hr0, hr1⟩ := hr
        have hwa : IntKind.i64.wrap (a - 1) = a - 1 := IntWalk.i64_in _ (by omega)
        have hwp : IntKind.i64.wrap (t + p) = t + p := IntWalk.i64_in _ (by omega)
        have hwm : IntKind.i64.wrap (t - p) = t - p := IntWalk.i64_in _ (by omega)
        have E0 : q0 = atB a p (othB b) (plw p b t) := HF1.out
        have E1 : q1 = atA a p (othB b) (plw p b t) := HF2.out
        have E2 : q2 = atOk a p (othB b) (plw p b t) := HF3.out
        clear HF1 HF2 HF3 HPa HH hok
        have hbb : b = 1 ∨ b = 2 := by omega
        rcases hbb with rfl | rfl
        · have E2' : q2 = inB 0 (a - 1) (t - p) := by rw [E2]; simp [atOk, atT, othB, plw]
          have HQ1 : Hid (q2 = true → q0 = 2 ∧ q1 = (t - p)) := hid (fun h => by rw [E2] at h; exact ⟨by rw [E0]; unfold atB; rw [if_pos h]; rfl, by rw [E1]; unfold atA; rw [if_pos h]; simp [atT, othB, plw]⟩)
          have HQ0 : Hid (q2 = false → q0 = 0 ∧ q1 = 0) := hid (fun h => by rw [E2] at h; exact ⟨by rw [E0]; simp [atB, h], by rw [E1]; simp [atA, h]⟩)
          have HI := hid (fun W => show Calls Try.prog 42 #[.int .i64 (t - p), .int .i64 0, .int .i64 (a - 1)] W fun e w' => e = .returned (.bool q2) ∧ W = w' from (nd.specIn _ _ _ W).mono fun _ _ h => ⟨by rw [h.1, E2']; rfl, h.2⟩)
          clear E0 E1 E2 E2'
          have bE := (Below.refl W3.heap.size W3).alloc (Nat.le_refl _) (.cells #[.int .i64 1, .int .i64 (t + p)] 31)
          have HXE := HX3.out.below bE
          have r0' := HXE.r0
          have r1' := HXE.r1
          have g0' := HXE.g0
          have g1' := HXE.g1
          have d0' := HXE.d0
          have d1' := HXE.d1
          have y0' := HXE.bx.c0
          have y1' := HXE.bx.c1
          have hsW := HX3.out.sz
          have bF := (Below.refl W3.heap.size W3).alloc (Nat.le_refl _) (.cells #[.int .i64 2, .int .i64 (t - p)] 31)
          have HXF := HX3.out.below bF
          have r0f := HXF.r0
          have r1f := HXF.r1
          have g0f := HXF.g0
          have g1f := HXF.g1
          have d0f := HXF.d0
          have d1f := HXF.d1
          have y0f := HXF.bx.c0
          have y1f := HXF.bx.c1
          have HB3 := hid HXF.bx.b0
          clear bE HXE bF HXF
          cases q2 with
          | false =>
            obtain ⟨rfl, rfl⟩ := HQ0.out rfl
            go_wp2_with (go_at_call 42; refine (HI.out _).mono ?_; rintro e w' ⟨rfl, rfl⟩)
            refine bodyPost_ret (v := .tuple #[.agg #[.int .i64 0, .int .i64 0], .bool false]) (by simp [results, Try.results12, go_sem, r0f, r1f]) rfl ⟨rfl, ?_⟩
            repeat (first | exact HB3.out | refine Below.setCell ?_ (by first | (simp; done) | (simp; omega) | omega) _ | refine Below.alloc ?_ (by first | (simp; done) | (simp; omega) | omega) _ | exact HX3.out.bx.b0)
          | true =>
            obtain ⟨rfl, rfl⟩ := HQ1.out rfl
            go_wp2_with (go_at_call 42; refine (HI.out _).mono ?_; rintro e w' ⟨rfl, rfl⟩)
            refine bodyPost_ret (v := .tuple #[.agg #[.int .i64 2, .int .i64 (t - p)], .bool true]) (by simp [results, Try.results12, go_sem, r0f, r1f]) rfl ⟨rfl, ?_⟩
            repeat (first | exact HB3.out | refine Below.setCell ?_ (by first | (simp; done) | (simp; omega) | omega) _ | refine Below.alloc ?_ (by first | (simp; done) | (simp; omega) | omega) _ | exact HX3.out.bx.b0)
        · have E2' : q2 = inB 0 (a - 1) (t + p) := by rw [E2]; simp [atOk, atT, othB, plw]
          have HQ1 : Hid (q2 = true → q0 = 1 ∧ q1 = (t + p)) := hid (fun h => by rw [E2] at h; exact ⟨by rw [E0]; unfold atB; rw [if_pos h]; rfl, by rw [E1]; unfold atA; rw [if_pos h]; simp [atT, othB, plw]⟩)
          have HQ0 : Hid (q2 = false → q0 = 0 ∧ q1 = 0) := hid (fun h => by rw [E2] at h; exact ⟨by rw [E0]; simp [atB, h], by rw [E1]; simp [atA, h]⟩)
          have HI := hid (fun W => show Calls Try.prog 42 #[.int .i64 (t + p), .int .i64 0, .int .i64 (a - 1)] W fun e w' => e = .returned (.bool q2) ∧ W = w' from (nd.specIn _ _ _ W).mono fun _ _ h => ⟨by rw [h.1, E2']; rfl, h.2⟩)
          clear E0 E1 E2 E2'
          have bE := (Below.refl W3.heap.size W3).alloc (Nat.le_refl _) (.cells #[.int .i64 1, .int .i64 (t + p)] 31)
          have HXE := HX3.out.below bE
          have r0' := HXE.r0
          have r1' := HXE.r1
          have g0' := HXE.g0
          have g1' := HXE.g1
          have d0' := HXE.d0
          have d1' := HXE.d1
          have y0' := HXE.bx.c0
          have y1' := HXE.bx.c1
          have hsW := HX3.out.sz
          have HB3 := hid HXE.bx.b0
          clear bE HXE
          cases q2 with
          | false =>
            obtain ⟨rfl, rfl⟩ := HQ0.out rfl
            go_wp2_with (go_at_call 42; refine (HI.out _).mono ?_; rintro e w' ⟨rfl, rfl⟩)
            refine bodyPost_ret (v := .tuple #[.agg #[.int .i64 0, .int .i64 0], .bool false]) (by simp [results, Try.results12, go_sem, r0', r1']) rfl ⟨rfl, ?_⟩
            repeat (first | exact HB3.out | refine Below.setCell ?_ (by first | (simp; done) | (simp; omega) | omega) _ | refine Below.alloc ?_ (by first | (simp; done) | (simp; omega) | omega) _ | exact HX3.out.bx.b0)
          | true =>
            obtain ⟨rfl, rfl⟩ := HQ1.out rfl
            go_wp2_with (go_at_call 42; refine (HI.out _).mono ?_; rintro e w' ⟨rfl, rfl⟩)
            refine bodyPost_ret (v := .tuple #[.agg #[.int .i64 1, .int .i64 (t + p)], .bool true]) (by simp [results, Try.results12, go_sem, r0', r1']) rfl ⟨rfl, ?_⟩
            repeat (first | exact HB3.out | refine Below.setCell ?_ (by first | (simp; done) | (simp; omega) | omega) _ | refine Below.alloc ?_ (by first | (simp; done) | (simp; omega) | omega) _ | exact HX3.out.bx.b0)
end Go.Proofs.Ytfechjhngcmdpaa.mc
