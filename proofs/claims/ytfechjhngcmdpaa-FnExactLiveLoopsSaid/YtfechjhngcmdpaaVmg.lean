/-
  FacingOf of the program.
-/
import Derived.Test.YtfechjhngcmdpaaVmf
import Derived.Deep.RegionWith
namespace Go.Proofs.Ytfechjhngcmdpaa.mc
open Go.RowKit Go.Sort Go.Proofs.Ytfechjhngcmdpaa.sl Go.Proofs.Ytfechjhngcmdpaa.br Go.Proofs.Ytfechjhngcmdpaa.fn Go.Proofs.Ytfechjhngcmdpaa.ss
set_option linter.unusedVariables false
set_option linter.unusedSimpArgs false

def othB (b : Int) : Int := if b = 1 then 2 else 1
theorem otherC (b : Int) (hb : b = 1 ∨ b = 2) (w : World) : Calls Try.prog 49 #[.int .i64 b] w fun e w' => e = .returned (.int .i64 (othB b)) ∧ w = w' := by
  rcases hb with rfl | rfl
  · go_enter Try.func49, Try.ntmps49
    go_wp2
    go_ret
    exact ⟨rfl, rfl⟩
  · go_enter Try.func49, Try.ntmps49
    go_wp2
    go_ret
    exact ⟨rfl, rfl⟩
def facG (a p : Int) (m : Mch) (b t : Int) : Bool := hasN a p m b t && atOk a p (othB b) (plw p b t)
def facB (a p : Int) (m : Mch) (b t : Int) : Int := if hasN a p m b t = true then atB a p (othB b) (plw p b t) else 0
def facA (a p : Int) (m : Mch) (b t : Int) : Int := if hasN a p m b t = true then atA a p (othB b) (plw p b t) else 0

/-- The program's boxes: the machine, the needle, the answer. -/
structure FB (w W : World) (a p b t : Int) (f0 f1 f2 f3 f4 : Value) : Prop where
  bx : Bx w W w.heap.size a p f0 f1 f2 f3 f4
  sz : w.heap.size + 3 ≤ W.heap.size
  d0 : W.cell? ⟨w.heap.size + 1, 0, none⟩ = some (.int .i64 b)
  d1 : W.cell? ⟨w.heap.size + 1, 1, none⟩ = some (.int .i64 t)
  r0 : W.cell? ⟨w.heap.size + 1 + 1, 0, none⟩ = some (.int .i64 0)
  r1 : W.cell? ⟨w.heap.size + 1 + 1, 1, none⟩ = some (.int .i64 0)
  g0 : W.frozen? ⟨w.heap.size + 1 + 1, 0, none⟩ = false
  g1 : W.frozen? ⟨w.heap.size + 1 + 1, 1, none⟩ = false
theorem FB.below {w W W' : World} {a p b t : Int} {f0 f1 f2 f3 f4 : Value} (h : FB w W a p b t f0 f1 f2 f3 f4) (k : Below W.heap.size W W') : FB w W' a p b t f0 f1 f2 f3 f4 := by
  have hs := h.sz
  have c : ∀ (g i : Nat), g < W.heap.size → W'.cell? ⟨g, i, none⟩ = W.cell? ⟨g, i, none⟩ := fun g i hg => k.cell (p := ⟨g, i, none⟩) hg
  have f : ∀ (g i : Nat), g < W.heap.size → W'.frozen? ⟨g, i, none⟩ = W.frozen? ⟨g, i, none⟩ := fun g i hg => k.frozen (p := ⟨g, i, none⟩) hg
  exact ⟨h.bx.below k, Nat.le_trans hs k.size, (c _ _ (by omega)).trans h.d0, (c _ _ (by omega)).trans h.d1, (c _ _ (by omega)).trans h.r0, (c _ _ (by omega)).trans h.r1, (f _ _ (by omega)).trans h.g0, (f _ _ (by omega)).trans h.g1⟩
theorem fb_new (w : World) (a p b t : Int) (f0 f1 f2 f3 f4 : Value) :
    FB w (((w.alloc (.cells #[.int .i64 a, .int .i64 p, f0, f1, f2, f3, f4] 37)).alloc (.cells #[.int .i64 b, .int .i64 t] 31)).alloc (.cells #[.int .i64 0, .int .i64 0] 31)) a p b t f0 f1 f2 f3 f4 := by
  have x0 := bx_new w 37 a p f0 f1 f2 f3 f4
  have e1 : (w.alloc (.cells #[.int .i64 a, .int .i64 p, f0, f1, f2, f3, f4] 37)).heap.size = w.heap.size + 1 := by simp
  generalize w.alloc (.cells #[.int .i64 a, .int .i64 p, f0, f1, f2, f3, f4] 37) = V1 at *
  have b1 := (Below.refl V1.heap.size V1).alloc (Nat.le_refl _) (.cells #[.int .i64 b, .int .i64 t] 31)
  have e2 : (V1.alloc (.cells #[.int .i64 b, .int .i64 t] 31)).heap.size = w.heap.size + 1 + 1 := by simp [e1]
  have d0 : (V1.alloc (.cells #[.int .i64 b, .int .i64 t] 31)).cell? ⟨w.heap.size + 1, 0, none⟩ = some (.int .i64 b) := World.cell?_alloc_at _ _ _ _ e1.symm
  have d1 : (V1.alloc (.cells #[.int .i64 b, .int .i64 t] 31)).cell? ⟨w.heap.size + 1, 1, none⟩ = some (.int .i64 t) := World.cell?_alloc_at _ _ _ _ e1.symm
  have x1 := x0.below b1
  generalize V1.alloc (.cells #[.int .i64 b, .int .i64 t] 31) = V2 at *
  have b2 := (Below.refl V2.heap.size V2).alloc (Nat.le_refl _) (.cells #[.int .i64 0, .int .i64 0] 31)
  exact ⟨x1.below b2, by simp [e2], (b2.cell (p := ⟨w.heap.size + 1, 0, none⟩) (by show w.heap.size + 1 < V2.heap.size; omega)).trans d0, (b2.cell (p := ⟨w.heap.size + 1, 1, none⟩) (by show w.heap.size + 1 < V2.heap.size; omega)).trans d1,
    World.cell?_alloc_at _ _ _ _ e2.symm, World.cell?_alloc_at _ _ _ _ e2.symm, World.frozen?_alloc_at _ _ _ _ e2.symm, World.frozen?_alloc_at _ _ _ _ e2.symm⟩

set_option maxRecDepth 100000 in
set_option maxHeartbeats 4000000 in
theorem implFac (a p : Int) (m : Mch) (b t : Int) (f0 f1 f2 f3 f4 : Value) (B : Nat) (w : World) (ha : MInC w B f0 f1 f2 f3 f4 m) (hB : B ≤ w.heap.size) (hq : Small m) :
    Calls Try.prog 15 #[.agg #[.int .i64 a, .int .i64 p, f0, f1, f2, f3, f4], .agg #[.int .i64 b, .int .i64 t]] w fun e w' => e = .returned (.tuple #[.agg #[.int .i64 (facB a p m b t), .int .i64 (facA a p m b t)], .bool (facG a p m b t)]) ∧ Below w.heap.size w w' := by
  have HV := hid (fun W (h : Below w.heap.size w W) => implHas a p m b t f0 f1 f2 f3 f4 B W (ha.below h) (Nat.le_trans hB h.size) hq)
  obtain ⟨⟨a0, k0, rfl⟩, ⟨a1, k1, rfl⟩, ⟨a2, k2, rfl⟩, ⟨a3, k3, rfl⟩, ⟨a4, k4, rfl⟩⟩ := ha.vals
  have HPa := hid (fun h => @hasN_parts a p b t m h)
  obtain ⟨q0, hq0⟩ : ∃ q, q = facB a p m b t := ⟨_, rfl⟩
  obtain ⟨q1, hq1⟩ : ∃ q, q = facA a p m b t := ⟨_, rfl⟩
  obtain ⟨q2, hq2⟩ : ∃ q, q = facG a p m b t := ⟨_, rfl⟩
  rw [← hq0, ← hq1, ← hq2]
  unfold facB at hq0
  unfold facA at hq1
  unfold facG at hq2
  obtain ⟨u, hu⟩ : ∃ u, u = hasN a p m b t := ⟨_, rfl⟩
  rw [← hu] at hq0 hq1 hq2 HPa HV
  have HF1 := hid hq0
  have HF2 := hid hq1
  have HF3 := hid hq2
  clear ha hq hq0 hq1 hq2 hu
  generalize m.fr.length = n0 at *
  generalize m.bk.length = n1 at *
  generalize m.cs.length = n2 at *
  generalize m.ls.length = n3 at *
  generalize m.dr.length = n4 at *
  have HX := hid (fb_new w a p b t (.slice a0 n0 k0) (.slice a1 n1 k1) (.slice a2 n2 k2) (.slice a3 n3 k3) (.slice a4 n4 k4))
  go_enter Try.func15, Try.ntmps15
  go_wp2_with fail
  generalize ((w.alloc (.cells #[.int .i64 a, .int .i64 p, .slice a0 n0 k0, .slice a1 n1 k1, .slice a2 n2 k2, .slice a3 n3 k3, .slice a4 n4 k4] 37)).alloc (.cells #[.int .i64 b, .int .i64 t] 31)).alloc (.cells #[.int .i64 0, .int .i64 0] 31) = W1 at *
  refine (HV.out W1 HX.out.bx.b0).mono ?_
  rintro e W2 ⟨rfl, b2⟩
  have HX2 := hid (HX.out.below b2)
  clear b2 HX HV
  have r0 := HX2.out.r0
  have r1 := HX2.out.r1
  have g0 := HX2.out.g0
  have g1 := HX2.out.g1
  cases u with
  | false =>
    obtain rfl : q0 = 0 := HF1.out
    obtain rfl : q1 = 0 := HF2.out
    obtain rfl : q2 = false := HF3.out
    go_wp2
    refine bodyPost_ret (v := .tuple #[.agg #[.int .i64 0, .int .i64 0], .bool false]) (by simp [results, Try.results15, go_sem, r0, r1]) rfl ⟨rfl, ?_⟩
    exact (HX2.out.bx.b0.setCell (by simp; omega) _).setCell (by simp; omega) _
  | true =>
    clear r0 r1 g0 g1
    obtain ⟨hok, hb1, hb2, ht0, ht1, hta⟩ := HPa.out rfl
    have hw := hok.w
    have hr := hok.r
    have hbb : b = 1 ∨ b = 2 := by omega
    have hob : othB b = 1 ∨ othB b = 2 := by unfold othB; split <;> simp
    have hpl : -100 ≤ plw p b t ∧ plw p b t ≤ 100 := by unfold plw; split <;> omega
    have HOth := hid (fun W => otherC b hbb W)
    have HPl := hid (fun pb W h1 => placeOfC pb p b t W h1 hr ⟨ht0, ht1⟩)
    have HNA := hid (fun pb W h0 h1 => needleAtC pb a p (othB b) (plw p b t) W h0 h1 hw hr hob hpl)
    have E0 : q0 = atB a p (othB b) (plw p b t) := HF1.out
    have E1 : q1 = atA a p (othB b) (plw p b t) := HF2.out
    have E2 : q2 = atOk a p (othB b) (plw p b t) := HF3.out
    rw [← E0, ← E1, ← E2] at HNA
    clear hok hb1 hb2 ht0 ht1 hta hw hr hbb hob hpl E0 E1 E2 HF1 HF2 HF3 HPa
    generalize othB b = ob at *
    generalize plw p b t = pl at *
    have y0 := HX2.out.bx.c0
    have y1 := HX2.out.bx.c1
    have y2 := HX2.out.bx.c2
    have y3 := HX2.out.bx.c3
    have y4 := HX2.out.bx.c4
    have y5 := HX2.out.bx.c5
    have y6 := HX2.out.bx.c6
    have b4 := (Below.refl W2.heap.size W2).alloc (Nat.le_refl _) (.cells #[.int .i64 a, .int .i64 p, .slice a0 n0 k0, .slice a1 n1 k1, .slice a2 n2 k2, .slice a3 n3 k3, .slice a4 n4 k4] 68)
    have HX4 := hid (HX2.out.below b4)
    have s0 : (W2.alloc (.cells #[.int .i64 a, .int .i64 p, .slice a0 n0 k0, .slice a1 n1 k1, .slice a2 n2 k2, .slice a3 n3 k3, .slice a4 n4 k4] 68)).cell? ⟨W2.heap.size, 0, none⟩ = some (.int .i64 a) := World.cell?_alloc_at _ _ _ _ rfl
    have s1 : (W2.alloc (.cells #[.int .i64 a, .int .i64 p, .slice a0 n0 k0, .slice a1 n1 k1, .slice a2 n2 k2, .slice a3 n3 k3, .slice a4 n4 k4] 68)).cell? ⟨W2.heap.size, 1, none⟩ = some (.int .i64 p) := World.cell?_alloc_at _ _ _ _ rfl
    have hl4 : W2.heap.size < (W2.alloc (.cells #[.int .i64 a, .int .i64 p, .slice a0 n0 k0, .slice a1 n1 k1, .slice a2 n2 k2, .slice a3 n3 k3, .slice a4 n4 k4] 68)).heap.size := by simp
    clear b4
    go_wp2
    clear y0 y1 y2 y3 y4 y5 y6
    generalize W2.alloc (.cells #[.int .i64 a, .int .i64 p, .slice a0 n0 k0, .slice a1 n1 k1, .slice a2 n2 k2, .slice a3 n3 k3, .slice a4 n4 k4] 68) = W4 at *
    have d0 := HX4.out.d0
    have d1 := HX4.out.d1
    have hsW := HX4.out.sz
    go_region_with (first
      | (go_at_call 49; refine (HOth.out _).mono ?_; rintro e w' ⟨rfl, rfl⟩)
      | (go_at_call 50; go_loud (
         refine (HPl.out _ _ (by exact s1)).mono ?_
         rintro e w5 ⟨rfl, b5⟩
         have b5' : Below W4.heap.size W4 w5 := ⟨b5.os, b5.tape, b5.output, b5.size, b5.block⟩
         have HX5 := hid (HX4.out.below b5')
         have s0 := (b5'.cell (p := ⟨W2.heap.size, 0, none⟩) hl4).trans s0
         have s1 := (b5'.cell (p := ⟨W2.heap.size, 1, none⟩) hl4).trans s1
         have d0 := HX5.out.d0
         have d1 := HX5.out.d1
         clear b5 b5'))
      | (go_at_call 48; go_loud (
         refine (HNA.out _ _ (by exact s0) (by exact s1)).mono ?_
         rintro e w6 ⟨rfl, b6⟩
         have b6' : Below w5.heap.size w5 w6 := ⟨b6.os, b6.tape, b6.output, b6.size, b6.block⟩
         have HX6 := hid (HX5.out.below b6')
         have r0 := HX6.out.r0
         have r1 := HX6.out.r1
         have g0 := HX6.out.g0
         have g1 := HX6.out.g1
         clear b6 b6')))
    all_goals go_wp2
    all_goals refine bodyPost_ret (v := .tuple #[.agg #[.int .i64 q0, .int .i64 q1], .bool q2]) (by simp [results, Try.results15, go_sem, r0, r1]) rfl ⟨rfl, ?_⟩
    all_goals exact (HX6.out.bx.b0.setCell (by first | (simp; done) | (simp; omega) | omega) _).setCell (by first | (simp; done) | (simp; omega) | omega) _
end Go.Proofs.Ytfechjhngcmdpaa.mc
