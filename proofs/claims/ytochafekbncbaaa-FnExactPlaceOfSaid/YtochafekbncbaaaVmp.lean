/-
  The place of a needle; PlaceOf of the program.
-/
import Derived.Test.YtochafekbncbaaaVm5
import Derived.Lib.QuietBelow
namespace Go.Proofs.Ytochafekbncbaaa.mc
open Go.RowKit Go.Sort Go.Proofs.Ytochafekbncbaaa.sl Go.Proofs.Ytochafekbncbaaa.br Go.Proofs.Ytochafekbncbaaa.fn Go.Proofs.Ytochafekbncbaaa.ss
set_option linter.unusedVariables false
set_option linter.unusedSimpArgs false

def plw (p b t : Int) : Int := if b = 2 then t + p else t
def plM (a p : Int) (m : Mch) (b t : Int) : Int := if (okM a p m && nd.validB b t) = true then plw p b t else 0
theorem valid_parts {b t : Int} (h : nd.validB b t = true) : 1 ≤ b ∧ b ≤ 2 ∧ 0 ≤ t ∧ t ≤ 23 := by
  simp [nd.validB] at h; omega

theorem plWith (p b t : Int) (w : World) (hp : -3 ≤ p ∧ p ≤ 3) (ht : 0 ≤ t ∧ t ≤ 23) : Calls Try.prog 149 #[.int .i64 p, .agg #[.int .i64 b, .int .i64 t]] w fun e w' => e = .returned (.int .i64 (plw p b t)) ∧ Below w.heap.size w w' := by
  obtain ⟨hp0, hp1⟩ := hp
  obtain ⟨ht0, ht1⟩ := ht
  have hw : IntKind.i64.wrap (t + p) = t + p := IntWalk.i64_in _ (by omega)
  have hal := (Below.refl w.heap.size w).alloc (Nat.le_refl _) (.cells #[.int .i64 b, .int .i64 t] 57)
  by_cases h : b = 2
  · subst h
    go_enter Try.func149, Try.ntmps149
    go_wp2
    go_ret
    exact ⟨by simp [plw], hal⟩
  · have hb : (b == 2) = false := by simpa using h
    have HF : Hid (plw p b t = t) := hid (by simp [plw, h])
    clear h
    go_enter Try.func149, Try.ntmps149
    go_wp2
    go_ret
    exact ⟨by rw [HF.out]; rfl, hal⟩

set_option maxRecDepth 100000 in
theorem placeOfC (pb : Nat) (p b t : Int) (w : World) (h1 : w.cell? ⟨pb, 1, none⟩ = some (.int .i64 p)) (hp : -3 ≤ p ∧ p ≤ 3) (ht : 0 ≤ t ∧ t ≤ 23) :
    Calls Try.prog 104 #[.pointer (some ⟨pb, 0, none⟩), .agg #[.int .i64 b, .int .i64 t]] w fun e w' => e = .returned (.int .i64 (plw p b t)) ∧ Below w.heap.size w w' := by
  have mixed : Try.prog.follows .mixedOrders = true := by kernel_rfl
  have hal := (Below.refl w.heap.size w).alloc (Nat.le_refl _) (.cells #[.int .i64 b, .int .i64 t] 57)
  have HB := hid hal
  have y1 := (hal.cell (p := ⟨pb, 1, none⟩) (World.block_lt_of_cell? w _ h1)).trans h1
  have d0 : (w.alloc (.cells #[.int .i64 b, .int .i64 t] 57)).cell? ⟨w.heap.size, 0, none⟩ = some (.int .i64 b) := World.cell?_alloc_at _ _ _ _ rfl
  have d1 : (w.alloc (.cells #[.int .i64 b, .int .i64 t] 57)).cell? ⟨w.heap.size, 1, none⟩ = some (.int .i64 t) := World.cell?_alloc_at _ _ _ _ rfl
  have HP := hid (fun W => plWith p b t W hp ht)
  clear hal h1 hp ht
  go_enter Try.func104, Try.ntmps104
  go_wp2_with fail
  generalize w.alloc (.cells #[.int .i64 b, .int .i64 t] 57) = W1 at *
  have c1 := fun d os => cell_regrown y1 d os
  have e0 := fun d os => cell_regrown d0 d os
  have e1 := fun d os => cell_regrown d1 d os
  clear y1 d0 d1
  refine wp_region_quiet_below mixed (by kernel_rfl) ?_
  repeat (go_big_quiet_step ((go_at_call 149; exact Calls.regrown_of (HP.out _))))
  refine wpQuiet_nil ?_
  intro _ hw'
  obtain ⟨⟨nq, osq⟩, hw''⟩ := hw'
  subst hw''
  clear c1 e0 e1
  have HB2 := hid (HB.out.trans ((below_regrown W1 nq osq).mono HB.out.size))
  generalize grow (redrawn W1 nq) osq = W2 at *
  go_wp2
  go_ret
  exact ⟨rfl, HB2.out⟩

set_option maxRecDepth 100000 in
set_option maxHeartbeats 2000000 in
theorem implPl (a p : Int) (m : Mch) (b t : Int) (f0 f1 f2 f3 f4 : Value) (B : Nat) (w : World) (ha : MInC w B f0 f1 f2 f3 f4 m) (hB : B ≤ w.heap.size) (hq : Small m) :
    Calls Try.prog 40 #[.agg #[.int .i64 a, .int .i64 p, f0, f1, f2, f3, f4], .agg #[.int .i64 b, .int .i64 t]] w fun e w' => e = .returned (.int .i64 (plM a p m b t)) ∧ Below w.heap.size w w' := by
  have HV := hid (fun W (h : Below w.heap.size w W) => implVM a p m f0 f1 f2 f3 f4 B W (ha.below h) (Nat.le_trans hB h.size) hq)
  obtain ⟨⟨a0, k0, rfl⟩, ⟨a1, k1, rfl⟩, ⟨a2, k2, rfl⟩, ⟨a3, k3, rfl⟩, ⟨a4, k4, rfl⟩⟩ := ha.vals
  have HOk := hid (fun h => (okM_parts (W := a) (R := p) (m := m) h).r)
  have HNd := hid (fun h => valid_parts (b := b) (t := t) h)
  have HVn := hid (fun W => nd.implValid b t W)
  obtain ⟨q, hqq⟩ : ∃ q, q = plM a p m b t := ⟨_, rfl⟩
  rw [← hqq]
  unfold plM at hqq
  have HQ := hid hqq
  clear ha hq hqq
  generalize okM a p m = u at *
  generalize nd.validB b t = v at *
  generalize m.fr.length = n0 at *
  generalize m.bk.length = n1 at *
  generalize m.cs.length = n2 at *
  generalize m.ls.length = n3 at *
  generalize m.dr.length = n4 at *
  have b0 := (Below.refl w.heap.size w).alloc (Nat.le_refl _) (.cells #[.int .i64 a, .int .i64 p, .slice a0 n0 k0, .slice a1 n1 k1, .slice a2 n2 k2, .slice a3 n3 k3, .slice a4 n4 k4] 46)
  have HX0 := bx_new w 46 a p (.slice a0 n0 k0) (.slice a1 n1 k1) (.slice a2 n2 k2) (.slice a3 n3 k3) (.slice a4 n4 k4)
  have b1 := (Below.refl (w.alloc (.cells #[.int .i64 a, .int .i64 p, .slice a0 n0 k0, .slice a1 n1 k1, .slice a2 n2 k2, .slice a3 n3 k3, .slice a4 n4 k4] 46)).heap.size _).alloc (Nat.le_refl _) (.cells #[.int .i64 b, .int .i64 t] 57)
  have HX := hid (HX0.below b1)
  have hsz : (w.alloc (.cells #[.int .i64 a, .int .i64 p, .slice a0 n0 k0, .slice a1 n1 k1, .slice a2 n2 k2, .slice a3 n3 k3, .slice a4 n4 k4] 46)).heap.size = w.heap.size + 1 := by simp
  have HD0 : Hid (((w.alloc (.cells #[.int .i64 a, .int .i64 p, .slice a0 n0 k0, .slice a1 n1 k1, .slice a2 n2 k2, .slice a3 n3 k3, .slice a4 n4 k4] 46)).alloc (.cells #[.int .i64 b, .int .i64 t] 57)).cell? ⟨w.heap.size + 1, 0, none⟩ = some (.int .i64 b)) := hid (World.cell?_alloc_at _ _ _ _ hsz.symm)
  have HD1 : Hid (((w.alloc (.cells #[.int .i64 a, .int .i64 p, .slice a0 n0 k0, .slice a1 n1 k1, .slice a2 n2 k2, .slice a3 n3 k3, .slice a4 n4 k4] 46)).alloc (.cells #[.int .i64 b, .int .i64 t] 57)).cell? ⟨w.heap.size + 1, 1, none⟩ = some (.int .i64 t)) := hid (World.cell?_alloc_at _ _ _ _ hsz.symm)
  have hlt : w.heap.size + 1 < ((w.alloc (.cells #[.int .i64 a, .int .i64 p, .slice a0 n0 k0, .slice a1 n1 k1, .slice a2 n2 k2, .slice a3 n3 k3, .slice a4 n4 k4] 46)).alloc (.cells #[.int .i64 b, .int .i64 t] 57)).heap.size := by simp
  clear b0 b1 HX0 hsz
  go_enter Try.func40, Try.ntmps40
  go_wp2_with fail
  generalize ((w.alloc (.cells #[.int .i64 a, .int .i64 p, .slice a0 n0 k0, .slice a1 n1 k1, .slice a2 n2 k2, .slice a3 n3 k3, .slice a4 n4 k4] 46)).alloc (.cells #[.int .i64 b, .int .i64 t] 57)) = W1 at *
  refine (HV.out W1 HX.out.b0).mono ?_
  rintro e W2 ⟨rfl, b2⟩
  have HX2 := hid (HX.out.below b2)
  have HE0 := hid ((b2.cell (p := ⟨w.heap.size + 1, 0, none⟩) hlt).trans HD0.out)
  have HE1 := hid ((b2.cell (p := ⟨w.heap.size + 1, 1, none⟩) hlt).trans HD1.out)
  have hlt2 : w.heap.size + 1 < W2.heap.size := Nat.lt_of_lt_of_le hlt b2.size
  clear b2 HX HD0 HD1 hlt HV
  cases u with
  | false =>
    have HF : Hid (q = 0) := hid (by rw [HQ.out]; rfl)
    go_wp2
    go_ret
    exact ⟨by rw [HF.out]; rfl, HX2.out.b0⟩
  | true =>
    have hr := HOk.out rfl
    have d0 := HE0.out
    have d1 := HE1.out
    go_wp2_with fail
    clear d0 d1
    refine (HVn.out W2).mono ?_
    rintro e W3 ⟨rfl, b3⟩
    have HX3 := hid (HX2.out.below b3)
    have d0 := (b3.cell (p := ⟨w.heap.size + 1, 0, none⟩) hlt2).trans HE0.out
    have d1 := (b3.cell (p := ⟨w.heap.size + 1, 1, none⟩) hlt2).trans HE1.out
    have hlt3 : w.heap.size + 1 < W3.heap.size := Nat.lt_of_lt_of_le hlt2 b3.size
    clear b3 HX2 HE0 HE1
    cases v with
    | false =>
      have HF : Hid (q = 0) := hid (by rw [HQ.out]; rfl)
      go_wp2
      go_ret
      exact ⟨by rw [HF.out]; rfl, HX3.out.b0⟩
    | true =>
      have hn := HNd.out rfl
      have HF : Hid (q = plw p b t) := hid (by rw [HQ.out]; rfl)
      have y0 := HX3.out.c0
      have y1 := HX3.out.c1
      have y2 := HX3.out.c2
      have y3 := HX3.out.c3
      have y4 := HX3.out.c4
      have y5 := HX3.out.c5
      have y6 := HX3.out.c6
      have b4 := (Below.refl W3.heap.size W3).alloc (Nat.le_refl _) (.cells #[.int .i64 a, .int .i64 p, .slice a0 n0 k0, .slice a1 n1 k1, .slice a2 n2 k2, .slice a3 n3 k3, .slice a4 n4 k4] 124)
      have HB4 := hid (HX3.out.b0.trans (b4.mono HX3.out.b0.size))
      have e0 := (b4.cell (p := ⟨w.heap.size + 1, 0, none⟩) hlt3).trans d0
      have e1 := (b4.cell (p := ⟨w.heap.size + 1, 1, none⟩) hlt3).trans d1
      have HPl := hid (placeOfC W3.heap.size p b t (W3.alloc (.cells #[.int .i64 a, .int .i64 p, .slice a0 n0 k0, .slice a1 n1 k1, .slice a2 n2 k2, .slice a3 n3 k3, .slice a4 n4 k4] 124)) (World.cell?_alloc_at _ _ _ _ rfl) hr ⟨hn.2.2.1, hn.2.2.2⟩)
      clear b4 hr hn
      go_wp2_with fail
      refine HPl.out.mono ?_
      rintro e W5 ⟨rfl, b5⟩
      have HB5 := hid (HB4.out.trans (b5.mono HB4.out.size))
      clear b5 e0 e1 d0 d1 y0 y1 y2 y3 y4 y5 y6
      go_wp2
      go_ret
      exact ⟨by rw [HF.out]; rfl, HB5.out⟩
end Go.Proofs.Ytochafekbncbaaa.mc
