/-
  LiveLoops of program and model.
-/
import Derived.Test.YtfechjhngcmdpaaLy
namespace Go.Proofs.Ytfechjhngcmdpaa.mc
open Go.RowKit Go.Sort Go.Proofs.Ytfechjhngcmdpaa.sl Go.Proofs.Ytfechjhngcmdpaa.br Go.Proofs.Ytfechjhngcmdpaa.fn Go.Proofs.Ytfechjhngcmdpaa.ss
set_option linter.unusedVariables false
set_option linter.unusedSimpArgs false

def lvL (a p : Int) (m : Mch) : List Int := if okM a p m = true then liveL a p m else []
def lvC (a p : Int) (m : Mch) : Int := if okM a p m = true then 0 else 1
theorem lvL_len (a p : Int) (m : Mch) : (lvL a p m).length ≤ 20000 := by
  unfold lvL
  split
  · rename_i h
    have := liveL_len (okM_parts h)
    omega
  · simp

set_option maxRecDepth 100000 in
set_option maxHeartbeats 2000000 in
theorem implLv (a p : Int) (m : Mch) (f0 f1 f2 f3 f4 : Value) (B : Nat) (w : World) (ha : MInC w B f0 f1 f2 f3 f4 m) (hB : B ≤ w.heap.size) (hq : Small m) :
    Calls Try.prog 25 #[.agg #[.int .i64 a, .int .i64 p, f0, f1, f2, f3, f4]] w fun e w' => ∃ v', e = .returned (.tuple #[v', .int .i64 (lvC a p m)]) ∧ sl.Own w' w.heap.size w'.heap.size v' (lvL a p m) ∧ Below w.heap.size w w' := by
  have HV := hid (fun W (h : Below w.heap.size w W) => implVM a p m f0 f1 f2 f3 f4 B W (ha.below h) (Nat.le_trans hB h.size) hq)
  have HLv := hid (fun (h : okM a p m = true) (pb : Nat) (W : World) (hb : Below w.heap.size w W) c0 c1 c2 c3 => liveC pb a p m f0 f1 f2 f3 f4 B W (ha.below hb) (Nat.le_trans hB hb.size) hq (okM_parts h) c0 c1 c2 c3)
  obtain ⟨u, hu⟩ : ∃ u, u = okM a p m := ⟨_, rfl⟩
  obtain ⟨xs, hxs⟩ : ∃ xs, xs = lvL a p m := ⟨_, rfl⟩
  obtain ⟨q, hqq⟩ : ∃ q, q = lvC a p m := ⟨_, rfl⟩
  rw [← hxs, ← hqq]
  unfold lvL at hxs
  unfold lvC at hqq
  rw [← hu] at hxs hqq HV HLv
  have HX1 := hid hxs
  have HQ1 := hid hqq
  obtain ⟨⟨a0, k0, rfl⟩, ⟨a1, k1, rfl⟩, ⟨a2, k2, rfl⟩, ⟨a3, k3, rfl⟩, ⟨a4, k4, rfl⟩⟩ := ha.vals
  clear ha hq hxs hqq hu
  generalize m.fr.length = n0 at *
  generalize m.bk.length = n1 at *
  generalize m.cs.length = n2 at *
  generalize m.ls.length = n3 at *
  generalize m.dr.length = n4 at *
  have HX := hid (bx_new w 37 a p (.slice a0 n0 k0) (.slice a1 n1 k1) (.slice a2 n2 k2) (.slice a3 n3 k3) (.slice a4 n4 k4))
  go_enter Try.func25, Try.ntmps25
  go_wp2_with fail
  generalize (w.alloc (.cells #[.int .i64 a, .int .i64 p, .slice a0 n0 k0, .slice a1 n1 k1, .slice a2 n2 k2, .slice a3 n3 k3, .slice a4 n4 k4] 37)) = W1 at *
  refine (HV.out W1 HX.out.b0).mono ?_
  rintro e W2 ⟨rfl, b2⟩
  have HX2 := hid (HX.out.below b2)
  clear b2 HX HV
  cases u with
  | false =>
    obtain rfl : xs = [] := HX1.out
    obtain rfl : q = 1 := HQ1.out
    go_wp2
    go_ret2
    exact ⟨_, rfl, (Own.nil W2 w.heap.size), HX2.out.b0⟩
  | true =>
    obtain rfl : xs = liveL a p m := HX1.out
    obtain rfl : q = 0 := HQ1.out
    have HL2 := hid (HLv.out rfl)
    have y0 := HX2.out.c0
    have y1 := HX2.out.c1
    have y2 := HX2.out.c2
    have y3 := HX2.out.c3
    have y4 := HX2.out.c4
    have y5 := HX2.out.c5
    have y6 := HX2.out.c6
    have b4 := (Below.refl W2.heap.size W2).alloc (Nat.le_refl _) (.cells #[.int .i64 a, .int .i64 p, .slice a0 n0 k0, .slice a1 n1 k1, .slice a2 n2 k2, .slice a3 n3 k3, .slice a4 n4 k4] 68)
    have HX4 := hid (HX2.out.below b4)
    have HS := hid (bx_new W2 68 a p (.slice a0 n0 k0) (.slice a1 n1 k1) (.slice a2 n2 k2) (.slice a3 n3 k3) (.slice a4 n4 k4))
    clear b4 HLv
    go_wp2_with fail
    generalize W2.alloc (.cells #[.int .i64 a, .int .i64 p, .slice a0 n0 k0, .slice a1 n1 k1, .slice a2 n2 k2, .slice a3 n3 k3, .slice a4 n4 k4] 68) = W4 at *
    clear y0 y1 y2 y3 y4 y5 y6
    refine (HL2.out _ W4 HX4.out.b0 HS.out.c0 HS.out.c1 HS.out.c2 HS.out.c3).mono ?_
    rintro e W5 ⟨V, rfl, o5, b5⟩
    have HO := hid (o5.lo HX4.out.b0.size)
    have HB5 := hid (HX4.out.b0.trans (b5.mono HX4.out.b0.size))
    clear o5 b5
    go_wp2
    go_ret2
    exact ⟨_, rfl, HO.out, HB5.out⟩

set_option maxRecDepth 100000 in
set_option maxHeartbeats 2000000 in
theorem specLv (a p : Int) (m : Mch) (f0 f1 f2 f3 f4 : Value) (B : Nat) (w : World) (ha : MInC w B f0 f1 f2 f3 f4 m) (hB : B ≤ w.heap.size) (hq : Small m) :
    Calls Try.prog 24 #[.agg #[.int .i64 a, .int .i64 p, f0, f1, f2, f3, f4]] w fun e w' => ∃ v', e = .returned (.tuple #[v', .int .i64 (lvC a p m)]) ∧ sl.Own w' w.heap.size w'.heap.size v' (lvL a p m) ∧ Below w.heap.size w w' := by
  have HV := hid (fun W (h : Below w.heap.size w W) (hx : Bx w W w.heap.size a p f0 f1 f2 f3 f4) => specOkC a p m f0 f1 f2 f3 f4 B w.heap.size w W (ha.below h) hq hx)
  have HLv := hid (fun (h : okM a p m = true) (pb : Nat) (W : World) (hb : Below w.heap.size w W) c0 c1 c2 c3 => specLive pb a p m f0 f1 f2 f3 f4 B W (ha.below hb) (Nat.le_trans hB hb.size) hq (okM_parts h) c0 c1 c2 c3)
  obtain ⟨u, hu⟩ : ∃ u, u = okM a p m := ⟨_, rfl⟩
  obtain ⟨xs, hxs⟩ : ∃ xs, xs = lvL a p m := ⟨_, rfl⟩
  obtain ⟨q, hqq⟩ : ∃ q, q = lvC a p m := ⟨_, rfl⟩
  rw [← hxs, ← hqq]
  unfold lvL at hxs
  unfold lvC at hqq
  rw [← hu] at hxs hqq HV HLv
  have HX1 := hid hxs
  have HQ1 := hid hqq
  obtain ⟨⟨a0, k0, rfl⟩, ⟨a1, k1, rfl⟩, ⟨a2, k2, rfl⟩, ⟨a3, k3, rfl⟩, ⟨a4, k4, rfl⟩⟩ := ha.vals
  clear ha hq hxs hqq hu
  generalize m.fr.length = n0 at *
  generalize m.bk.length = n1 at *
  generalize m.cs.length = n2 at *
  generalize m.ls.length = n3 at *
  generalize m.dr.length = n4 at *
  have HX := hid (bx_new w 37 a p (.slice a0 n0 k0) (.slice a1 n1 k1) (.slice a2 n2 k2) (.slice a3 n3 k3) (.slice a4 n4 k4))
  go_enter Try.func24, Try.ntmps24
  go_wp2_with fail
  generalize (w.alloc (.cells #[.int .i64 a, .int .i64 p, .slice a0 n0 k0, .slice a1 n1 k1, .slice a2 n2 k2, .slice a3 n3 k3, .slice a4 n4 k4] 37)) = W1 at *
  refine (HV.out W1 HX.out.b0 HX.out).mono ?_
  rintro e W2 ⟨rfl, b2⟩
  have HX2 := hid (HX.out.below b2)
  clear b2 HX HV
  cases u with
  | false =>
    obtain rfl : xs = [] := HX1.out
    obtain rfl : q = 1 := HQ1.out
    go_wp2
    go_ret2
    exact ⟨_, rfl, (Own.nil W2 w.heap.size), HX2.out.b0⟩
  | true =>
    obtain rfl : xs = liveL a p m := HX1.out
    obtain rfl : q = 0 := HQ1.out
    have HL2 := hid (HLv.out rfl)
    clear HLv
    go_wp2_with fail
    refine (HL2.out _ W2 HX2.out.b0 HX2.out.c0 HX2.out.c1 HX2.out.c2 HX2.out.c3).mono ?_
    rintro e W5 ⟨V, rfl, o5, b5⟩
    have HO := hid (o5.lo HX2.out.b0.size)
    have HB5 := hid (HX2.out.b0.trans (b5.mono HX2.out.b0.size))
    clear o5 b5
    go_wp2
    go_ret2
    exact ⟨_, rfl, HO.out, HB5.out⟩
end Go.Proofs.Ytfechjhngcmdpaa.mc
