/-
  fabricWith of the program, l11Ask of the model.
-/
import Derived.Test.YtlhpipcmebmpdabYm
namespace Go.Proofs.Ytlhpipcmebmpdab.mc
open Go.RowKit Go.Sort Go.Maps Go.Proofs.Ytlhpipcmebmpdab.sl Go.Proofs.Ytlhpipcmebmpdab.br Go.Proofs.Ytlhpipcmebmpdab.fn Go.Proofs.Ytlhpipcmebmpdab.ss Go.Proofs.Ytlhpipcmebmpdab.fb
set_option linter.unusedVariables false
set_option linter.unusedSimpArgs false

def askC (a p : Int) (m : Mch) (x : Int) : Int := if okM a p m = true then (if inB 0 ((m.ls.length : Int) - 1) x = true then 0 else 2) else 1
theorem ask_ok {a p : Int} {m : Mch} {x : Int} (h : askC a p m x = 0) : okM a p m = true ∧ 0 ≤ x ∧ x < (m.ls.length : Int) := by
  unfold askC at h
  split at h
  · rename_i h1
    split at h
    · rename_i h2
      simp only [inB, decide_eq_true_eq] at h2
      exact ⟨h1, h2.1, by omega⟩
    · cases h
  · cases h

/-- What fabricWith answers; d: the code. -/
def FabPost (w : World) (m : Mch) (a p : Int) (f3 : Value) (d : Int) (e : Ending) (w' : World) : Prop :=
  (d ≠ 0 ∧ e = .returned (.tuple #[.pointer none, .int .i64 d]) ∧ Below w.heap.size w w') ∨
    (d = 0 ∧ ∃ fp cb bL bD base n : Nat, ∃ D : DataW Unit, e = .returned (.tuple #[.pointer (some ⟨fp, 0, none⟩), .int .i64 0]) ∧ FabC w m a p f3 fp cb bL bD base n D w')
set_option maxRecDepth 100000 in
set_option maxHeartbeats 4000000 in
theorem fabW (a p : Int) (m : Mch) (x : Int) (f0 f1 f2 f3 f4 : Value) (B : Nat) (w : World) (ha : MInC w B f0 f1 f2 f3 f4 m) (hB : B ≤ w.heap.size) (hq : Small m) :
    Calls Try.prog 38 #[.agg #[.int .i64 a, .int .i64 p, f0, f1, f2, f3, f4], .int .i64 x] w fun e w' => FabPost w m a p f3 (askC a p m x) e w' := by
  have HBad := hid (fun (h : okM a p m = false) W (hb : Below w.heap.size w W) => fabricBad a p m f0 f1 f2 f3 f4 B W (ha.below hb) (Nat.le_trans hB hb.size) hq h)
  have HGood := hid (fun (h : okM a p m = true) W (hb : Below w.heap.size w W) => fabricC a p m f0 f1 f2 f3 f4 B W (ha.below hb) (Nat.le_trans hB hb.size) hq h)
  have HLs := hid (fun h : okM a p m = true => ls_len (okM_parts h))
  have HI := hid (fun W => nd.within64 x 0 ((m.ls.length : Int) - 1) W)
  obtain ⟨u, hu⟩ : ∃ u, u = okM a p m := ⟨_, rfl⟩
  obtain ⟨q, hqq⟩ : ∃ q, q = inB 0 ((m.ls.length : Int) - 1) x := ⟨_, rfl⟩
  obtain ⟨d, hd⟩ : ∃ d, d = askC a p m x := ⟨_, rfl⟩
  rw [← hd]
  unfold askC at hd
  rw [← hu, ← hqq] at hd
  rw [← hu] at HBad HGood HLs
  have HI2 : Hid (∀ W, Calls Try.prog 66 #[.int .i64 x, .int .i64 0, .int .i64 ((m.ls.length : Int) - 1)] W fun e w' => e = .returned (.bool q) ∧ w' = W) := hid fun W => (HI.out W).mono fun _ _ h => ⟨by rw [h.1, hqq]; rfl, h.2.symm⟩
  have HD1 := hid hd
  obtain ⟨⟨a0, k0, rfl⟩, ⟨a1, k1, rfl⟩, ⟨a2, k2, rfl⟩, ⟨a3, k3, rfl⟩, ⟨a4, k4, rfl⟩⟩ := ha.vals
  clear ha hq hd hu hqq HI
  generalize m.fr.length = n0 at *
  generalize m.bk.length = n1 at *
  generalize m.cs.length = n2 at *
  obtain ⟨n3, hn3⟩ : ∃ n, n = m.ls.length := ⟨_, rfl⟩
  rw [← hn3] at HBad HGood HLs HI2 ⊢
  generalize m.dr.length = n4 at *
  have HX := hid (bx_new w 34 a p (.slice a0 n0 k0) (.slice a1 n1 k1) (.slice a2 n2 k2) (.slice a3 n3 k3) (.slice a4 n4 k4))
  clear hn3
  go_enter Try.func38, Try.ntmps38
  go_wp2_with fail
  generalize (w.alloc (.cells #[.int .i64 a, .int .i64 p, .slice a0 n0 k0, .slice a1 n1 k1, .slice a2 n2 k2, .slice a3 n3 k3, .slice a4 n4 k4] 34)) = W1 at *
  cases u with
  | false =>
    obtain rfl : d = 1 := HD1.out
    refine (HBad.out rfl W1 HX.out.b0).mono ?_
    rintro e W2 ⟨rfl, b2⟩
    have HB := hid (HX.out.b0.trans (b2.mono HX.out.b0.size))
    clear b2
    go_wp2
    go_ret2
    exact .inl ⟨by omega, rfl, HB.out⟩
  | true =>
    refine (HGood.out rfl W1 HX.out.b0).mono ?_
    rintro e W2 ⟨fp, cb, bL, bD, base, n, D, rfl, hF⟩
    have HF := hid hF
    have HB := hid (HX.out.b0.trans (hF.bl.mono HX.out.b0.size))
    have y0 := hF.c0
    have hls := HLs.out rfl
    have hw3 : IntKind.i64.wrap ((n3 : Int) - 1) = (n3 : Int) - 1 := IntWalk.i64_in _ (by omega)
    have hFab : FabC w m a p (.slice a3 n3 k3) fp cb bL bD base n D W2 := ⟨hF.c0, hF.c1, hF.c2, hF.c3, hF.sl, hF.sd, hF.gr, hF.rd, hF.nn, Nat.le_trans HX.out.b0.size hF.wb, HB.out⟩
    have HFab := hid hFab
    clear hF HGood HBad hFab
    cases q with
    | false =>
      obtain rfl : d = 2 := HD1.out
      go_wp2_with (go_at_call 66; refine (HI2.out _).mono ?_; rintro e w9 ⟨rfl, rfl⟩)
      go_ret2
      exact .inl ⟨by omega, rfl, HB.out⟩
    | true =>
      obtain rfl : d = 0 := HD1.out
      go_wp2_with (go_at_call 66; refine (HI2.out _).mono ?_; rintro e w9 ⟨rfl, rfl⟩)
      go_ret2
      exact .inr ⟨rfl, fp, cb, bL, bD, base, n, D, rfl, HFab.out⟩

set_option maxRecDepth 100000 in
set_option maxHeartbeats 4000000 in
theorem askS (a p : Int) (m : Mch) (x : Int) (f0 f1 f2 f3 f4 : Value) (B pb : Nat) (w0 w : World) (ha : MInC w B f0 f1 f2 f3 f4 m) (hq : Small m) (HX0 : Bx w0 w pb a p f0 f1 f2 f3 f4) :
    Calls Try.prog 32 #[.pointer (some ⟨pb, 0, none⟩), .int .i64 x] w fun e w' => e = .returned (.int .i64 (askC a p m x)) ∧ Below w.heap.size w w' := by
  have HV := hid (specOkC a p m f0 f1 f2 f3 f4 B pb w0 w ha hq HX0)
  have HX := hid HX0
  have HLs := hid (fun h : okM a p m = true => ls_len (okM_parts h))
  obtain ⟨u, hu⟩ : ∃ u, u = okM a p m := ⟨_, rfl⟩
  obtain ⟨q, hqq⟩ : ∃ q, q = inB 0 ((m.ls.length : Int) - 1) x := ⟨_, rfl⟩
  obtain ⟨d, hd⟩ : ∃ d, d = askC a p m x := ⟨_, rfl⟩
  rw [← hd]
  unfold askC at hd
  rw [← hu, ← hqq] at hd
  rw [← hu] at HV HLs
  have HI2 := hid (fun W => vr.inQ x 0 ((m.ls.length : Int) - 1) q hqq.symm W)
  have HD1 := hid hd
  obtain ⟨⟨a0, k0, rfl⟩, ⟨a1, k1, rfl⟩, ⟨a2, k2, rfl⟩, ⟨a3, k3, rfl⟩, ⟨a4, k4, rfl⟩⟩ := ha.vals
  obtain ⟨n3, hn3⟩ : ∃ n, n = m.ls.length := ⟨_, rfl⟩
  rw [← hn3] at HLs HI2 HX
  clear ha hq hd hu hqq hn3 HX0
  go_enter Try.func32, Try.ntmps32
  go_wp2_with fail
  refine HV.out.mono ?_
  rintro e W2 ⟨rfl, b2⟩
  have HB := hid b2
  have y5 := (HX.out.below b2).c5
  clear b2 HV
  cases u with
  | false =>
    obtain rfl : d = 1 := HD1.out
    go_wp2
    go_ret
    exact ⟨rfl, HB.out⟩
  | true =>
    have hls := HLs.out rfl
    have hw3 : IntKind.i64.wrap ((n3 : Int) - 1) = (n3 : Int) - 1 := IntWalk.i64_in _ (by omega)
    cases q with
    | false =>
      obtain rfl : d = 2 := HD1.out
      go_wp2_with (go_at_call 62; refine (HI2.out _).mono ?_; rintro e w9 ⟨rfl, rfl⟩)
      go_ret
      exact ⟨rfl, HB.out⟩
    | true =>
      obtain rfl : d = 0 := HD1.out
      go_wp2_with (go_at_call 62; refine (HI2.out _).mono ?_; rintro e w9 ⟨rfl, rfl⟩)
      go_ret
      exact ⟨rfl, HB.out⟩
end Go.Proofs.Ytlhpipcmebmpdab.mc
