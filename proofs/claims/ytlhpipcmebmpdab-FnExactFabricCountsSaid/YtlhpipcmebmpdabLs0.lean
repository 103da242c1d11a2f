/-
  The state of a loop: program and model; LoopState of both sides.
-/
import Derived.Test.YtlhpipcmebmpdabCh0
namespace Go.Proofs.Ytlhpipcmebmpdab.mc
open Go.RowKit Go.Sort Go.Maps Go.Proofs.Ytlhpipcmebmpdab.sl Go.Proofs.Ytlhpipcmebmpdab.br Go.Proofs.Ytlhpipcmebmpdab.fn Go.Proofs.Ytlhpipcmebmpdab.ss Go.Proofs.Ytlhpipcmebmpdab.fb
set_option linter.unusedVariables false
set_option linter.unusedSimpArgs false

def stB (u1 u2 u3 : Bool) : Int := if u1 = true then 2 else if u2 = true then 3 else if u3 = true then 1 else 4
def stS (a p : Int) (m : Mch) (x : Int) : Int := stB ((liveL a p m).contains x) (m.dr.contains x) (decide (0 < ((chF m.ls m.ls.length x).length : Int)))

set_option maxRecDepth 100000 in
set_option maxHeartbeats 4000000 in
theorem stateC (w0 : World) (m : Mch) (a p x : Int) (f3 : Value) (fp cb bL bD base n : Nat) (D : DataW Unit) (w : World) (hF : FabC w0 m a p f3 fp cb bL bD base n D w) (hx : 0 ≤ x ∧ x ≤ 1000) (hn : m.ls.length ≤ 300) :
    Calls Try.prog 53 #[.pointer (some ⟨fp, 0, none⟩), .int .i64 x] w fun e w' => e = .returned (.int .i64 (stS a p m x)) ∧ Below w.heap.size w w' := by
  have HF := hid hF
  have y2 := hF.c2
  have HH1 := hid (fun W (s : SetM W bL (liveL a p m)) => hasC bL x (liveL a p m) W s (by omega))
  have HH2 := hid (fun W (s : SetM W bD m.dr) => hasC bD x m.dr W s (by omega))
  have hkey : keyOf Try.prog 2 (.int .i64 x) = some (.int .i64 x) := keyOf_int_mk Try.underlying2 (WalkArith.wf_i64 (by omega))
  have hnn : n ≤ 1200 := by have := hF.nn; omega
  obtain ⟨s, hs⟩ : ∃ s, s = stS a p m x := ⟨_, rfl⟩
  rw [← hs]
  unfold stS at hs
  obtain ⟨u3, hu3⟩ : ∃ u, u = decide (0 < ((chF m.ls m.ls.length x).length : Int)) := ⟨_, rfl⟩
  rw [← hu3] at hs
  generalize (liveL a p m).contains x = u1 at *
  generalize m.dr.contains x = u2 at *
  have HS := hid hs
  have HU3 := hid hu3
  clear hF hs hu3 hx hn
  go_enter Try.func53, Try.ntmps53
  go_wp2_with fail
  refine (HH1.out w HF.out.sl).mono ?_
  rintro e w1 ⟨rfl, b1⟩
  have HF1 := hid (HF.out.below b1)
  have HB1 := hid b1
  have y3 := HF1.out.c3
  clear y2 b1 HF HH1
  cases u1 with
  | true =>
    obtain rfl : s = 2 := HS.out
    go_wp2
    go_ret
    exact ⟨rfl, HB1.out⟩
  | false =>
    go_wp2_with fail
    refine (HH2.out w1 HF1.out.sd).mono ?_
    rintro e w2 ⟨rfl, b2⟩
    have HF2 := hid (HF1.out.below b2)
    have HB2 := hid (HB1.out.trans (b2.mono HB1.out.size))
    have y1 := HF2.out.c1
    clear y3 b2 HF1 HH2 HB1
    cases u2 with
    | true =>
      obtain rfl : s = 3 := HS.out
      go_wp2
      go_ret
      exact ⟨rfl, HB2.out⟩
    | false =>
      obtain ⟨v, zs, hrun, hat, hoi, hzl, hback⟩ := World.ownsGroups.at HF2.out.gr lawK Try.underlying74 (zeroSl _) (by unfold maxLen; omega) hkey
      have hz : zs = chF m.ls m.ls.length x := rd_at HF2.out.rd hat hoi
      obtain ⟨ao9, cap9, rfl⟩ := br.own_val (sl.Own.mk' hoi.1)
      rw [hz] at hrun
      obtain ⟨l9, hl9⟩ : ∃ l, l = (chF m.ls m.ls.length x).length := ⟨_, rfl⟩
      rw [← hl9] at hrun
      have HU4 : Hid (u3 = decide (0 < (l9 : Int))) := hid (by rw [HU3.out, hl9])
      clear hat hoi hzl hback hz hl9 HU3
      by_cases hl : 0 < l9
      · obtain rfl : u3 = true := by rw [HU4.out]; exact decide_eq_true (by omega)
        obtain rfl : s = 1 := HS.out
        have hlI : (0 : Int) < (l9 : Int) := by omega
        go_wp2
        go_ret
        exact ⟨rfl, HB2.out⟩
      · obtain rfl : l9 = 0 := by omega
        obtain rfl : u3 = false := by rw [HU4.out]; rfl
        obtain rfl : s = 4 := HS.out
        go_wp2
        go_ret
        exact ⟨rfl, HB2.out⟩

set_option maxRecDepth 100000 in
set_option maxHeartbeats 4000000 in
theorem specSt (a p x : Int) (m : Mch) (f0 f1 f2 f3 f4 : Value) (B pb : Nat) (w0 w : World) (ha : MInC w B f0 f1 f2 f3 f4 m) (hB : B ≤ w.heap.size) (hq : Small m) (hok : OkM a p m) (HX0 : Bx w0 w pb a p f0 f1 f2 f3 f4) :
    Calls Try.prog 52 #[.pointer (some ⟨pb, 0, none⟩), .int .i64 x] w fun e w' => e = .returned (.int .i64 (stS a p m x)) ∧ Below w.heap.size w w' := by
  have HL := hid (specLive pb a p m f0 f1 f2 f3 f4 B w ha hB hq hok HX0.c0 HX0.c1 HX0.c2 HX0.c3)
  have HX := hid HX0
  have HH1 := hid (fun (W : World) (v : Value) (o : sl.Own W w.heap.size W.heap.size v (liveL a p m)) => vr.hasQ (liveL a p m) x ((liveL a p m).contains x) rfl v _ W o.ints (by have := liveL_len hok; omega))
  have HH2 := hid (fun (W : World) (h : Below w.heap.size w W) => vr.hasQ m.dr x (m.dr.contains x) rfl f4 B W (ha.below h).rd.h4 (by have := hq.s4; omega))
  have HC := hid (fun (W : World) (h : Below w.heap.size w W) (c5 : W.cell? ⟨pb, 5, none⟩ = some f3) => specChi pb x m.ls f3 B W c5 (ha.below h).rd.h3 (Nat.le_trans hB h.size) (ls_len hok) hq.s3.short)
  have hcl := chF_len m.ls x m.ls.length
  have hll := ls_len hok
  obtain ⟨s, hs⟩ : ∃ s, s = stS a p m x := ⟨_, rfl⟩
  rw [← hs]
  unfold stS at hs
  obtain ⟨u3, hu3⟩ : ∃ u, u = decide (0 < ((chF m.ls m.ls.length x).length : Int)) := ⟨_, rfl⟩
  rw [← hu3] at hs
  generalize (liveL a p m).contains x = u1 at *
  generalize m.dr.contains x = u2 at *
  have HS := hid hs
  have HU3 := hid hu3
  obtain ⟨⟨a0, k0, rfl⟩, ⟨a1, k1, rfl⟩, ⟨a2, k2, rfl⟩, ⟨a3, k3, rfl⟩, ⟨a4, k4, rfl⟩⟩ := ha.vals
  clear hs hu3 ha hok hq HX0
  go_enter Try.func52, Try.ntmps52
  go_wp2_with fail
  refine HL.out.mono ?_
  rintro e w1 ⟨v1, rfl, o1, b1⟩
  have HO1 := hid o1
  have HB1 := hid b1
  clear o1 b1 HL
  go_wp2_with fail
  refine (HH1.out w1 v1 HO1.out).mono ?_
  rintro e w9 ⟨rfl, hw9⟩
  subst w9
  have y6 := (HX.out.below HB1.out).c6
  clear HH1 HO1
  cases u1 with
  | true =>
    obtain rfl : s = 2 := HS.out
    go_wp2
    go_ret
    exact ⟨rfl, HB1.out⟩
  | false =>
    go_wp2_with fail
    refine (HH2.out w1 HB1.out).mono ?_
    rintro e w9 ⟨rfl, hw9⟩
    subst w9
    clear y6 HH2
    cases u2 with
    | true =>
      obtain rfl : s = 3 := HS.out
      go_wp2
      go_ret
      exact ⟨rfl, HB1.out⟩
    | false =>
      go_wp2_with fail
      refine (HC.out w1 HB1.out (HX.out.below HB1.out).c5).mono ?_
      rintro e w2 ⟨v2, rfl, o2, b2⟩
      obtain ⟨ao9, cap9, rfl⟩ := br.own_val o2
      have HB2 := hid (HB1.out.trans (b2.mono HB1.out.size))
      clear o2 b2 HC
      obtain ⟨l9, hl9⟩ : ∃ l, l = (chF m.ls m.ls.length x).length := ⟨_, rfl⟩
      have HU4 : Hid (u3 = decide (0 < (l9 : Int))) := hid (by rw [HU3.out, hl9])
      rw [← hl9] at hcl ⊢
      clear hl9 HU3
      by_cases hl : 0 < l9
      · obtain rfl : u3 = true := by rw [HU4.out]; exact decide_eq_true (by omega)
        obtain rfl : s = 1 := HS.out
        have hlI : (0 : Int) < (l9 : Int) := by omega
        go_wp2
        go_ret
        exact ⟨rfl, HB2.out⟩
      · obtain rfl : l9 = 0 := by omega
        obtain rfl : u3 = false := by rw [HU4.out]; rfl
        obtain rfl : s = 4 := HS.out
        go_wp2
        go_ret
        exact ⟨rfl, HB2.out⟩

def lsS (a p : Int) (m : Mch) (x : Int) : Int := if askC a p m x = 0 then stS a p m x else 0


end Go.Proofs.Ytlhpipcmebmpdab.mc
