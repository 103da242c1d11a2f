/-
  RowBraid of the program and of the model.
-/
import Derived.Test.YtnmnikpgjglonabDoorRlm
import Derived.Test.YtnmnikpgjglonabDoorDbm
import Derived.Test.YtnmnikpgjglonabDoorHsm
namespace Go.Proofs.YtnmnikpgjglonabDoor.rw
open Go.RowKit Go.Sort Go.Proofs.YtnmnikpgjglonabDoor.sl Go.Proofs.YtnmnikpgjglonabDoor.br Go.Proofs.YtnmnikpgjglonabDoor.st Go.Proofs.YtnmnikpgjglonabDoor.rl
set_option linter.unusedVariables false
set_option linter.unusedSimpArgs false
set_option maxRecDepth 100000

def okA (d c : Int) (xs ss : List Int) : Bool := vr5.rowB d c xs && hk.szOk ss
def okB (d c : Int) (xs ss : List Int) : Bool := decide (laC d c xs = 0) && decide (tkS xs = (ss.length : Int))
def rbS (d c : Int) (xs ss : List Int) : Int := if okA d c xs ss = true then (if okB d c xs ss = true then db.dbSt (ss.length : Int) (rlT xs xs.length) ss else 0) else 0
def rbW (d c : Int) (xs ss : List Int) : List Int := if okA d c xs ss = true then (if okB d c xs ss = true then db.dbWo (ss.length : Int) (rlT xs xs.length) ss else []) else []
def rbC (d c : Int) (xs ss : List Int) : Int := if okA d c xs ss = true then (if okB d c xs ss = true then db.dbCo (ss.length : Int) (rlT xs xs.length) ss else 10) else 1
theorem rb_a {d c : Int} {xs ss : List Int} (h : okA d c xs ss = false) : rbS d c xs ss = 0 ∧ rbW d c xs ss = [] ∧ rbC d c xs ss = 1 := by simp [rbS, rbW, rbC, h]
theorem rb_b {d c : Int} {xs ss : List Int} (h : okA d c xs ss = true) (h2 : okB d c xs ss = false) : rbS d c xs ss = 0 ∧ rbW d c xs ss = [] ∧ rbC d c xs ss = 10 := by simp [rbS, rbW, rbC, h, h2]
theorem rb_c {d c : Int} {xs ss : List Int} (h : okA d c xs ss = true) (h2 : okB d c xs ss = true) : rbS d c xs ss = db.dbSt (ss.length : Int) (rlT xs xs.length) ss ∧ rbW d c xs ss = db.dbWo (ss.length : Int) (rlT xs xs.length) ss ∧ rbC d c xs ss = db.dbCo (ss.length : Int) (rlT xs xs.length) ss := by simp [rbS, rbW, rbC, h, h2]
theorem rbW_len (d c : Int) (xs ss : List Int) : (rbW d c xs ss).length ≤ 20000 := by
  unfold rbW
  split
  · split
    · exact db.dbWo_len _ _ _
    · simp
  · simp

set_option maxHeartbeats 4000000 in
theorem implRB (d c : Int) (xs ss : List Int) (v u : Value) (B C : Nat) (w : World) (ha : l5.IntsC w B v xs) (hB : B ≤ w.heap.size) (hb : Ints w C u ss) (hC : C ≤ w.heap.size) (hq : l5.Small xs) (hm : ss.length ≤ 1099511627776) (nu : fn.NilOk u) (hT : stb.Tab w) :
    Calls Tryd.prog 32 #[.agg #[.int .i64 d, .int .i64 c, v], u] w fun e w' => ∃ ao cap, e = .returned (.tuple #[.agg #[.int .i64 (rbS d c xs ss), .slice ao (rbW d c xs ss).length cap], .int .i64 (rbC d c xs ss)]) ∧ sl.Own w' w.heap.size w'.heap.size (.slice ao (rbW d c xs ss).length cap) (rbW d c xs ss) ∧ Below w.heap.size w w' := by
  have hz0 : ((w.alloc (.cells #[.int .i64 d, .int .i64 c, v] 56)).alloc (.cells #[.int .i64 0, .slice none 0 0] 53)).heap.size = w.heap.size + 2 := by simp
  have hb0 : Below w.heap.size w ((w.alloc (.cells #[.int .i64 d, .int .i64 c, v] 56)).alloc (.cells #[.int .i64 0, .slice none 0 0] 53)) := ((Below.refl w.heap.size w).alloc (Nat.le_refl _) _).alloc (by simp) _
  have HB0 := hid hb0
  have HX := hid (fun (w1 : World) (b1 : Below (w.heap.size + 2) ((w.alloc (.cells #[.int .i64 d, .int .i64 c, v] 56)).alloc (.cells #[.int .i64 0, .slice none 0 0] 53)) w1) => (show w1.cell? ⟨w.heap.size, 0, none⟩ = some (.int .i64 d) ∧ w1.cell? ⟨w.heap.size, 1, none⟩ = some (.int .i64 c) ∧ w1.cell? ⟨w.heap.size, 2, none⟩ = some (v) ∧ w1.cell? ⟨w.heap.size + 1, 0, none⟩ = some (.int .i64 0) ∧ w1.cell? ⟨w.heap.size + 1, 1, none⟩ = some (.slice none 0 0) ∧ w1.frozen? ⟨w.heap.size + 1, 0, none⟩ = false ∧ w1.frozen? ⟨w.heap.size + 1, 1, none⟩ = false from ⟨(b1.cell (p := ⟨w.heap.size, 0, none⟩) (by simp)).trans (by go_simp), (b1.cell (p := ⟨w.heap.size, 1, none⟩) (by simp)).trans (by go_simp), (b1.cell (p := ⟨w.heap.size, 2, none⟩) (by simp)).trans (by go_simp), (b1.cell (p := ⟨w.heap.size + 1, 0, none⟩) (by simp)).trans (by go_simp), (b1.cell (p := ⟨w.heap.size + 1, 1, none⟩) (by simp)).trans (by go_simp), (b1.frozen (p := ⟨w.heap.size + 1, 0, none⟩) (by simp)).trans (by go_simp), (b1.frozen (p := ⟨w.heap.size + 1, 1, none⟩) (by simp)).trans (by go_simp)⟩))
  have HA := hid (fun W (b : Below w.heap.size w W) => ha.chg (Chg.ofBelow (lo := 0) b) (.inr (Nat.zero_le _)))
  have HBb := hid (fun W (b : Below w.heap.size w W) => hb.chg (Chg.ofBelow (lo := 0) b) (.inr (Nat.zero_le _)))
  have HV := hid (fun W (b : Below w.heap.size w W) => vr5.implVR d c xs v B W (HA.out W b).ints (Nat.le_trans hB b.size) hq)
  have HSz := hid (fun W (b : Below w.heap.size w W) => hk.implVS ss u C W (HBb.out W b) (Nat.le_trans hC b.size) hm)
  have HLa := hid (fun W (b : Below w.heap.size w W) => implLay d c xs v B W (HA.out W b).ints (Nat.le_trans hB b.size) hq (stb.carry hT b))
  have HTk := hid (fun W (b : Below w.heap.size w W) => implTakenBy xs v B W (HA.out W b).ints (Nat.le_trans hB b.size) (by have := hq.len; omega) (stb.carry hT b))
  have HLe := hid (fun (h : lst xs = true) W (b : Below w.heap.size w W) => implLet d c xs v B W (HA.out W b) (Nat.le_trans hB b.size) h (stb.carry hT b))
  have HDb := hid (fun (L : List Int) (x : Nat) (y : Value) W (b : Below w.heap.size w W) (hl : L.length ≤ 1099511627776) (o : sl.Own W x W.heap.size y L) => db.implDoubleP (ss.length : Int) L ss y u W.heap.size C W o.ints (Nat.le_refl _) (HBb.out W b) (Nat.le_trans hC b.size) hl hm (fn.nilok_own o) nu)
  have HRow := hid (fun h => @row_lst d c xs h)
  have HRl := hid (rlT_len xs xs.length)
  have HOkA : Hid (okA d c xs ss = (vr5.rowB d c xs && hk.szOk ss)) := hid rfl
  have HOkB : Hid (okB d c xs ss = (decide (laC d c xs = 0) && decide (tkS xs = (ss.length : Int)))) := hid rfl
  have HRa := hid (@rb_a d c xs ss)
  have HRb := hid (@rb_b d c xs ss)
  have HRc := hid (@rb_c d c xs ss)
  have hxl := hq.len
  obtain ⟨ao, cap, hv⟩ := ints_val ha.ints
  obtain ⟨ao', cap', hu⟩ := ints_val hb
  clear ha hb hq nu hb0 hT
  generalize rbS d c xs ss = S at *
  generalize rbW d c xs ss = T at *
  generalize rbC d c xs ss = K at *
  generalize okA d c xs ss = qA at *
  generalize okB d c xs ss = qB at *
  generalize laC d c xs = la at *
  generalize tkS xs = tt at *
  obtain ⟨q1, hq1⟩ : ∃ q, q = vr5.rowB d c xs := ⟨_, rfl⟩
  obtain ⟨q2, hq2⟩ : ∃ q, q = hk.szOk ss := ⟨_, rfl⟩
  rw [← hq1] at HV HOkA HRow
  rw [← hq2] at HSz HOkA
  clear hq1 hq2
  generalize hL : rlT xs xs.length = L at *
  clear hL
  obtain ⟨m, hmm⟩ : ∃ m, m = xs.length := ⟨_, rfl⟩
  obtain ⟨n, hnn⟩ : ∃ n, n = ss.length := ⟨_, rfl⟩
  rw [← hmm] at hv HRl hxl
  rw [← hnn] at hu HDb HOkB HRc hm
  clear hmm hnn
  subst hv hu
  cases q1 with
  | false =>
    have HZ := HRa.out (by rw [HOkA.out]; rfl)
    clear HRa HRb HRc HOkA HOkB HSz HLa HTk HLe HDb HRow
    go_enter Tryd.func32, Tryd.ntmps32
    go_wp2_with fail
    refine (HV.out _ HB0.out).mono ?_
    rintro e w1 ⟨rfl, b1⟩
    rw [hz0] at b1
    have BX1 := hid b1
    have HB1 := hid (HB0.out.trans (b1.mono (by omega)))
    clear b1
    obtain ⟨r0, r1, r2, e0, e1, f0, f1⟩ := HX.out w1 BX1.out
    go_wp2
    refine bodyPost_ret (v := .tuple #[.agg #[.int .i64 0, .slice none 0 0], .int .i64 1]) (by simp [results, Tryd.results32, go_sem, e0, e1]) rfl ⟨none, 0, ?_, ?_, ?_⟩
    · rw [HZ.1, HZ.2.1, HZ.2.2]; rfl
    · rw [HZ.2.1]; exact sl.Own.lo (sl.Own.nil _ _) (by have := HB1.out.size; first | (simp; done) | (simp; omega) | omega)
    · first | exact HB1.out | exact (HB1.out.setCell (p := ⟨w.heap.size + 1, 0, none⟩) (by show w.heap.size ≤ w.heap.size + 1; omega) _).setCell (p := ⟨w.heap.size + 1, 1, none⟩) (by show w.heap.size ≤ w.heap.size + 1; omega) _
  | true =>
    have hrow := HRow.out (by trivial)
    have HLe := hid (HLe.out hrow)
    clear hrow HRow
    cases q2 with
    | false =>
      have HZ := HRa.out (by rw [HOkA.out]; rfl)
      clear HRa HRb HRc HOkA HOkB HLa HTk HLe HDb
      go_enter Tryd.func32, Tryd.ntmps32
      go_wp2_with fail
      refine (HV.out _ HB0.out).mono ?_
      rintro e w1 ⟨rfl, b1⟩
      rw [hz0] at b1
      have BX1 := hid b1
      have HB1 := hid (HB0.out.trans (b1.mono (by omega)))
      clear b1
      go_wp2_with fail
      refine (HSz.out _ HB1.out).mono ?_
      rintro e w2 ⟨rfl, b2⟩
      have BX2 := hid (BX1.out.trans (b2.mono (by have := BX1.out.size; rw [hz0] at this; exact this)))
      have HB2 := hid (HB1.out.trans (b2.mono HB1.out.size))
      clear b2
      obtain ⟨r0, r1, r2, e0, e1, f0, f1⟩ := HX.out w2 BX2.out
      go_wp2
      refine bodyPost_ret (v := .tuple #[.agg #[.int .i64 0, .slice none 0 0], .int .i64 1]) (by simp [results, Tryd.results32, go_sem, e0, e1]) rfl ⟨none, 0, ?_, ?_, ?_⟩
      · rw [HZ.1, HZ.2.1, HZ.2.2]; rfl
      · rw [HZ.2.1]; exact sl.Own.lo (sl.Own.nil _ _) (by have := HB2.out.size; first | (simp; done) | (simp; omega) | omega)
      · first | exact HB2.out | exact (HB2.out.setCell (p := ⟨w.heap.size + 1, 0, none⟩) (by show w.heap.size ≤ w.heap.size + 1; omega) _).setCell (p := ⟨w.heap.size + 1, 1, none⟩) (by show w.heap.size ≤ w.heap.size + 1; omega) _
    | true =>
      have HYa := hid (HRa.out)
      have HOk : Hid (qA = true) := hid (by rw [HOkA.out]; rfl)
      have HRb2 := hid (HRb.out HOk.out)
      have HRc2 := hid (HRc.out HOk.out)
      clear HYa HRa HRb HRc HOkA
      by_cases hla : la = 0
      · have hla1 : (la != 0) = false := by simpa using hla
        by_cases htt : tt = (n : Int)
        · have htt1 : (tt != (n : Int)) = false := by simpa using htt
          have HZ := HRc2.out (by rw [HOkB.out, decide_eq_true hla, decide_eq_true htt]; rfl)
          rw [HZ.1, HZ.2.1, HZ.2.2]
          clear HZ HRb2 HRc2 HOkB HOk
          subst hla htt
          have HDb := hid (fun (x : Nat) (y : Value) W b hl o => HDb.out L x y W b hl o)
          generalize db.dbSt (n : Int) L ss = dS at *
          generalize db.dbWo (n : Int) L ss = dW at *
          generalize db.dbCo (n : Int) L ss = dC at *
          go_enter Tryd.func32, Tryd.ntmps32
          go_wp2_with fail
          refine (HV.out _ HB0.out).mono ?_
          rintro e w1 ⟨rfl, b1⟩
          rw [hz0] at b1
          have BX1 := hid b1
          have HB1 := hid (HB0.out.trans (b1.mono (by omega)))
          clear b1
          go_wp2_with fail
          refine (HSz.out _ HB1.out).mono ?_
          rintro e w2 ⟨rfl, b2⟩
          have BX2 := hid (BX1.out.trans (b2.mono (by have := BX1.out.size; rw [hz0] at this; exact this)))
          have HB2 := hid (HB1.out.trans (b2.mono HB1.out.size))
          clear b2
          obtain ⟨r0, r1, r2, e0, e1, f0, f1⟩ := HX.out w2 BX2.out
          go_wp2_with fail
          refine (HLa.out _ HB2.out).mono ?_
          rintro e w3 ⟨rfl, b3⟩
          have BX3 := hid (BX2.out.trans (b3.mono (by have := BX2.out.size; rw [hz0] at this; exact this)))
          have HB3 := hid (HB2.out.trans (b3.mono HB2.out.size))
          clear b3
          clear r0 r1 r2 e0 e1 f0 f1
          obtain ⟨r0, r1, r2, e0, e1, f0, f1⟩ := HX.out w3 BX3.out
          go_wp2_with fail
          refine (HTk.out _ HB3.out).mono ?_
          rintro e w4 ⟨rfl, b4⟩
          have BX4 := hid (BX3.out.trans (b4.mono (by have := BX3.out.size; rw [hz0] at this; exact this)))
          have HB4 := hid (HB3.out.trans (b4.mono HB3.out.size))
          clear b4
          clear r0 r1 r2 e0 e1 f0 f1
          obtain ⟨r0, r1, r2, e0, e1, f0, f1⟩ := HX.out w4 BX4.out
          go_wp2_with fail
          refine (HLe.out _ HB4.out).mono ?_
          rintro e w5 ⟨v5, rfl, o5, b5⟩
          have BX5 := hid (BX4.out.trans (b5.mono (by have := BX4.out.size; rw [hz0] at this; exact this)))
          have HB5 := hid (HB4.out.trans (b5.mono HB4.out.size))
          have O5 := hid o5
          obtain ⟨a5, c5, hv5⟩ := own_val o5
          obtain ⟨l5, hl5⟩ : ∃ l, l = L.length := ⟨_, rfl⟩
          rw [← hl5] at hv5 HRl
          have HL5 := hid hl5
          clear hl5
          clear b5 o5 r0 r1 r2 e0 e1 f0 f1
          subst hv5
          obtain ⟨r0, r1, r2, e0, e1, f0, f1⟩ := HX.out w5 BX5.out
          go_wp2_with fail
          refine (HDb.out _ _ w5 HB5.out (by rw [← HL5.out]; have := HRl.out; omega) O5.out).mono ?_
          rintro e w6 ⟨a6, c6, rfl, o6, b6⟩
          have BX6 := hid (BX5.out.trans (b6.mono (by have := BX5.out.size; rw [hz0] at this; exact this)))
          have HB6 := hid (HB5.out.trans (b6.mono HB5.out.size))
          have hs5 := BX5.out.size
          rw [hz0] at hs5
          have O6 := hid o6
          obtain ⟨l6, hl6⟩ : ∃ l, l = dW.length := ⟨_, rfl⟩
          rw [← hl6] at O6
          have HL6 := hid hl6
          clear b6 o6 hl6 r0 r1 r2 e0 e1 f0 f1
          obtain ⟨r0, r1, r2, e0, e1, f0, f1⟩ := HX.out w6 BX6.out
          skip
          go_wp2
          refine bodyPost_ret (v := .tuple #[.agg #[.int .i64 dS, .slice a6 l6 c6], .int .i64 dC]) (by simp [results, Tryd.results32, go_sem, e0, e1, HL6.out]) rfl ⟨a6, c6, by rw [HL6.out], ?_, ?_⟩
          · rw [← HL6.out]
            have h2 := own_other (own_other O6.out (w.heap.size + 1) 0 (.int .i64 dS) (.inl (by omega))) (w.heap.size + 1) 1 (.slice a6 l6 c6) (.inl (by omega))
            have h3 := h2.lo (lo' := w.heap.size) (by omega)
            simpa using h3
          · exact (HB6.out.setCell (by simp) _).setCell (by simp) _
        · have htt1 : (tt != (n : Int)) = true := by simpa using htt
          have HZ := HRb2.out (by rw [HOkB.out, decide_eq_false htt, Bool.and_false])
          clear HRb2 HRc2 HOkB HOk HDb HLe htt
          subst hla
          go_enter Tryd.func32, Tryd.ntmps32
          go_wp2_with fail
          refine (HV.out _ HB0.out).mono ?_
          rintro e w1 ⟨rfl, b1⟩
          rw [hz0] at b1
          have BX1 := hid b1
          have HB1 := hid (HB0.out.trans (b1.mono (by omega)))
          clear b1
          go_wp2_with fail
          refine (HSz.out _ HB1.out).mono ?_
          rintro e w2 ⟨rfl, b2⟩
          have BX2 := hid (BX1.out.trans (b2.mono (by have := BX1.out.size; rw [hz0] at this; exact this)))
          have HB2 := hid (HB1.out.trans (b2.mono HB1.out.size))
          clear b2
          obtain ⟨r0, r1, r2, e0, e1, f0, f1⟩ := HX.out w2 BX2.out
          go_wp2_with fail
          refine (HLa.out _ HB2.out).mono ?_
          rintro e w3 ⟨rfl, b3⟩
          have BX3 := hid (BX2.out.trans (b3.mono (by have := BX2.out.size; rw [hz0] at this; exact this)))
          have HB3 := hid (HB2.out.trans (b3.mono HB2.out.size))
          clear b3
          clear r0 r1 r2 e0 e1 f0 f1
          obtain ⟨r0, r1, r2, e0, e1, f0, f1⟩ := HX.out w3 BX3.out
          go_wp2_with fail
          refine (HTk.out _ HB3.out).mono ?_
          rintro e w4 ⟨rfl, b4⟩
          have BX4 := hid (BX3.out.trans (b4.mono (by have := BX3.out.size; rw [hz0] at this; exact this)))
          have HB4 := hid (HB3.out.trans (b4.mono HB3.out.size))
          clear b4
          clear r0 r1 r2 e0 e1 f0 f1
          obtain ⟨r0, r1, r2, e0, e1, f0, f1⟩ := HX.out w4 BX4.out
          go_wp2
          refine bodyPost_ret (v := .tuple #[.agg #[.int .i64 0, .slice none 0 0], .int .i64 10]) (by simp [results, Tryd.results32, go_sem, e0, e1]) rfl ⟨none, 0, ?_, ?_, ?_⟩
          · rw [HZ.1, HZ.2.1, HZ.2.2]; rfl
          · rw [HZ.2.1]; exact sl.Own.lo (sl.Own.nil _ _) (by have := HB4.out.size; first | (simp; done) | (simp; omega) | omega)
          · first | exact HB4.out | exact (HB4.out.setCell (p := ⟨w.heap.size + 1, 0, none⟩) (by show w.heap.size ≤ w.heap.size + 1; omega) _).setCell (p := ⟨w.heap.size + 1, 1, none⟩) (by show w.heap.size ≤ w.heap.size + 1; omega) _
      · have hla1 : (la != 0) = true := by simpa using hla
        have HZ := HRb2.out (by rw [HOkB.out, decide_eq_false hla]; rfl)
        clear HRb2 HRc2 HOkB HOk HDb HLe HTk hla
        go_enter Tryd.func32, Tryd.ntmps32
        go_wp2_with fail
        refine (HV.out _ HB0.out).mono ?_
        rintro e w1 ⟨rfl, b1⟩
        rw [hz0] at b1
        have BX1 := hid b1
        have HB1 := hid (HB0.out.trans (b1.mono (by omega)))
        clear b1
        go_wp2_with fail
        refine (HSz.out _ HB1.out).mono ?_
        rintro e w2 ⟨rfl, b2⟩
        have BX2 := hid (BX1.out.trans (b2.mono (by have := BX1.out.size; rw [hz0] at this; exact this)))
        have HB2 := hid (HB1.out.trans (b2.mono HB1.out.size))
        clear b2
        obtain ⟨r0, r1, r2, e0, e1, f0, f1⟩ := HX.out w2 BX2.out
        go_wp2_with fail
        refine (HLa.out _ HB2.out).mono ?_
        rintro e w3 ⟨rfl, b3⟩
        have BX3 := hid (BX2.out.trans (b3.mono (by have := BX2.out.size; rw [hz0] at this; exact this)))
        have HB3 := hid (HB2.out.trans (b3.mono HB2.out.size))
        clear b3
        clear r0 r1 r2 e0 e1 f0 f1
        obtain ⟨r0, r1, r2, e0, e1, f0, f1⟩ := HX.out w3 BX3.out
        go_wp2
        refine bodyPost_ret (v := .tuple #[.agg #[.int .i64 0, .slice none 0 0], .int .i64 10]) (by simp [results, Tryd.results32, go_sem, e0, e1]) rfl ⟨none, 0, ?_, ?_, ?_⟩
        · rw [HZ.1, HZ.2.1, HZ.2.2]; rfl
        · rw [HZ.2.1]; exact sl.Own.lo (sl.Own.nil _ _) (by have := HB3.out.size; first | (simp; done) | (simp; omega) | omega)
        · first | exact HB3.out | exact (HB3.out.setCell (p := ⟨w.heap.size + 1, 0, none⟩) (by show w.heap.size ≤ w.heap.size + 1; omega) _).setCell (p := ⟨w.heap.size + 1, 1, none⟩) (by show w.heap.size ≤ w.heap.size + 1; omega) _
set_option maxHeartbeats 4000000 in
theorem specRB (d c : Int) (xs ss : List Int) (v u : Value) (B C : Nat) (w : World) (ha : l5.IntsC w B v xs) (hB : B ≤ w.heap.size) (hb : Ints w C u ss) (hC : C ≤ w.heap.size) (hq : l5.Small xs) (hm : ss.length ≤ 1099511627776) (nu : fn.NilOk u) :
    Calls Tryd.prog 30 #[.agg #[.int .i64 d, .int .i64 c, v], u] w fun e w' => ∃ ao cap, e = .returned (.tuple #[.agg #[.int .i64 (rbS d c xs ss), .slice ao (rbW d c xs ss).length cap], .int .i64 (rbC d c xs ss)]) ∧ sl.Own w' w.heap.size w'.heap.size (.slice ao (rbW d c xs ss).length cap) (rbW d c xs ss) ∧ Below w.heap.size w w' := by
  have hz0 : ((w.alloc (.cells #[.int .i64 d, .int .i64 c, v] 56)).alloc (.cells #[.int .i64 0, .slice none 0 0] 53)).heap.size = w.heap.size + 2 := by simp
  have hb0 : Below w.heap.size w ((w.alloc (.cells #[.int .i64 d, .int .i64 c, v] 56)).alloc (.cells #[.int .i64 0, .slice none 0 0] 53)) := ((Below.refl w.heap.size w).alloc (Nat.le_refl _) _).alloc (by simp) _
  have HB0 := hid hb0
  have HX := hid (fun (w1 : World) (b1 : Below (w.heap.size + 2) ((w.alloc (.cells #[.int .i64 d, .int .i64 c, v] 56)).alloc (.cells #[.int .i64 0, .slice none 0 0] 53)) w1) => (show w1.cell? ⟨w.heap.size, 0, none⟩ = some (.int .i64 d) ∧ w1.cell? ⟨w.heap.size, 1, none⟩ = some (.int .i64 c) ∧ w1.cell? ⟨w.heap.size, 2, none⟩ = some (v) ∧ w1.cell? ⟨w.heap.size + 1, 0, none⟩ = some (.int .i64 0) ∧ w1.cell? ⟨w.heap.size + 1, 1, none⟩ = some (.slice none 0 0) ∧ w1.frozen? ⟨w.heap.size + 1, 0, none⟩ = false ∧ w1.frozen? ⟨w.heap.size + 1, 1, none⟩ = false from ⟨(b1.cell (p := ⟨w.heap.size, 0, none⟩) (by simp)).trans (by go_simp), (b1.cell (p := ⟨w.heap.size, 1, none⟩) (by simp)).trans (by go_simp), (b1.cell (p := ⟨w.heap.size, 2, none⟩) (by simp)).trans (by go_simp), (b1.cell (p := ⟨w.heap.size + 1, 0, none⟩) (by simp)).trans (by go_simp), (b1.cell (p := ⟨w.heap.size + 1, 1, none⟩) (by simp)).trans (by go_simp), (b1.frozen (p := ⟨w.heap.size + 1, 0, none⟩) (by simp)).trans (by go_simp), (b1.frozen (p := ⟨w.heap.size + 1, 1, none⟩) (by simp)).trans (by go_simp)⟩))
  have HA := hid (fun W (b : Below w.heap.size w W) => ha.chg (Chg.ofBelow (lo := 0) b) (.inr (Nat.zero_le _)))
  have HBb := hid (fun W (b : Below w.heap.size w W) => hb.chg (Chg.ofBelow (lo := 0) b) (.inr (Nat.zero_le _)))
  have HAt := hid (fun W (b1 : Below (w.heap.size + 2) ((w.alloc (.cells #[.int .i64 d, .int .i64 c, v] 56)).alloc (.cells #[.int .i64 0, .slice none 0 0] 53)) W) => (show ro.At W w.heap.size 0 ⟨d, c, xs⟩ v from ⟨by have := b1.size; simp at this; show w.heap.size < W.heap.size; omega, (HX.out W b1).1, (HX.out W b1).2.1, (HX.out W b1).2.2.1⟩))
  have HV := hid (fun W (b1 : Below (w.heap.size + 2) ((w.alloc (.cells #[.int .i64 d, .int .i64 c, v] 56)).alloc (.cells #[.int .i64 0, .slice none 0 0] 53)) W) (b : Below w.heap.size w W) => vr5.specRow d c xs v B w.heap.size 0 W (HAt.out W b1) (HA.out W b).ints (Nat.le_trans hB b.size) (by have := hq.len; omega))
  have HSz := hid (fun W (b : Below w.heap.size w W) => hk.specOk17 ss u C W (HBb.out W b) (Nat.le_trans hC b.size) hm)
  have HLa := hid (fun W (b1 : Below (w.heap.size + 2) ((w.alloc (.cells #[.int .i64 d, .int .i64 c, v] 56)).alloc (.cells #[.int .i64 0, .slice none 0 0] 53)) W) (b : Below w.heap.size w W) => specLay d c xs v B w.heap.size W (HAt.out W b1) (HA.out W b).ints (Nat.le_trans hB b.size) hq)
  have HTk := hid (fun W (b : Below w.heap.size w W) => specTakenBy xs v B W (HA.out W b).ints (Nat.le_trans hB b.size) (by have := hq.len; omega))
  have HLe := hid (fun (h : lst xs = true) W (b1 : Below (w.heap.size + 2) ((w.alloc (.cells #[.int .i64 d, .int .i64 c, v] 56)).alloc (.cells #[.int .i64 0, .slice none 0 0] 53)) W) (b : Below w.heap.size w W) => specLet xs v B w.heap.size W (HX.out W b1).2.2.1 (HAt.out W b1).lt (HA.out W b).ints (Nat.le_trans hB b.size) h)
  have HDb := hid (fun (L : List Int) (x : Nat) (y : Value) W (b : Below w.heap.size w W) (hl : L.length ≤ 1099511627776) (o : sl.Own W x W.heap.size y L) => db.specDoubleP (ss.length : Int) L ss y u W.heap.size C W o.ints (Nat.le_refl _) (HBb.out W b) (Nat.le_trans hC b.size) hl hm (fn.nilok_own o) nu)
  have HRow := hid (fun h => @row_lst d c xs h)
  have HRl := hid (rlT_len xs xs.length)
  have HOkA : Hid (okA d c xs ss = (vr5.rowB d c xs && hk.szOk ss)) := hid rfl
  have HOkB : Hid (okB d c xs ss = (decide (laC d c xs = 0) && decide (tkS xs = (ss.length : Int)))) := hid rfl
  have HRa := hid (@rb_a d c xs ss)
  have HRb := hid (@rb_b d c xs ss)
  have HRc := hid (@rb_c d c xs ss)
  have hxl := hq.len
  obtain ⟨ao, cap, hv⟩ := ints_val ha.ints
  obtain ⟨ao', cap', hu⟩ := ints_val hb
  clear ha hb hq nu hb0
  generalize rbS d c xs ss = S at *
  generalize rbW d c xs ss = T at *
  generalize rbC d c xs ss = K at *
  generalize okA d c xs ss = qA at *
  generalize okB d c xs ss = qB at *
  generalize laC d c xs = la at *
  generalize tkS xs = tt at *
  obtain ⟨q1, hq1⟩ : ∃ q, q = vr5.rowB d c xs := ⟨_, rfl⟩
  obtain ⟨q2, hq2⟩ : ∃ q, q = hk.szOk ss := ⟨_, rfl⟩
  rw [← hq1] at HV HOkA HRow
  rw [← hq2] at HSz HOkA
  clear hq1 hq2
  generalize hL : rlT xs xs.length = L at *
  clear hL
  obtain ⟨m, hmm⟩ : ∃ m, m = xs.length := ⟨_, rfl⟩
  obtain ⟨n, hnn⟩ : ∃ n, n = ss.length := ⟨_, rfl⟩
  rw [← hmm] at hv HRl hxl
  rw [← hnn] at hu HDb HOkB HRc hm
  clear hmm hnn
  subst hv hu
  have BX0 : Hid (Below (w.heap.size + 2) _ _) := hid (by have h := Below.refl ((w.alloc (.cells #[.int .i64 d, .int .i64 c, .slice ao m cap] 56)).alloc (.cells #[.int .i64 0, .slice none 0 0] 53)).heap.size ((w.alloc (.cells #[.int .i64 d, .int .i64 c, .slice ao m cap] 56)).alloc (.cells #[.int .i64 0, .slice none 0 0] 53)); rw [hz0] at h; exact h)
  cases q1 with
  | false =>
    have HZ := HRa.out (by rw [HOkA.out]; rfl)
    clear HRa HRb HRc HOkA HOkB HSz HLa HTk HLe HDb HRow
    go_enter Tryd.func30, Tryd.ntmps30
    go_wp2_with fail
    refine (HV.out _ BX0.out HB0.out).mono ?_
    rintro e w9 ⟨rfl, rfl⟩
    obtain ⟨r0, r1, r2, e0, e1, f0, f1⟩ := HX.out _ BX0.out
    go_wp2
    refine bodyPost_ret (v := .tuple #[.agg #[.int .i64 0, .slice none 0 0], .int .i64 1]) (by simp [results, Tryd.results30, go_sem, e0, e1]) rfl ⟨none, 0, ?_, ?_, ?_⟩
    · rw [HZ.1, HZ.2.1, HZ.2.2]; rfl
    · rw [HZ.2.1]; exact sl.Own.lo (sl.Own.nil _ _) (by have := HB0.out.size; first | (simp; done) | (simp; omega) | omega)
    · first | exact HB0.out | exact (HB0.out.setCell (p := ⟨w.heap.size + 1, 0, none⟩) (by show w.heap.size ≤ w.heap.size + 1; omega) _).setCell (p := ⟨w.heap.size + 1, 1, none⟩) (by show w.heap.size ≤ w.heap.size + 1; omega) _
  | true =>
    have hrow := HRow.out (by trivial)
    have HLe := hid (HLe.out hrow)
    clear hrow HRow
    cases q2 with
    | false =>
      have HZ := HRa.out (by rw [HOkA.out]; rfl)
      clear HRa HRb HRc HOkA HOkB HLa HTk HLe HDb
      go_enter Tryd.func30, Tryd.ntmps30
      go_wp2_with fail
      refine (HV.out _ BX0.out HB0.out).mono ?_
      rintro e w9 ⟨rfl, rfl⟩
      go_wp2_with fail
      refine (HSz.out _ HB0.out).mono ?_
      rintro e w9 ⟨rfl, rfl⟩
      obtain ⟨r0, r1, r2, e0, e1, f0, f1⟩ := HX.out _ BX0.out
      go_wp2
      refine bodyPost_ret (v := .tuple #[.agg #[.int .i64 0, .slice none 0 0], .int .i64 1]) (by simp [results, Tryd.results30, go_sem, e0, e1]) rfl ⟨none, 0, ?_, ?_, ?_⟩
      · rw [HZ.1, HZ.2.1, HZ.2.2]; rfl
      · rw [HZ.2.1]; exact sl.Own.lo (sl.Own.nil _ _) (by have := HB0.out.size; first | (simp; done) | (simp; omega) | omega)
      · first | exact HB0.out | exact (HB0.out.setCell (p := ⟨w.heap.size + 1, 0, none⟩) (by show w.heap.size ≤ w.heap.size + 1; omega) _).setCell (p := ⟨w.heap.size + 1, 1, none⟩) (by show w.heap.size ≤ w.heap.size + 1; omega) _
    | true =>
      have HYa := hid (HRa.out)
      have HOk : Hid (qA = true) := hid (by rw [HOkA.out]; rfl)
      have HRb2 := hid (HRb.out HOk.out)
      have HRc2 := hid (HRc.out HOk.out)
      clear HYa HRa HRb HRc HOkA
      by_cases hla : la = 0
      · have hla1 : (la != 0) = false := by simpa using hla
        by_cases htt : tt = (n : Int)
        · have htt1 : (tt != (n : Int)) = false := by simpa using htt
          have HZ := HRc2.out (by rw [HOkB.out, decide_eq_true hla, decide_eq_true htt]; rfl)
          rw [HZ.1, HZ.2.1, HZ.2.2]
          clear HZ HRb2 HRc2 HOkB HOk
          subst hla htt
          have HDb := hid (fun (x : Nat) (y : Value) W b hl o => HDb.out L x y W b hl o)
          generalize db.dbSt (n : Int) L ss = dS at *
          generalize db.dbWo (n : Int) L ss = dW at *
          generalize db.dbCo (n : Int) L ss = dC at *
          go_enter Tryd.func30, Tryd.ntmps30
          go_wp2_with fail
          refine (HV.out _ BX0.out HB0.out).mono ?_
          rintro e w9 ⟨rfl, rfl⟩
          go_wp2_with fail
          refine (HSz.out _ HB0.out).mono ?_
          rintro e w9 ⟨rfl, rfl⟩
          obtain ⟨r0, r1, r2, e0, e1, f0, f1⟩ := HX.out _ BX0.out
          go_wp2_with fail
          refine (HLa.out _ BX0.out HB0.out).mono ?_
          rintro e w3 ⟨rfl, b3⟩
          rw [hz0] at b3
          have BX3 := hid b3
          have HB3 := hid (HB0.out.trans (b3.mono (by omega)))
          clear b3
          clear r0 r1 r2 e0 e1 f0 f1
          obtain ⟨r0, r1, r2, e0, e1, f0, f1⟩ := HX.out w3 BX3.out
          go_wp2_with fail
          refine (HTk.out _ HB3.out).mono ?_
          rintro e w4 ⟨rfl, b4⟩
          have BX4 := hid (BX3.out.trans (b4.mono (by have := BX3.out.size; rw [hz0] at this; exact this)))
          have HB4 := hid (HB3.out.trans (b4.mono HB3.out.size))
          clear b4
          clear r0 r1 r2 e0 e1 f0 f1
          obtain ⟨r0, r1, r2, e0, e1, f0, f1⟩ := HX.out w4 BX4.out
          go_wp2_with fail
          refine (HLe.out _ BX4.out HB4.out).mono ?_
          rintro e w5 ⟨v5, rfl, o5, b5⟩
          have BX5 := hid (BX4.out.trans (b5.mono (by have := BX4.out.size; rw [hz0] at this; exact this)))
          have HB5 := hid (HB4.out.trans (b5.mono HB4.out.size))
          have O5 := hid o5
          obtain ⟨a5, c5, hv5⟩ := own_val o5
          obtain ⟨l5, hl5⟩ : ∃ l, l = L.length := ⟨_, rfl⟩
          rw [← hl5] at hv5 HRl
          have HL5 := hid hl5
          clear hl5
          clear b5 o5 r0 r1 r2 e0 e1 f0 f1
          subst hv5
          obtain ⟨r0, r1, r2, e0, e1, f0, f1⟩ := HX.out w5 BX5.out
          go_wp2_with fail
          refine (HDb.out _ _ w5 HB5.out (by rw [← HL5.out]; have := HRl.out; omega) O5.out).mono ?_
          rintro e w6 ⟨a6, c6, rfl, o6, b6⟩
          have BX6 := hid (BX5.out.trans (b6.mono (by have := BX5.out.size; rw [hz0] at this; exact this)))
          have HB6 := hid (HB5.out.trans (b6.mono HB5.out.size))
          have hs5 := BX5.out.size
          rw [hz0] at hs5
          have O6 := hid o6
          obtain ⟨l6, hl6⟩ : ∃ l, l = dW.length := ⟨_, rfl⟩
          rw [← hl6] at O6
          have HL6 := hid hl6
          clear b6 o6 hl6 r0 r1 r2 e0 e1 f0 f1
          obtain ⟨r0, r1, r2, e0, e1, f0, f1⟩ := HX.out w6 BX6.out
          skip
          go_wp2
          refine bodyPost_ret (v := .tuple #[.agg #[.int .i64 dS, .slice a6 l6 c6], .int .i64 dC]) (by simp [results, Tryd.results30, go_sem, e0, e1, HL6.out]) rfl ⟨a6, c6, by rw [HL6.out], ?_, ?_⟩
          · rw [← HL6.out]
            have h2 := own_other (own_other O6.out (w.heap.size + 1) 0 (.int .i64 dS) (.inl (by omega))) (w.heap.size + 1) 1 (.slice a6 l6 c6) (.inl (by omega))
            have h3 := h2.lo (lo' := w.heap.size) (by omega)
            simpa using h3
          · exact (HB6.out.setCell (by simp) _).setCell (by simp) _
        · have htt1 : (tt != (n : Int)) = true := by simpa using htt
          have HZ := HRb2.out (by rw [HOkB.out, decide_eq_false htt, Bool.and_false])
          clear HRb2 HRc2 HOkB HOk HDb HLe htt
          subst hla
          go_enter Tryd.func30, Tryd.ntmps30
          go_wp2_with fail
          refine (HV.out _ BX0.out HB0.out).mono ?_
          rintro e w9 ⟨rfl, rfl⟩
          go_wp2_with fail
          refine (HSz.out _ HB0.out).mono ?_
          rintro e w9 ⟨rfl, rfl⟩
          obtain ⟨r0, r1, r2, e0, e1, f0, f1⟩ := HX.out _ BX0.out
          go_wp2_with fail
          refine (HLa.out _ BX0.out HB0.out).mono ?_
          rintro e w3 ⟨rfl, b3⟩
          rw [hz0] at b3
          have BX3 := hid b3
          have HB3 := hid (HB0.out.trans (b3.mono (by omega)))
          clear b3
          clear r0 r1 r2 e0 e1 f0 f1
          obtain ⟨r0, r1, r2, e0, e1, f0, f1⟩ := HX.out w3 BX3.out
          go_wp2_with fail
          refine (HTk.out _ HB3.out).mono ?_
          rintro e w4 ⟨rfl, b4⟩
          have BX4 := hid (BX3.out.trans (b4.mono (by have := BX3.out.size; rw [hz0] at this; exact this)))
          have HB4 := hid (HB3.out.trans (b4.mono HB3.out.size))
          clear b4
          clear r0 r1 r2 e0 e1 f0 f1
          obtain ⟨r0, r1, r2, e0, e1, f0, f1⟩ := HX.out w4 BX4.out
          go_wp2
          refine bodyPost_ret (v := .tuple #[.agg #[.int .i64 0, .slice none 0 0], .int .i64 10]) (by simp [results, Tryd.results30, go_sem, e0, e1]) rfl ⟨none, 0, ?_, ?_, ?_⟩
          · rw [HZ.1, HZ.2.1, HZ.2.2]; rfl
          · rw [HZ.2.1]; exact sl.Own.lo (sl.Own.nil _ _) (by have := HB4.out.size; first | (simp; done) | (simp; omega) | omega)
          · first | exact HB4.out | exact (HB4.out.setCell (p := ⟨w.heap.size + 1, 0, none⟩) (by show w.heap.size ≤ w.heap.size + 1; omega) _).setCell (p := ⟨w.heap.size + 1, 1, none⟩) (by show w.heap.size ≤ w.heap.size + 1; omega) _
      · have hla1 : (la != 0) = true := by simpa using hla
        have HZ := HRb2.out (by rw [HOkB.out, decide_eq_false hla]; rfl)
        clear HRb2 HRc2 HOkB HOk HDb HLe HTk hla
        go_enter Tryd.func30, Tryd.ntmps30
        go_wp2_with fail
        refine (HV.out _ BX0.out HB0.out).mono ?_
        rintro e w9 ⟨rfl, rfl⟩
        go_wp2_with fail
        refine (HSz.out _ HB0.out).mono ?_
        rintro e w9 ⟨rfl, rfl⟩
        obtain ⟨r0, r1, r2, e0, e1, f0, f1⟩ := HX.out _ BX0.out
        go_wp2_with fail
        refine (HLa.out _ BX0.out HB0.out).mono ?_
        rintro e w3 ⟨rfl, b3⟩
        rw [hz0] at b3
        have BX3 := hid b3
        have HB3 := hid (HB0.out.trans (b3.mono (by omega)))
        clear b3
        clear r0 r1 r2 e0 e1 f0 f1
        obtain ⟨r0, r1, r2, e0, e1, f0, f1⟩ := HX.out w3 BX3.out
        go_wp2
        refine bodyPost_ret (v := .tuple #[.agg #[.int .i64 0, .slice none 0 0], .int .i64 10]) (by simp [results, Tryd.results30, go_sem, e0, e1]) rfl ⟨none, 0, ?_, ?_, ?_⟩
        · rw [HZ.1, HZ.2.1, HZ.2.2]; rfl
        · rw [HZ.2.1]; exact sl.Own.lo (sl.Own.nil _ _) (by have := HB3.out.size; first | (simp; done) | (simp; omega) | omega)
        · first | exact HB3.out | exact (HB3.out.setCell (p := ⟨w.heap.size + 1, 0, none⟩) (by show w.heap.size ≤ w.heap.size + 1; omega) _).setCell (p := ⟨w.heap.size + 1, 1, none⟩) (by show w.heap.size ≤ w.heap.size + 1; omega) _
end Go.Proofs.YtnmnikpgjglonabDoor.rw
