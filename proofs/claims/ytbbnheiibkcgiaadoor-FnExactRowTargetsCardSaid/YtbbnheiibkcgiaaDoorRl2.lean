/-
  Letters of a row: the program's RowLetters; the code of a row's layout on both sides.
-/
import Derived.Test.YtbbnheiibkcgiaaDoorRl1
namespace Go.Proofs.YtbbnheiibkcgiaaDoor.rl
open Go.RowKit Go.Proofs.YtbbnheiibkcgiaaDoor.sl Go.Proofs.YtbbnheiibkcgiaaDoor.pm Go.Proofs.YtbbnheiibkcgiaaDoor.br Go.Proofs.YtbbnheiibkcgiaaDoor.bw Go.Proofs.YtbbnheiibkcgiaaDoor.st
set_option linter.unusedVariables false
set_option maxRecDepth 100000

set_option maxHeartbeats 2000000 in
theorem implLay (d c : Int) (xs : List Int) (v : Value) (B : Nat) (w : World) (ha : Ints w B v xs) (hB : B ≤ w.heap.size) (hq : l5.Small xs) (hT : stb.Tab w) :
    Calls Tryd.prog 54 #[.agg #[.int .i64 d, .int .i64 c, v]] w fun e w' => e = .returned (.int .i64 (laC d c xs)) ∧ Below w.heap.size w w' := by
  have hal := hid ((Below.refl w.heap.size w).alloc (Nat.le_refl _) (.cells #[.int .i64 d, .int .i64 c, v] 40))
  have HI := hid (vr5.implVR d c xs v B (w.alloc (.cells #[.int .i64 d, .int .i64 c, v] 40)) (ints_al ha _) (by simp; omega) hq)
  have HTk := hid (fun W (h : Ints W B v xs) (hb : B ≤ W.heap.size) (ht : stb.Tab W) => implTakenBy xs v B W h hb (by have := hq.len; omega) ht)
  have HMd := hid (fun W (h : Ints W B v xs) (hb : B ≤ W.heap.size) (ht : stb.Tab W) => implMadeBy xs v B W h hb (by have := hq.len; omega) ht)
  have HA := hid (ints_al ha (.cells #[.int .i64 d, .int .i64 c, v] 40))
  have HTb := hid hT
  obtain ⟨ao, cap, hv⟩ := ints_val ha
  have r2 : (w.alloc (.cells #[.int .i64 d, .int .i64 c, v] 40)).cell? ⟨w.heap.size, 2, none⟩ = some v := World.cell?_alloc_at _ _ _ _ rfl
  clear hT ha
  cases hr : vr5.rowB d c xs
  · have HF := hid (la_no hr)
    rw [hr] at HI
    clear hr HTk HMd HA hq
    generalize xs.length = n at *
    subst hv
    go_enter Tryd.func54, Tryd.ntmps54
    go_wp2_with fail
    refine HI.out.mono ?_
    rintro e w1 ⟨rfl, b1⟩
    have B1 := hid (hal.out.trans (b1.mono hal.out.size))
    clear b1
    go_wp2
    go_ret
    exact ⟨by rw [HF.out]; first | done | rfl, B1.out⟩
  · rw [hr] at HI
    cases h1 : decide (1 ≤ tkS xs ∧ tkS xs ≤ 8)
    · have HF := hid (la_bad hr (by simp only [laQ, h1, Bool.false_and]))
      have HW := hid (fun W => withinQ (tkS xs) 1 8 false h1 W)
      clear hr hq h1 HMd
      generalize tkS xs = t at *
      obtain ⟨n, hn⟩ : ∃ n, n = xs.length := ⟨_, rfl⟩
      rw [← hn] at hv
      clear hn
      subst hv
      go_enter Tryd.func54, Tryd.ntmps54
      go_wp2_with fail
      refine HI.out.mono ?_
      rintro e w1 ⟨rfl, b1⟩
      have B1 := hid (hal.out.trans (b1.mono hal.out.size))
      have r3 := (b1.cell (p := ⟨w.heap.size, 2, none⟩) (by simp)).trans r2
      have HA1 := hid (HA.out.chg (Chg.ofBelow (lo := 0) b1) (.inr (Nat.zero_le _)))
      have hs1 := B1.out.size
      clear b1
      go_wp2_with fail
      refine (HTk.out _ HA1.out (by omega) (stb.carry HTb.out B1.out)).mono ?_
      rintro e w2 ⟨rfl, b2⟩
      have B2 := hid (B1.out.trans (b2.mono hs1))
      clear b2
      go_wp2_with fail
      refine (HW.out _).mono ?_
      rintro e w3 ⟨rfl, rfl⟩
      go_wp2
      go_ret
      exact ⟨by rw [HF.out]; first | done | rfl, B2.out⟩
    · have HW := hid (fun W => withinQ (tkS xs) 1 8 true h1 W)
      obtain ⟨q, hqq⟩ : ∃ q, q = decide (1 ≤ mdS xs ∧ mdS xs ≤ 8) := ⟨_, rfl⟩
      have HW2 := hid (fun W => withinQ (mdS xs) 1 8 q hqq.symm W)
      have hF : laC d c xs = if q = true then 0 else 10 := by
        cases q
        · rw [la_bad hr (by simp only [laQ, h1, ← hqq, Bool.true_and])]; rfl
        · rw [la_ok hr (by simp only [laQ, h1, ← hqq, Bool.true_and])]; rfl
      have HF := hid hF
      clear hr hq h1 hF hqq
      generalize tkS xs = t at *
      generalize mdS xs = u at *
      obtain ⟨n, hn⟩ : ∃ n, n = xs.length := ⟨_, rfl⟩
      rw [← hn] at hv
      clear hn
      subst hv
      go_enter Tryd.func54, Tryd.ntmps54
      go_wp2_with fail
      refine HI.out.mono ?_
      rintro e w1 ⟨rfl, b1⟩
      have B1 := hid (hal.out.trans (b1.mono hal.out.size))
      have r3 := (b1.cell (p := ⟨w.heap.size, 2, none⟩) (by simp)).trans r2
      have HA1 := hid (HA.out.chg (Chg.ofBelow (lo := 0) b1) (.inr (Nat.zero_le _)))
      have hs1 := B1.out.size
      have hlt1 : w.heap.size < w1.heap.size := by have := b1.size; simp at this; omega
      clear b1
      go_wp2_with fail
      refine (HTk.out _ HA1.out (by omega) (stb.carry HTb.out B1.out)).mono ?_
      rintro e w2 ⟨rfl, b2⟩
      have B2 := hid (B1.out.trans (b2.mono hs1))
      have r4 := (b2.cell (p := ⟨w.heap.size, 2, none⟩) hlt1).trans r3
      have HA2 := hid (HA1.out.chg (Chg.ofBelow (lo := 0) b2) (.inr (Nat.zero_le _)))
      have hs2 := B2.out.size
      clear b2
      go_wp2_with fail
      refine (HW.out _).mono ?_
      rintro e w3 ⟨rfl, rfl⟩
      go_wp2_with fail
      refine (HMd.out _ HA2.out (by omega) (stb.carry HTb.out B2.out)).mono ?_
      rintro e w3 ⟨rfl, b3⟩
      have B3 := hid (B2.out.trans (b3.mono hs2))
      clear b3
      go_wp2_with fail
      refine (HW2.out _).mono ?_
      rintro e w4 ⟨rfl, rfl⟩
      cases q
      · go_wp2
        go_ret
        exact ⟨by rw [HF.out]; first | done | rfl, B3.out⟩
      · go_wp2
        go_ret
        exact ⟨by rw [HF.out]; first | done | rfl, B3.out⟩

set_option maxHeartbeats 2000000 in
theorem specLay (d c : Int) (xs : List Int) (v : Value) (B p : Nat) (w : World) (H : ro.At w p 0 ⟨d, c, xs⟩ v) (ha : Ints w B v xs) (hB : B ≤ w.heap.size) (hq : l5.Small xs) :
    Calls Tryd.prog 39 #[.pointer (some ⟨p, 0, none⟩)] w fun e w' => e = .returned (.int .i64 (laC d c xs)) ∧ Below w.heap.size w w' := by
  have HI := hid (vr5.specRow d c xs v B p 0 w H ha hB (by have := hq.len; omega))
  have HTk := hid (fun W (h : Ints W B v xs) (hb : B ≤ W.heap.size) => specTakenBy xs v B W h hb (by have := hq.len; omega))
  have HMd := hid (fun W (h : Ints W B v xs) (hb : B ≤ W.heap.size) => specMadeBy xs v B W h hb (by have := hq.len; omega))
  have HA := hid ha
  have hpl := H.lt
  have r2 : w.cell? ⟨p, 2, none⟩ = some v := by have := H.c2; simpa using this
  obtain ⟨ao, cap, hv⟩ := ints_val ha
  clear ha H
  cases hr : vr5.rowB d c xs
  · have HF := hid (la_no hr)
    rw [hr] at HI
    clear hr HTk HMd HA hq
    generalize xs.length = n at *
    subst hv
    go_enter Tryd.func39, Tryd.ntmps39
    go_wp2_with fail
    refine HI.out.mono ?_
    rintro e w1 ⟨rfl, rfl⟩
    go_wp2
    go_ret
    exact ⟨by rw [HF.out]; first | done | rfl, Below.refl _ _⟩
  · rw [hr] at HI
    cases h1 : decide (1 ≤ tkS xs ∧ tkS xs ≤ 8)
    · have HF := hid (la_bad hr (by simp only [laQ, h1, Bool.false_and]))
      have HW := hid (fun W => inQ (tkS xs) 1 8 false h1 W)
      clear hr hq h1 HMd
      generalize tkS xs = t at *
      obtain ⟨n, hn⟩ : ∃ n, n = xs.length := ⟨_, rfl⟩
      rw [← hn] at hv
      clear hn
      subst hv
      go_enter Tryd.func39, Tryd.ntmps39
      go_wp2_with fail
      refine HI.out.mono ?_
      rintro e w1 ⟨rfl, rfl⟩
      go_wp2_with fail
      refine (HTk.out _ HA.out hB).mono ?_
      rintro e w2 ⟨rfl, b2⟩
      have B2 := hid b2
      clear b2
      go_wp2_with fail
      refine (HW.out _).mono ?_
      rintro e w3 ⟨rfl, rfl⟩
      go_wp2
      go_ret
      exact ⟨by rw [HF.out]; first | done | rfl, B2.out⟩
    · have HW := hid (fun W => inQ (tkS xs) 1 8 true h1 W)
      obtain ⟨q, hqq⟩ : ∃ q, q = decide (1 ≤ mdS xs ∧ mdS xs ≤ 8) := ⟨_, rfl⟩
      have HW2 := hid (fun W => inQ (mdS xs) 1 8 q hqq.symm W)
      have hF : laC d c xs = if q = true then 0 else 10 := by
        cases q
        · rw [la_bad hr (by simp only [laQ, h1, ← hqq, Bool.true_and])]; rfl
        · rw [la_ok hr (by simp only [laQ, h1, ← hqq, Bool.true_and])]; rfl
      have HF := hid hF
      clear hr hq h1 hF hqq
      generalize tkS xs = t at *
      generalize mdS xs = u at *
      obtain ⟨n, hn⟩ : ∃ n, n = xs.length := ⟨_, rfl⟩
      rw [← hn] at hv
      clear hn
      subst hv
      go_enter Tryd.func39, Tryd.ntmps39
      go_wp2_with fail
      refine HI.out.mono ?_
      rintro e w1 ⟨rfl, rfl⟩
      go_wp2_with fail
      refine (HTk.out _ HA.out hB).mono ?_
      rintro e w2 ⟨rfl, b2⟩
      have B2 := hid b2
      have r4 := (b2.cell (p := ⟨p, 2, none⟩) hpl).trans r2
      have HA2 := hid (HA.out.chg (Chg.ofBelow (lo := 0) b2) (.inr (Nat.zero_le _)))
      have hs2 := b2.size
      clear b2
      go_wp2_with fail
      refine (HW.out _).mono ?_
      rintro e w3 ⟨rfl, rfl⟩
      go_wp2_with fail
      refine (HMd.out _ HA2.out (by omega)).mono ?_
      rintro e w3 ⟨rfl, b3⟩
      have B3 := hid (B2.out.trans (b3.mono hs2))
      clear b3
      go_wp2_with fail
      refine (HW2.out _).mono ?_
      rintro e w4 ⟨rfl, rfl⟩
      cases q
      · go_wp2
        go_ret
        exact ⟨by rw [HF.out]; first | done | rfl, B3.out⟩
      · go_wp2
        go_ret
        exact ⟨by rw [HF.out]; first | done | rfl, B3.out⟩

end Go.Proofs.YtbbnheiibkcgiaaDoor.rl
