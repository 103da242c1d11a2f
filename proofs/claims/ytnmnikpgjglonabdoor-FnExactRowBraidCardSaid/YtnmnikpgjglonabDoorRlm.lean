/-
  In one file: Rl1, Rl2, Rl3.
-/
import Derived.Test.YtnmnikpgjglonabDoorRl0
import Derived.Test.YtnmnikpgjglonabDoorMk1
import Derived.Test.YtnmnikpgjglonabDoorStb
/- Letters of a row: the program. -/
namespace Go.Proofs.YtnmnikpgjglonabDoor.rl
open Go.RowKit Go.Proofs.YtnmnikpgjglonabDoor.sl Go.Proofs.YtnmnikpgjglonabDoor.pm Go.Proofs.YtnmnikpgjglonabDoor.br Go.Proofs.YtnmnikpgjglonabDoor.bw Go.Proofs.YtnmnikpgjglonabDoor.st
set_option linter.unusedVariables false
set_option maxRecDepth 100000

theorem ints_cut {w : World} {B : Nat} {ao : Option Addr} {n c : Nat} {xs : List Int} (h : Ints w B (.slice ao n c) xs) (t : Nat) (ht : t ≤ xs.length) : Ints w B (.slice ao t c) (xs.take t) := by
  by_cases h0 : t = 0
  · subst h0; exact .inl ⟨by simp, ao, c, rfl⟩
  · rcases h with ⟨rfl, _⟩ | ⟨hp, b, off, cap, hv, hb, hc⟩
    · simp at ht; omega
    · simp only [Value.slice.injEq] at hv
      obtain ⟨rfl, hl, rfl⟩ := hv
      have hlt : (xs.take t).length = t := by rw [List.length_take]; omega
      refine .inr ⟨by omega, b, off, c, by rw [hlt], hb, fun j hj => ?_⟩
      rw [hlt] at hj
      rw [hc j (by omega)]
      simp [List.getD, hj]
theorem withinQ (c lo hi : Int) (q : Bool) (hq : decide (lo ≤ c ∧ c ≤ hi) = q) (w : World) : Calls Tryd.prog 55 #[.int .i64 c, .int .i64 lo, .int .i64 hi] w fun e w' => e = .returned (.bool q) ∧ w = w' := by
  rw [← hq]; exact within64 c lo hi w
theorem inQ (c lo hi : Int) (q : Bool) (hq : decide (lo ≤ c ∧ c ≤ hi) = q) (w : World) : Calls Tryd.prog 50 #[.int .i64 c, .int .i64 lo, .int .i64 hi] w fun e w' => e = .returned (.bool q) ∧ w = w' := by
  rw [← hq]; exact pm.specIn c lo hi w

theorem built2 (w : World) (o : Obj) : Own ((w.alloc o).alloc (.cells #[] 2)) (w.heap.size + 1) ((w.alloc o).alloc (.cells #[] 2)).heap.size (.slice (some ⟨w.heap.size + 1, 0, none⟩) 0 0) [] := by
  have h := Own.built (w.alloc o) #[] rfl
  have e : (w.alloc o).heap.size = w.heap.size + 1 := by simp
  rw [e] at h
  exact h
set_option maxHeartbeats 2000000 in
theorem implBlocks (k : Int) (hk : knd k = true) (w : World) : Calls Tryd.prog 116 #[.int .i64 k] w fun e w' => e = .returned (.tuple #[.int .i64 (cbN k : Int), .int .i64 (cbS k)]) ∧ w = w' := by
  have h := knd_iff.1 hk
  have h1 : k = 1 ∨ k = 2 ∨ k = 3 ∨ k = 4 ∨ k = 5 ∨ k = 6 ∨ k = 7 ∨ k = 8 ∨ k = 9 ∨ k = 10 ∨ k = 11 := by omega
  clear h hk
  rcases h1 with rfl | rfl | rfl | rfl | rfl | rfl | rfl | rfl | rfl | rfl | rfl
  all_goals
    go_enter Tryd.func116, Tryd.ntmps116
    go_wp2
    go_ret2
    exact ⟨rfl, rfl⟩

set_option maxHeartbeats 4000000 in
theorem implLet (d c : Int) (xs : List Int) (v : Value) (B : Nat) (w : World) (ha : l5.IntsC w B v xs) (hB : B ≤ w.heap.size) (hl : lst xs = true) (hT : stb.Tab w) :
    Calls Tryd.prog 78 #[.agg #[.int .i64 d, .int .i64 c, v]] w fun e w' => ∃ v', e = .returned v' ∧ sl.Own w' w.heap.size w'.heap.size v' (rlT xs xs.length) ∧ Below w.heap.size w w' := by
  have hn16 := (lst_parts hl).1
  have HK := hid (fun j h => (lst_parts hl).2 j h)
  have HTk := hid (fun k u W (hi : Ints W B u (xs.take k)) (hb : B ≤ W.heap.size) (ht : stb.Tab W) => implTakenBy (xs.take k) u B W hi hb (by rw [List.length_take]; omega) ht)
  have HTe := hid (fun k h => tk_take hl k h)
  have HSb := hid (fun k h => sF_tk hl k h)
  have HTab := hid hT
  have hai := ha.ints
  have hcap := ha.cap
  clear hT ha
  rcases hai with ⟨rfl, ao, cap, rfl⟩ | ⟨hp, b, off, cap, rfl, hbb, hc⟩
  · go_enter Tryd.func78, Tryd.ntmps78
    go_wp2
    refine wp_loop_rounds 1 ?_
    rw [rounds_succ]
    go_wp2
    go_ret
    exact ⟨_, rfl, (built2 w (.cells #[.int .i64 d, .int .i64 c, .slice ao 0 cap] 56)).lo (lo' := w.heap.size) (by omega), ((Below.refl w.heap.size w).alloc (Nat.le_refl _) _).alloc (by simp) _⟩
  · have HA := hid (show Ints w B (.slice (some ⟨b, off, none⟩) xs.length cap) xs from .inr ⟨hp, b, off, cap, rfl, hbb, hc⟩)
    obtain ⟨n, hnn⟩ : ∃ n, n = xs.length := ⟨_, rfl⟩
    have hcp := hcap _ _ _ rfl
    rw [← hnn] at hp hc hn16 HA hcp HK HTe HSb ⊢
    have HN := hid hnn
    have HC := hid hc
    clear hnn hc hcap hl
    have hb0 := ((Below.refl w.heap.size w).alloc (Nat.le_refl _) (.cells #[.int .i64 d, .int .i64 c, .slice (some ⟨b, off, none⟩) n cap] 56)).alloc (by simp) (.cells #[] 2)
    have HB0 := hid hb0
    have HO0 := hid (built2 w (.cells #[.int .i64 d, .int .i64 c, .slice (some ⟨b, off, none⟩) n cap] 56))
    have r2 : ((w.alloc (.cells #[.int .i64 d, .int .i64 c, .slice (some ⟨b, off, none⟩) n cap] 56)).alloc (.cells #[] 2)).cell? ⟨w.heap.size, 2, none⟩ = some (.slice (some ⟨b, off, none⟩) n cap) := (World.cell?_alloc_past _ _ _ (by simp)).trans (World.cell?_alloc_at _ _ _ _ rfl)
    have HR2 := hid r2
    clear hb0 r2
    go_enter Tryd.func78, Tryd.ntmps78
    go_wp2
    go_loopw [3, 12] (fun s i wr => ∃ k : Nat, k ≤ n ∧ i = .int .i64 k ∧ sl.Own wr (w.heap.size + 1) wr.heap.size s (rlT xs k) ∧ wr.cell? ⟨w.heap.size, 2, none⟩ = some (.slice (some ⟨b, off, none⟩) n cap) ∧ w.heap.size < wr.heap.size ∧ Below w.heap.size w wr) (fun _ i _ => n - (intOf i).toNat)
    case atStart => exact ⟨0, Nat.zero_le _, rfl, by rw [rlT_zero]; exact HO0.out, HR2.out, by simp; omega, HB0.out⟩
    case round =>
      obtain ⟨k, hk, rfl, hown, hr2, hsz, hbel⟩ := hrel
      have HO := hid hown
      have HB := hid hbel
      clear hown hbel HO0 HB0 HR2
      by_cases hlt : k < n
      · have h1 : wr.cell? ⟨b, off + k, none⟩ = some (.int .i64 (xs.getD k 0)) := (HB.out.cell (p := ⟨b, off + k, none⟩) (by show b < _; omega)).trans (HC.out k hlt)
        have hkx := HK.out k hlt
        have HX := hid (rlT_succ xs k)
        have hsb := HSb.out k hk
        have hl64 := rlT_len xs k
        have HTk1 := hid (HTk.out k (.slice (some ⟨b, off, none⟩) k cap) wr (ints_cut (HA.out.chg (Chg.ofBelow (lo := 0) HB.out) (.inr (Nat.zero_le _))) k (by rw [← HN.out]; exact hk)) (by omega) (stb.carry HTab.out HB.out))
        rw [HTe.out k hk] at HTk1
        generalize xs.getD k 0 = x at *
        have HBl := hid (fun W => implBlocks x hkx W)
        obtain ⟨t, ht⟩ : ∃ t, t = sF tk xs k := ⟨_, rfl⟩
        rw [← ht] at hsb HTk1 HX
        have HCr := hid (fun W => db.implCross (cbS x) t (cbN x) (cbN x) W (cbS_pm x) ⟨by omega, by omega⟩ (by have := cbN_le x; omega) (by have := cbN_le x; omega))
        have HLs : Hid (db.swO (cbS x) t (cbN x) (cbN x) = lsS x t) := hid (ls_same x t)
        have hls4 := lsS_len x t
        rw [HLs.out] at HCr
        clear ht hkx
        obtain ⟨L, hL⟩ : ∃ L, L = rlT xs k := ⟨_, rfl⟩
        rw [← hL] at HX hl64 HO
        clear hL
        generalize cbN x = q at *
        generalize cbS x = sg at *
        generalize lsS x t = ls at *
        go_wp2_with (first
          | (go_at_call 116; refine (HBl.out _).mono ?_; rintro e w1 ⟨rfl, rfl⟩)
          | (go_at_call 76; refine HTk1.out.mono ?_; rintro e w1 ⟨rfl, b1⟩; have HO1 := hid (HO.out.chg (Chg.ofBelow (lo := 0) b1) (.inr (.inr (Nat.zero_le _)))); have hz1 := b1.size; have hr3 := (b1.cell (p := ⟨w.heap.size, 2, none⟩) hsz).trans hr2; have HB1 := hid (HB.out.trans (b1.mono (by omega))); clear b1)
          | (go_at_call 117; refine (HCr.out _).mono ?_; rintro e w2 ⟨v2, rfl, o2, b2⟩; have HO2 := hid ((HO1.out.chg (Chg.ofBelow (lo := 0) b2) (.inr (.inr (Nat.zero_le _)))).hi (hi' := w2.heap.size) (by have := b2.size; omega) (Nat.le_refl _)); have hz2 := b2.size; have hr4 := (b2.cell (p := ⟨w.heap.size, 2, none⟩) (by show w.heap.size < w1.heap.size; omega)).trans hr3; have HB2 := hid (HB1.out.trans (b2.mono (by omega))); have HI2 := hid o2.ints; have HNi := hid (fn.nilok_own o2); have HL2 := hid (o2.lo (lo' := w1.heap.size) (Nat.le_refl _)); clear b2 o2)
          | (at_builtin; refine fn.wp_appendAll rfl _ _ rfl (w.heap.size + 1) w2.heap.size _ L HO2.out rfl _ ls w2.heap.size HI2.out HNi.out rfl (by omega) (by omega) ?_; intro v3 w3 o3 c3; have HO3 := hid o3; have HC3 := hid c3; clear o3 c3))
        have e3 : w3.cell? ⟨w.heap.size, 2, none⟩ = some (.slice (some ⟨b, off, none⟩) n cap) := (World.cell?_of_block (w := w2) (w' := w3) (a := ⟨w.heap.size, 2, none⟩) (HC3.out.block w.heap.size (by omega) (by omega))).trans hr4
        have hz3 := HC3.out.size
        have HB3 := hid (HB2.out.trans (HC3.out.below (by omega) (by omega)))
        go_roundw
        case rel => exact ⟨k + 1, by omega, by go_num, by rw [HX.out]; exact HO3.out, e3, by omega, HB3.out⟩
        case measure => simp [intOf]; omega
      · obtain rfl : k = n := by omega
        go_wp2
        go_ret
        exact ⟨_, rfl, HO.out.lo (by omega), HB.out⟩
end Go.Proofs.YtnmnikpgjglonabDoor.rl

/- Letters of a row: the program's RowLetters; the code of a row's layout on both sides. -/
namespace Go.Proofs.YtnmnikpgjglonabDoor.rl
open Go.RowKit Go.Proofs.YtnmnikpgjglonabDoor.sl Go.Proofs.YtnmnikpgjglonabDoor.pm Go.Proofs.YtnmnikpgjglonabDoor.br Go.Proofs.YtnmnikpgjglonabDoor.bw Go.Proofs.YtnmnikpgjglonabDoor.st
set_option linter.unusedVariables false
set_option maxRecDepth 100000

set_option maxHeartbeats 2000000 in
theorem implLay (d c : Int) (xs : List Int) (v : Value) (B : Nat) (w : World) (ha : Ints w B v xs) (hB : B ≤ w.heap.size) (hq : l5.Small xs) (hT : stb.Tab w) :
    Calls Tryd.prog 75 #[.agg #[.int .i64 d, .int .i64 c, v]] w fun e w' => e = .returned (.int .i64 (laC d c xs)) ∧ Below w.heap.size w w' := by
  have hal := hid ((Below.refl w.heap.size w).alloc (Nat.le_refl _) (.cells #[.int .i64 d, .int .i64 c, v] 56))
  have HI := hid (vr5.implVR d c xs v B (w.alloc (.cells #[.int .i64 d, .int .i64 c, v] 56)) (ints_al ha _) (by simp; omega) hq)
  have HTk := hid (fun W (h : Ints W B v xs) (hb : B ≤ W.heap.size) (ht : stb.Tab W) => implTakenBy xs v B W h hb (by have := hq.len; omega) ht)
  have HMd := hid (fun W (h : Ints W B v xs) (hb : B ≤ W.heap.size) (ht : stb.Tab W) => implMadeBy xs v B W h hb (by have := hq.len; omega) ht)
  have HA := hid (ints_al ha (.cells #[.int .i64 d, .int .i64 c, v] 56))
  have HTb := hid hT
  obtain ⟨ao, cap, hv⟩ := ints_val ha
  have r2 : (w.alloc (.cells #[.int .i64 d, .int .i64 c, v] 56)).cell? ⟨w.heap.size, 2, none⟩ = some v := World.cell?_alloc_at _ _ _ _ rfl
  clear hT ha
  cases hr : vr5.rowB d c xs
  · have HF := hid (la_no hr)
    rw [hr] at HI
    clear hr HTk HMd HA hq
    generalize xs.length = n at *
    subst hv
    go_enter Tryd.func75, Tryd.ntmps75
    go_wp2_with fail
    refine HI.out.mono ?_
    rintro e w1 ⟨rfl, b1⟩
    have B1 := hid (hal.out.trans (b1.mono hal.out.size))
    clear b1
    go_wp2
    go_ret
    exact ⟨by rw [HF.out]; first | done | rfl, B1.out⟩
  · rw [hr] at HI
    cases h1 : decide (1 ≤ tkS xs ∧ tkS xs ≤ 8)
    · have HF := hid (la_bad hr (by simp only [laQ, h1, Bool.false_and]))
      have HW := hid (fun W => withinQ (tkS xs) 1 8 false h1 W)
      clear hr hq h1 HMd
      generalize tkS xs = t at *
      obtain ⟨n, hn⟩ : ∃ n, n = xs.length := ⟨_, rfl⟩
      rw [← hn] at hv
      clear hn
      subst hv
      go_enter Tryd.func75, Tryd.ntmps75
      go_wp2_with fail
      refine HI.out.mono ?_
      rintro e w1 ⟨rfl, b1⟩
      have B1 := hid (hal.out.trans (b1.mono hal.out.size))
      have r3 := (b1.cell (p := ⟨w.heap.size, 2, none⟩) (by simp)).trans r2
      have HA1 := hid (HA.out.chg (Chg.ofBelow (lo := 0) b1) (.inr (Nat.zero_le _)))
      have hs1 := B1.out.size
      clear b1
      go_wp2_with fail
      refine (HTk.out _ HA1.out (by omega) (stb.carry HTb.out B1.out)).mono ?_
      rintro e w2 ⟨rfl, b2⟩
      have B2 := hid (B1.out.trans (b2.mono hs1))
      clear b2
      go_wp2_with fail
      refine (HW.out _).mono ?_
      rintro e w3 ⟨rfl, rfl⟩
      go_wp2
      go_ret
      exact ⟨by rw [HF.out]; first | done | rfl, B2.out⟩
    · have HW := hid (fun W => withinQ (tkS xs) 1 8 true h1 W)
      obtain ⟨q, hqq⟩ : ∃ q, q = decide (1 ≤ mdS xs ∧ mdS xs ≤ 8) := ⟨_, rfl⟩
      have HW2 := hid (fun W => withinQ (mdS xs) 1 8 q hqq.symm W)
      have hF : laC d c xs = if q = true then 0 else 10 := by
        cases q
        · rw [la_bad hr (by simp only [laQ, h1, ← hqq, Bool.true_and])]; rfl
        · rw [la_ok hr (by simp only [laQ, h1, ← hqq, Bool.true_and])]; rfl
      have HF := hid hF
      clear hr hq h1 hF hqq
      generalize tkS xs = t at *
      generalize mdS xs = u at *
      obtain ⟨n, hn⟩ : ∃ n, n = xs.length := ⟨_, rfl⟩
      rw [← hn] at hv
      clear hn
      subst hv
      go_enter Tryd.func75, Tryd.ntmps75
      go_wp2_with fail
      refine HI.out.mono ?_
      rintro e w1 ⟨rfl, b1⟩
      have B1 := hid (hal.out.trans (b1.mono hal.out.size))
      have r3 := (b1.cell (p := ⟨w.heap.size, 2, none⟩) (by simp)).trans r2
      have HA1 := hid (HA.out.chg (Chg.ofBelow (lo := 0) b1) (.inr (Nat.zero_le _)))
      have hs1 := B1.out.size
      have hlt1 : w.heap.size < w1.heap.size := by have := b1.size; simp at this; omega
      clear b1
      go_wp2_with fail
      refine (HTk.out _ HA1.out (by omega) (stb.carry HTb.out B1.out)).mono ?_
      rintro e w2 ⟨rfl, b2⟩
      have B2 := hid (B1.out.trans (b2.mono hs1))
      have r4 := (b2.cell (p := ⟨w.heap.size, 2, none⟩) hlt1).trans r3
      have HA2 := hid (HA1.out.chg (Chg.ofBelow (lo := 0) b2) (.inr (Nat.zero_le _)))
      have hs2 := B2.out.size
      clear b2
      go_wp2_with fail
      refine (HW.out _).mono ?_
      rintro e w3 ⟨rfl, rfl⟩
      go_wp2_with fail
      refine (HMd.out _ HA2.out (by omega) (stb.carry HTb.out B2.out)).mono ?_
      rintro e w3 ⟨rfl, b3⟩
      have B3 := hid (B2.out.trans (b3.mono hs2))
      clear b3
      go_wp2_with fail
      refine (HW2.out _).mono ?_
      rintro e w4 ⟨rfl, rfl⟩
      cases q
      · go_wp2
        go_ret
        exact ⟨by rw [HF.out]; first | done | rfl, B3.out⟩
      · go_wp2
        go_ret
        exact ⟨by rw [HF.out]; first | done | rfl, B3.out⟩

set_option maxHeartbeats 2000000 in
theorem specLay (d c : Int) (xs : List Int) (v : Value) (B p : Nat) (w : World) (H : ro.At w p 0 ⟨d, c, xs⟩ v) (ha : Ints w B v xs) (hB : B ≤ w.heap.size) (hq : l5.Small xs) :
    Calls Tryd.prog 69 #[.pointer (some ⟨p, 0, none⟩)] w fun e w' => e = .returned (.int .i64 (laC d c xs)) ∧ Below w.heap.size w w' := by
  have HI := hid (vr5.specRow d c xs v B p 0 w H ha hB (by have := hq.len; omega))
  have HTk := hid (fun W (h : Ints W B v xs) (hb : B ≤ W.heap.size) => specTakenBy xs v B W h hb (by have := hq.len; omega))
  have HMd := hid (fun W (h : Ints W B v xs) (hb : B ≤ W.heap.size) => specMadeBy xs v B W h hb (by have := hq.len; omega))
  have HA := hid ha
  have hpl := H.lt
  have r2 : w.cell? ⟨p, 2, none⟩ = some v := by have := H.c2; simpa using this
  obtain ⟨ao, cap, hv⟩ := ints_val ha
  clear ha H
  cases hr : vr5.rowB d c xs
  · have HF := hid (la_no hr)
    rw [hr] at HI
    clear hr HTk HMd HA hq
    generalize xs.length = n at *
    subst hv
    go_enter Tryd.func69, Tryd.ntmps69
    go_wp2_with fail
    refine HI.out.mono ?_
    rintro e w1 ⟨rfl, rfl⟩
    go_wp2
    go_ret
    exact ⟨by rw [HF.out]; first | done | rfl, Below.refl _ _⟩
  · rw [hr] at HI
    cases h1 : decide (1 ≤ tkS xs ∧ tkS xs ≤ 8)
    · have HF := hid (la_bad hr (by simp only [laQ, h1, Bool.false_and]))
      have HW := hid (fun W => inQ (tkS xs) 1 8 false h1 W)
      clear hr hq h1 HMd
      generalize tkS xs = t at *
      obtain ⟨n, hn⟩ : ∃ n, n = xs.length := ⟨_, rfl⟩
      rw [← hn] at hv
      clear hn
      subst hv
      go_enter Tryd.func69, Tryd.ntmps69
      go_wp2_with fail
      refine HI.out.mono ?_
      rintro e w1 ⟨rfl, rfl⟩
      go_wp2_with fail
      refine (HTk.out _ HA.out hB).mono ?_
      rintro e w2 ⟨rfl, b2⟩
      have B2 := hid b2
      clear b2
      go_wp2_with fail
      refine (HW.out _).mono ?_
      rintro e w3 ⟨rfl, rfl⟩
      go_wp2
      go_ret
      exact ⟨by rw [HF.out]; first | done | rfl, B2.out⟩
    · have HW := hid (fun W => inQ (tkS xs) 1 8 true h1 W)
      obtain ⟨q, hqq⟩ : ∃ q, q = decide (1 ≤ mdS xs ∧ mdS xs ≤ 8) := ⟨_, rfl⟩
      have HW2 := hid (fun W => inQ (mdS xs) 1 8 q hqq.symm W)
      have hF : laC d c xs = if q = true then 0 else 10 := by
        cases q
        · rw [la_bad hr (by simp only [laQ, h1, ← hqq, Bool.true_and])]; rfl
        · rw [la_ok hr (by simp only [laQ, h1, ← hqq, Bool.true_and])]; rfl
      have HF := hid hF
      clear hr hq h1 hF hqq
      generalize tkS xs = t at *
      generalize mdS xs = u at *
      obtain ⟨n, hn⟩ : ∃ n, n = xs.length := ⟨_, rfl⟩
      rw [← hn] at hv
      clear hn
      subst hv
      go_enter Tryd.func69, Tryd.ntmps69
      go_wp2_with fail
      refine HI.out.mono ?_
      rintro e w1 ⟨rfl, rfl⟩
      go_wp2_with fail
      refine (HTk.out _ HA.out hB).mono ?_
      rintro e w2 ⟨rfl, b2⟩
      have B2 := hid b2
      have r4 := (b2.cell (p := ⟨p, 2, none⟩) hpl).trans r2
      have HA2 := hid (HA.out.chg (Chg.ofBelow (lo := 0) b2) (.inr (Nat.zero_le _)))
      have hs2 := b2.size
      clear b2
      go_wp2_with fail
      refine (HW.out _).mono ?_
      rintro e w3 ⟨rfl, rfl⟩
      go_wp2_with fail
      refine (HMd.out _ HA2.out (by omega)).mono ?_
      rintro e w3 ⟨rfl, b3⟩
      have B3 := hid (B2.out.trans (b3.mono hs2))
      clear b3
      go_wp2_with fail
      refine (HW2.out _).mono ?_
      rintro e w4 ⟨rfl, rfl⟩
      cases q
      · go_wp2
        go_ret
        exact ⟨by rw [HF.out]; first | done | rfl, B3.out⟩
      · go_wp2
        go_ret
        exact ⟨by rw [HF.out]; first | done | rfl, B3.out⟩

end Go.Proofs.YtnmnikpgjglonabDoor.rl

/- Letters of a row: the model. -/
namespace Go.Proofs.YtnmnikpgjglonabDoor.rl
open Go.RowKit Go.Proofs.YtnmnikpgjglonabDoor.sl Go.Proofs.YtnmnikpgjglonabDoor.pm Go.Proofs.YtnmnikpgjglonabDoor.br Go.Proofs.YtnmnikpgjglonabDoor.bw Go.Proofs.YtnmnikpgjglonabDoor.st
set_option linter.unusedVariables false
set_option maxRecDepth 100000

theorem own_made (W : World) (xs : List Int) (cs : Array Value) (h : cs.toList = xs.map (Value.int .i64)) (hn : xs.length ≤ 1048576) : Own (W.alloc (.cells cs 2)) W.heap.size (W.alloc (.cells cs 2)).heap.size (.slice (some ⟨W.heap.size, 0, none⟩) xs.length xs.length) xs := by
  have hs : cs.size = xs.length := by rw [← Array.length_toList, h, List.length_map]
  refine Own.mk' ⟨by simp, .inr ⟨W.heap.size, xs.length, cs, rfl, Nat.le_refl _, heap_alloc_new W _, Nat.le_refl _, by unfold maxLen; omega, by rw [hs]; omega, ?_⟩⟩
  rw [Nat.mul_one, List.take_of_length_le (by rw [h, List.length_map]; exact Nat.le_refl _), h]

set_option maxHeartbeats 4000000 in
theorem specStitch (k c : Int) (hk : knd k = true) (hc : 0 ≤ c ∧ c ≤ 1000) (w : World) :
    Calls Tryd.prog 104 #[.int .i64 k, .int .i64 c] w fun e w' => ∃ v', e = .returned v' ∧ sl.Own w' w.heap.size w'.heap.size v' (lsS k c) ∧ Below w.heap.size w w' := by
  have h := knd_iff.1 hk
  have h1 : k = 1 ∨ k = 2 ∨ k = 3 ∨ k = 4 ∨ k = 5 ∨ k = 6 ∨ k = 7 ∨ k = 8 ∨ k = 9 ∨ k = 10 ∨ k = 11 := by omega
  have HL := hid (rfl : lsS k c = lsS k c)
  have hbA := hid (fun o => (Below.refl w.heap.size w).alloc (Nat.le_refl _) o)
  clear h hk
  by_cases h8 : k = 8
  · subst h8
    have HO := hid (own_made w [c + 1] #[.int .i64 (c + 1)] (by simp) (by simp))
    have HE : Hid (lsS 8 c = [c + 1]) := hid (by simp [lsS])
    go_enter Tryd.func104, Tryd.ntmps104
    go_wp2
    go_ret
    exact ⟨_, rfl, by rw [HE.out]; exact HO.out, hbA.out _⟩
  · by_cases h9 : k = 9 ∨ k = 5
    · have HO := hid (own_made w [-c - 1] #[.int .i64 (-c - 1)] (by simp) (by simp))
      have HE : Hid (lsS k c = [-c - 1]) := hid (by rw [lsS, if_neg h8, if_pos h9])
      clear h1 h8
      rcases h9 with rfl | rfl
      all_goals
        go_enter Tryd.func104, Tryd.ntmps104
        go_wp2
        go_ret
        exact ⟨_, rfl, by rw [HE.out]; exact HO.out, hbA.out _⟩
    · by_cases h10 : k = 10
      · subst h10
        have HO := hid (own_made w [c + 2, c + 1, c + 3, c + 2] #[.int .i64 (c + 2), .int .i64 (c + 1), .int .i64 (c + 3), .int .i64 (c + 2)] (by simp) (by simp))
        have HE : Hid (lsS 10 c = [c + 2, c + 1, c + 3, c + 2]) := hid (by simp [lsS])
        clear h1 h8 h9
        go_enter Tryd.func104, Tryd.ntmps104
        go_wp2
        go_ret
        exact ⟨_, rfl, by rw [HE.out]; exact HO.out, hbA.out _⟩
      · by_cases h11 : k = 11
        · subst h11
          have HO := hid (own_made w [-c - 2, -c - 1, -c - 3, -c - 2] #[.int .i64 (-c - 2), .int .i64 (-c - 1), .int .i64 (-c - 3), .int .i64 (-c - 2)] (by simp) (by simp))
          have HE : Hid (lsS 11 c = [-c - 2, -c - 1, -c - 3, -c - 2]) := hid (by simp [lsS])
          clear h1 h8 h9 h10
          go_enter Tryd.func104, Tryd.ntmps104
          go_wp2
          go_ret
          exact ⟨_, rfl, by rw [HE.out]; exact HO.out, hbA.out _⟩
        · have HE : Hid (lsS k c = []) := hid (by rw [lsS, if_neg h8, if_neg h9, if_neg h10, if_neg h11])
          have e8 : (k == 8) = false := by simpa using h8
          have e9 : (k == 9) = false := by simp; omega
          have e5 : (k == 5) = false := by simp; omega
          have e10 : (k == 10) = false := by simpa using h10
          have e11 : (k == 11) = false := by simpa using h11
          clear h1 h8 h9 h10 h11
          go_enter Tryd.func104, Tryd.ntmps104
          go_wp2
          go_ret
          exact ⟨_, rfl, by rw [HE.out]; exact Own.nil _ _, Below.refl _ _⟩

set_option maxHeartbeats 4000000 in
theorem specLet (xs : List Int) (v : Value) (B p : Nat) (w : World) (hp2 : w.cell? ⟨p, 2, none⟩ = some v) (hpl : p < w.heap.size) (ha : Ints w B v xs) (hB : B ≤ w.heap.size) (hl : lst xs = true) :
    Calls Tryd.prog 72 #[.pointer (some ⟨p, 0, none⟩)] w fun e w' => ∃ v', e = .returned v' ∧ sl.Own w' w.heap.size w'.heap.size v' (rlT xs xs.length) ∧ Below w.heap.size w w' := by
  have hn16 := (lst_parts hl).1
  have HK := hid (fun j h => (lst_parts hl).2 j h)
  have HSb := hid (fun k h => sF_tk hl k h)
  have HSs := hid (fun k h => sF_succ tk xs k h)
  rcases ha with ⟨rfl, ao, cap, rfl⟩ | ⟨hp, b, off, cap, rfl, hbb, hc⟩
  · have r2 := (((Below.refl w.heap.size w).alloc (Nat.le_refl _) (.cells #[] 2)).cell (p := ⟨p, 2, none⟩) hpl).trans hp2
    go_enter Tryd.func72, Tryd.ntmps72
    go_wp2
    refine wp_loop_rounds 1 ?_
    rw [rounds_succ]
    go_wp2
    go_ret
    exact ⟨_, rfl, Own.built w #[] rfl, (Below.refl w.heap.size w).alloc (Nat.le_refl _) _⟩
  · obtain ⟨n, hnn⟩ : ∃ n, n = xs.length := ⟨_, rfl⟩
    rw [← hnn] at hp hc hn16 HK HSb HSs hp2 ⊢
    have HN := hid hnn
    have HC := hid hc
    clear hnn hc hl
    go_enter Tryd.func72, Tryd.ntmps72
    go_wp2
    go_loopw [3, 4, 5] (fun s t i wr => ∃ k : Nat, k ≤ n ∧ i = .int .i64 k ∧ t = .int .i64 (sF tk xs k) ∧ sl.Own wr w.heap.size wr.heap.size s (rlT xs k) ∧ Below w.heap.size w wr) (fun _ _ i _ => n - (intOf i).toNat)
    case atStart => exact ⟨0, Nat.zero_le _, rfl, rfl, Own.built w #[] rfl, (Below.refl w.heap.size w).alloc (Nat.le_refl _) _⟩
    case round =>
      obtain ⟨k, hk, rfl, rfl, hown, hbel⟩ := hrel
      have HO := hid hown
      have HB := hid hbel
      have hsz := hbel.size
      have r2 := (hbel.cell (p := ⟨p, 2, none⟩) hpl).trans hp2
      clear hown hbel
      by_cases hlt : k < n
      · have h1 : wr.cell? ⟨b, off + k, none⟩ = some (.int .i64 (xs.getD k 0)) := (HB.out.cell (p := ⟨b, off + k, none⟩) (by show b < _; omega)).trans (HC.out k hlt)
        have hkx := HK.out k hlt
        have HX := hid (rlT_succ xs k)
        have HS1 := hid (HSs.out k hlt)
        have hsb := HSb.out k hk
        have hl64 := rlT_len xs k
        have HTa := hid (fun W => specTaken (xs.getD k 0) W)
        have htb := tk_bound hkx
        obtain ⟨t, ht⟩ : ∃ t, t = sF tk xs k := ⟨_, rfl⟩
        rw [← ht] at hsb HX HS1 ⊢
        have HSt := hid (fun W => specStitch (xs.getD k 0) t hkx ⟨by omega, by omega⟩ W)
        have hls4 := lsS_len (xs.getD k 0) t
        clear ht hkx
        obtain ⟨L, hL⟩ : ∃ L, L = rlT xs k := ⟨_, rfl⟩
        rw [← hL] at HX hl64 HO
        clear hL
        generalize lsS (xs.getD k 0) t = ls at *
        generalize tk (xs.getD k 0) = tx at *
        generalize xs.getD k 0 = x at *
        go_wp2_with (first
          | (go_at_call 104; refine (HSt.out _).mono ?_; rintro e w2 ⟨v2, rfl, o2, b2⟩; have HO2 := hid ((HO.out.chg (Chg.ofBelow (lo := 0) b2) (.inr (.inr (Nat.zero_le _)))).hi (hi' := w2.heap.size) b2.size (Nat.le_refl _)); have hz2 := b2.size; have r3 := (b2.cell (p := ⟨p, 2, none⟩) (by show p < wr.heap.size; omega)).trans r2; have h3 := (b2.cell (p := ⟨b, off + k, none⟩) (by show b < wr.heap.size; omega)).trans h1; have HB2 := hid (HB.out.trans (b2.mono hsz)); have HI2 := hid o2.ints; have HNi := hid (fn.nilok_own o2); clear b2 o2)
          | (at_builtin; refine fn.wp_appendAll rfl _ _ rfl w.heap.size w2.heap.size _ L HO2.out rfl _ ls w2.heap.size HI2.out HNi.out rfl (by omega) (by omega) ?_; intro v3 w3 o3 c3; have HO3 := hid o3; have r4 := (World.cell?_of_block (w := w2) (w' := w3) (a := ⟨p, 2, none⟩) (c3.block p (by omega) (by omega))).trans r3; have h4 := (World.cell?_of_block (w := w2) (w' := w3) (a := ⟨b, off + k, none⟩) (c3.block b (by omega) (by omega))).trans h3; have HB3 := hid (HB2.out.trans (c3.below (by omega) (by omega))); clear o3 c3)
          | (go_at_call 101; refine (HTa.out _).mono ?_; rintro e w4 ⟨rfl, b4⟩; have HO4 := hid ((HO3.out.chg (Chg.ofBelow (lo := 0) b4) (.inr (.inr (Nat.zero_le _)))).hi (hi' := w4.heap.size) b4.size (Nat.le_refl _)); have HB4 := hid (HB3.out.trans (b4.mono HB3.out.size)); clear b4))
        go_roundw
        case rel => exact ⟨k + 1, by omega, by go_num, by rw [HS1.out], by rw [HX.out]; exact HO4.out, HB4.out⟩
        case measure => simp [intOf]; omega
      · obtain rfl : k = n := by omega
        go_wp2
        go_ret
        exact ⟨_, rfl, HO.out, HB.out⟩

end Go.Proofs.YtnmnikpgjglonabDoor.rl
