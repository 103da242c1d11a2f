/-
  Letters of a row: the model.
-/
import Derived.Test.YtiacfejileeieaaDoorRl2
namespace Go.Proofs.YtiacfejileeieaaDoor.rl
open Go.RowKit Go.Proofs.YtiacfejileeieaaDoor.sl Go.Proofs.YtiacfejileeieaaDoor.pm Go.Proofs.YtiacfejileeieaaDoor.br Go.Proofs.YtiacfejileeieaaDoor.bw Go.Proofs.YtiacfejileeieaaDoor.st
set_option linter.unusedVariables false
set_option maxRecDepth 100000

theorem own_made (W : World) (xs : List Int) (cs : Array Value) (h : cs.toList = xs.map (Value.int .i64)) (hn : xs.length ≤ 1048576) : Own (W.alloc (.cells cs 2)) W.heap.size (W.alloc (.cells cs 2)).heap.size (.slice (some ⟨W.heap.size, 0, none⟩) xs.length xs.length) xs := by
  have hs : cs.size = xs.length := by rw [← Array.length_toList, h, List.length_map]
  refine Own.mk' ⟨by simp, .inr ⟨W.heap.size, xs.length, cs, rfl, Nat.le_refl _, heap_alloc_new W _, Nat.le_refl _, by unfold maxLen; omega, by rw [hs]; omega, ?_⟩⟩
  rw [Nat.mul_one, List.take_of_length_le (by rw [h, List.length_map]; exact Nat.le_refl _), h]

set_option maxHeartbeats 4000000 in
theorem specStitch (k c : Int) (hk : knd k = true) (hc : 0 ≤ c ∧ c ≤ 1000) (w : World) :
    Calls Tryd.prog 47 #[.int .i64 k, .int .i64 c] w fun e w' => ∃ v', e = .returned v' ∧ sl.Own w' w.heap.size w'.heap.size v' (lsS k c) ∧ Below w.heap.size w w' := by
  have h := knd_iff.1 hk
  have h1 : k = 1 ∨ k = 2 ∨ k = 3 ∨ k = 4 ∨ k = 5 ∨ k = 6 ∨ k = 7 ∨ k = 8 ∨ k = 9 ∨ k = 10 ∨ k = 11 := by omega
  have HL := hid (rfl : lsS k c = lsS k c)
  have hbA := hid (fun o => (Below.refl w.heap.size w).alloc (Nat.le_refl _) o)
  clear h hk
  by_cases h8 : k = 8
  · subst h8
    have HO := hid (own_made w [c + 1] #[.int .i64 (c + 1)] (by simp) (by simp))
    have HE : Hid (lsS 8 c = [c + 1]) := hid (by simp [lsS])
    go_enter Tryd.func47, Tryd.ntmps47
    go_wp2
    go_ret
    exact ⟨_, rfl, by rw [HE.out]; exact HO.out, hbA.out _⟩
  · by_cases h9 : k = 9 ∨ k = 5
    · have HO := hid (own_made w [-c - 1] #[.int .i64 (-c - 1)] (by simp) (by simp))
      have HE : Hid (lsS k c = [-c - 1]) := hid (by rw [lsS, if_neg h8, if_pos h9])
      clear h1 h8
      rcases h9 with rfl | rfl
      all_goals
        go_enter Tryd.func47, Tryd.ntmps47
        go_wp2
        go_ret
        exact ⟨_, rfl, by rw [HE.out]; exact HO.out, hbA.out _⟩
    · by_cases h10 : k = 10
      · subst h10
        have HO := hid (own_made w [c + 2, c + 1, c + 3, c + 2] #[.int .i64 (c + 2), .int .i64 (c + 1), .int .i64 (c + 3), .int .i64 (c + 2)] (by simp) (by simp))
        have HE : Hid (lsS 10 c = [c + 2, c + 1, c + 3, c + 2]) := hid (by simp [lsS])
        clear h1 h8 h9
        go_enter Tryd.func47, Tryd.ntmps47
        go_wp2
        go_ret
        exact ⟨_, rfl, by rw [HE.out]; exact HO.out, hbA.out _⟩
      · by_cases h11 : k = 11
        · subst h11
          have HO := hid (own_made w [-c - 2, -c - 1, -c - 3, -c - 2] #[.int .i64 (-c - 2), .int .i64 (-c - 1), .int .i64 (-c - 3), .int .i64 (-c - 2)] (by simp) (by simp))
          have HE : Hid (lsS 11 c = [-c - 2, -c - 1, -c - 3, -c - 2]) := hid (by simp [lsS])
          clear h1 h8 h9 h10
          go_enter Tryd.func47, Tryd.ntmps47
          go_wp2
          go_ret
          exact ⟨_, rfl, by rw [HE.out]; exact HO.out, hbA.out _⟩
        · have HE : Hid (lsS k c = []) := hid (by rw [lsS, if_neg h8, if_neg h9, if_neg h10, if_neg h11])
          have e8 : (k == 8) = false := by simpa using h8
          have e9 : (k == 9) = false := by simp; omega
          have e5 : (k == 5) = false := by simp; omega
          have e10 : (k == 10) = false := by simpa using h10
          have e11 : (k == 11) = false := by simpa using h11
          clear h1 h8 h9 h10 h11
          go_enter Tryd.func47, Tryd.ntmps47
          go_wp2
          go_ret
          exact ⟨_, rfl, by rw [HE.out]; exact Own.nil _ _, Below.refl _ _⟩

set_option maxHeartbeats 4000000 in
theorem specLet (xs : List Int) (v : Value) (B p : Nat) (w : World) (hp2 : w.cell? ⟨p, 2, none⟩ = some v) (hpl : p < w.heap.size) (ha : Ints w B v xs) (hB : B ≤ w.heap.size) (hl : lst xs = true) :
    Calls Tryd.prog 28 #[.pointer (some ⟨p, 0, none⟩)] w fun e w' => ∃ v', e = .returned v' ∧ sl.Own w' w.heap.size w'.heap.size v' (rlT xs xs.length) ∧ Below w.heap.size w w' := by
  have hn16 := (lst_parts hl).1
  have HK := hid (fun j h => (lst_parts hl).2 j h)
  have HSb := hid (fun k h => sF_tk hl k h)
  have HSs := hid (fun k h => sF_succ tk xs k h)
  rcases ha with ⟨rfl, ao, cap, rfl⟩ | ⟨hp, b, off, cap, rfl, hbb, hc⟩
  · have r2 := (((Below.refl w.heap.size w).alloc (Nat.le_refl _) (.cells #[] 2)).cell (p := ⟨p, 2, none⟩) hpl).trans hp2
    go_enter Tryd.func28, Tryd.ntmps28
    go_wp2
    refine wp_loop_rounds 1 ?_
    rw [rounds_succ]
    go_wp2
    go_ret
    exact ⟨_, rfl, Own.built w #[] rfl, (Below.refl w.heap.size w).alloc (Nat.le_refl _) _⟩
  · obtain ⟨n, hnn⟩ : ∃ n, n = xs.length := ⟨_, rfl⟩
    rw [← hnn] at hp hc hn16 HK HSb HSs hp2 ⊢
    have HN := hid hnn
    have HC := hid hc
    clear hnn hc hl
    go_enter Tryd.func28, Tryd.ntmps28
    go_wp2
    go_loopw [3, 4, 5] (fun s t i wr => ∃ k : Nat, k ≤ n ∧ i = .int .i64 k ∧ t = .int .i64 (sF tk xs k) ∧ Own wr w.heap.size wr.heap.size s (rlT xs k) ∧ Below w.heap.size w wr) (fun _ _ i _ => n - (intOf i).toNat)
    case atStart => exact ⟨0, Nat.zero_le _, rfl, rfl, Own.built w #[] rfl, (Below.refl w.heap.size w).alloc (Nat.le_refl _) _⟩
    case round =>
      obtain ⟨k, hk, rfl, rfl, hown, hbel⟩ := hrel
      have HO := hid hown
      have HB := hid hbel
      have hsz := hbel.size
      have r2 := (hbel.cell (p := ⟨p, 2, none⟩) hpl).trans hp2
      clear hown hbel
      by_cases hlt : k < n
      · have h1 : wr.cell? ⟨b, off + k, none⟩ = some (.int .i64 (xs.getD k 0)) := (HB.out.cell (p := ⟨b, off + k, none⟩) (by show b < _; omega)).trans (HC.out k hlt)
        have hkx := HK.out k hlt
        have HX := hid (rlT_succ xs k)
        have HS1 := hid (HSs.out k hlt)
        have hsb := HSb.out k hk
        have hl64 := rlT_len xs k
        have HTa := hid (fun W => specTaken (xs.getD k 0) W)
        have htb := tk_bound hkx
        obtain ⟨t, ht⟩ : ∃ t, t = sF tk xs k := ⟨_, rfl⟩
        rw [← ht] at hsb HX HS1 ⊢
        have HSt := hid (fun W => specStitch (xs.getD k 0) t hkx ⟨by omega, by omega⟩ W)
        have hls4 := lsS_len (xs.getD k 0) t
        clear ht hkx
        obtain ⟨L, hL⟩ : ∃ L, L = rlT xs k := ⟨_, rfl⟩
        rw [← hL] at HX hl64 HO
        clear hL
        generalize lsS (xs.getD k 0) t = ls at *
        generalize tk (xs.getD k 0) = tx at *
        generalize xs.getD k 0 = x at *
        go_wp2_with (first
          | (go_at_call 47; refine (HSt.out _).mono ?_; rintro e w2 ⟨v2, rfl, o2, b2⟩; have HO2 := hid ((HO.out.chg (Chg.ofBelow (lo := 0) b2) (.inr (.inr (Nat.zero_le _)))).hi (hi' := w2.heap.size) b2.size (Nat.le_refl _)); have hz2 := b2.size; have r3 := (b2.cell (p := ⟨p, 2, none⟩) (by show p < wr.heap.size; omega)).trans r2; have h3 := (b2.cell (p := ⟨b, off + k, none⟩) (by show b < wr.heap.size; omega)).trans h1; have HB2 := hid (HB.out.trans (b2.mono hsz)); have HI2 := hid o2.ints; have HNi := hid (fn.nilok_own o2); clear b2 o2)
          | (at_builtin; refine fn.wp_appendAll rfl _ _ rfl w.heap.size w2.heap.size _ L HO2.out rfl _ ls w2.heap.size HI2.out HNi.out rfl (by omega) (by omega) ?_; intro v3 w3 o3 c3; have HO3 := hid o3; have r4 := (World.cell?_of_block (w := w2) (w' := w3) (a := ⟨p, 2, none⟩) (c3.block p (by omega) (by omega))).trans r3; have h4 := (World.cell?_of_block (w := w2) (w' := w3) (a := ⟨b, off + k, none⟩) (c3.block b (by omega) (by omega))).trans h3; have HB3 := hid (HB2.out.trans (c3.below (by omega) (by omega))); clear o3 c3)
          | (go_at_call 48; refine (HTa.out _).mono ?_; rintro e w4 ⟨rfl, b4⟩; have HO4 := hid ((HO3.out.chg (Chg.ofBelow (lo := 0) b4) (.inr (.inr (Nat.zero_le _)))).hi (hi' := w4.heap.size) b4.size (Nat.le_refl _)); have HB4 := hid (HB3.out.trans (b4.mono HB3.out.size)); clear b4))
        go_roundw
        case rel => exact ⟨k + 1, by omega, by go_num, by rw [HS1.out], by rw [HX.out]; exact HO4.out, HB4.out⟩
        case measure => simp [intOf]; omega
      · obtain rfl : k = n := by omega
        go_wp2
        go_ret
        exact ⟨_, rfl, HO.out, HB.out⟩

theorem specRL (d c : Int) (xs : List Int) (v : Value) (B : Nat) (w : World) (ha : l5.IntsC w B v xs) (hB : B ≤ w.heap.size) (hq : l5.Small xs) :
    Calls Tryd.prog 7 #[.agg #[.int .i64 d, .int .i64 c, v]] w fun e w' => ∃ v', e = .returned (.tuple #[v', .int .i64 (laC d c xs)]) ∧ sl.Own w' w.heap.size w'.heap.size v' (rlW d c xs) ∧ Below w.heap.size w w' := by
  have hb0 := (Below.refl w.heap.size w).alloc (Nat.le_refl _) (.cells #[.int .i64 d, .int .i64 c, v] 28)
  have hal := hid hb0
  have HA := hid (ints_al ha.ints (.cells #[.int .i64 d, .int .i64 c, v] 28))
  have HI := hid (specLay d c xs v B w.heap.size (w.alloc (.cells #[.int .i64 d, .int .i64 c, v] 28)) ⟨by simp, World.cell?_alloc_at _ _ _ _ rfl, World.cell?_alloc_at _ _ _ _ rfl, World.cell?_alloc_at _ _ _ _ rfl⟩ HA.out (by simp; omega) hq)
  obtain ⟨ao, cap, hv⟩ := ints_val ha.ints
  have k2 : (w.alloc (.cells #[.int .i64 d, .int .i64 c, v] 28)).cell? ⟨w.heap.size, 2, none⟩ = some v := World.cell?_alloc_at _ _ _ _ rfl
  clear ha hb0
  by_cases h0 : laC d c xs = 0
  · have hrow : vr5.rowB d c xs = true := by
      cases hr : vr5.rowB d c xs
      · rw [la_no hr] at h0; omega
      · rfl
    have HL := hid (fun W (c2 : W.cell? ⟨w.heap.size, 2, none⟩ = some v) (hl : w.heap.size < W.heap.size) (h : Ints W B v xs) (hb : B ≤ W.heap.size) => specLet xs v B w.heap.size W c2 hl h hb (row_lst hrow))
    have HW : Hid (rlW d c xs = rlT xs xs.length) := hid (by rw [rlW, if_pos h0])
    have HC := hid h0
    rw [h0] at HI
    rw [HW.out, HC.out]
    clear h0 hrow hq HW HC
    generalize rlT xs xs.length = L at *
    obtain ⟨n, hn⟩ : ∃ n, n = xs.length := ⟨_, rfl⟩
    rw [← hn] at hv
    clear hn
    subst hv
    go_enter Tryd.func7, Tryd.ntmps7
    go_wp2_with fail
    refine HI.out.mono ?_
    rintro e w1 ⟨rfl, b1⟩
    have B1 := hid (hal.out.trans (b1.mono hal.out.size))
    have j2 := (b1.cell (p := ⟨w.heap.size, 2, none⟩) (by simp)).trans k2
    have HA1 := hid (HA.out.chg (Chg.ofBelow (lo := 0) b1) (.inr (Nat.zero_le _)))
    have hs1 := B1.out.size
    have hlt1 : w.heap.size < w1.heap.size := by have := b1.size; simp at this; omega
    clear b1 k2
    go_wp2_with fail
    refine (HL.out _ j2 hlt1 HA1.out (by omega)).mono ?_
    rintro e w2 ⟨v2, rfl, o2, b2⟩
    have O2 := hid (o2.lo hs1)
    have B2 := hid (B1.out.trans (b2.mono hs1))
    clear o2 b2
    go_wp2
    go_ret2
    exact ⟨_, rfl, O2.out, B2.out⟩
  · have HW : Hid (rlW d c xs = []) := hid (by rw [rlW, if_neg h0])
    have hd : (laC d c xs != 0) = true := by simpa using h0
    rw [HW.out]
    clear h0 hq HW
    generalize laC d c xs = cd at *
    obtain ⟨n, hn⟩ : ∃ n, n = xs.length := ⟨_, rfl⟩
    rw [← hn] at hv
    clear hn
    subst hv
    go_enter Tryd.func7, Tryd.ntmps7
    go_wp2_with fail
    refine HI.out.mono ?_
    rintro e w1 ⟨rfl, b1⟩
    have B1 := hid (hal.out.trans (b1.mono hal.out.size))
    clear b1
    go_wp2
    go_ret2
    exact ⟨_, rfl, sl.Own.nil _ _, B1.out⟩
end Go.Proofs.YtiacfejileeieaaDoor.rl
