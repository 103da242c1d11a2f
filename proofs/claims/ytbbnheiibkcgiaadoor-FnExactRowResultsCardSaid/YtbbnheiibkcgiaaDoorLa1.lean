/-
  RowSources and RowResults of the model; the program's numbered.
-/
import Derived.Test.YtbbnheiibkcgiaaDoorLa0
namespace Go.Proofs.YtbbnheiibkcgiaaDoor.la
open Go.RowKit Go.Proofs.YtbbnheiibkcgiaaDoor.sl Go.Proofs.YtbbnheiibkcgiaaDoor.pm Go.Proofs.YtbbnheiibkcgiaaDoor.br Go.Proofs.YtbbnheiibkcgiaaDoor.bw Go.Proofs.YtbbnheiibkcgiaaDoor.st Go.Proofs.YtbbnheiibkcgiaaDoor.wk Go.Proofs.YtbbnheiibkcgiaaDoor.rl
set_option linter.unusedVariables false
set_option maxRecDepth 100000

theorem la_row {d c : Int} {xs : List Int} (h : laC d c xs = 0) : vr5.rowB d c xs = true := by
  cases hr : vr5.rowB d c xs
  · rw [la_no hr] at h; omega
  · rfl
theorem la_q {d c : Int} {xs : List Int} (h : laC d c xs = 0) : laQ xs = true := by
  cases hq : laQ xs
  · rw [la_bad (la_row h) hq] at h; omega
  · rfl
def rsW (f : Int → Int) (d c : Int) (xs : List Int) : List (List Int) := if laC d c xs = 0 then numL f xs xs.length else []
theorem rown_nil (w : World) (lo : Nat) : ss.ROwn w lo w.heap.size (.slice none 0 0) [] := ⟨Nat.le_refl _, .inl ⟨rfl, _, _, rfl⟩⟩

set_option maxHeartbeats 2000000 in
theorem specRS (d c : Int) (xs : List Int) (v : Value) (B : Nat) (w : World) (ha : Ints w B v xs) (hB : B ≤ w.heap.size) (hq : l5.Small xs) :
    Calls Tryd.prog 22 #[.agg #[.int .i64 d, .int .i64 c, v]] w fun e w' => ∃ v', e = .returned (.tuple #[v', .int .i64 (laC d c xs)]) ∧ ss.ROwn w' w.heap.size w'.heap.size v' (rsW tk d c xs) ∧ Below w.heap.size w w' := by
  have hb0 := (Below.refl w.heap.size w).alloc (Nat.le_refl _) (.cells #[.int .i64 d, .int .i64 c, v] 40)
  have hal := hid hb0
  have HA := hid (ints_al ha (.cells #[.int .i64 d, .int .i64 c, v] 40))
  have HI := hid (specLay d c xs v B w.heap.size (w.alloc (.cells #[.int .i64 d, .int .i64 c, v] 40)) ⟨by simp, World.cell?_alloc_at _ _ _ _ rfl, World.cell?_alloc_at _ _ _ _ rfl, World.cell?_alloc_at _ _ _ _ rfl⟩ HA.out (by simp; omega) hq)
  obtain ⟨ao, cap, hv⟩ := ints_val ha
  have k2 : (w.alloc (.cells #[.int .i64 d, .int .i64 c, v] 40)).cell? ⟨w.heap.size, 2, none⟩ = some v := World.cell?_alloc_at _ _ _ _ rfl
  clear ha hb0
  by_cases h0 : laC d c xs = 0
  · have hrow := la_row h0
    have hpos := la_pos (la_q h0)
    have HL := hid (fun W (c2 : W.cell? ⟨w.heap.size, 2, none⟩ = some v) (hl : w.heap.size < W.heap.size) (h : Ints W B v xs) (hb : B ≤ W.heap.size) => specSrc xs v B w.heap.size W c2 hl h hb hpos (row_lst hrow))
    have HW : Hid (rsW tk d c xs = numL tk xs xs.length) := hid (by rw [rsW, if_pos h0])
    have HC := hid h0
    rw [h0] at HI
    rw [HW.out, HC.out]
    clear h0 hrow hpos hq HW HC
    generalize numL tk xs xs.length = L at *
    obtain ⟨n, hn⟩ : ∃ n, n = xs.length := ⟨_, rfl⟩
    rw [← hn] at hv
    clear hn
    subst hv
    go_enter Tryd.func22, Tryd.ntmps22
    go_wp2_with fail
    refine HI.out.mono ?_
    rintro e w1 ⟨rfl, b1⟩
    have B1 := hid (hal.out.trans (b1.mono hal.out.size))
    have j2 := (b1.cell (p := ⟨w.heap.size, 2, none⟩) (by simp)).trans k2
    have HA1 := hid (HA.out.chg (Chg.ofBelow (lo := 0) b1) (.inr (Nat.zero_le _)))
    have hs1 := B1.out.size
    have hlt1 : w.heap.size < w1.heap.size := by have := b1.size; simp at this; omega
    clear b1 k2
    go_wp2_with fail
    refine (HL.out _ j2 hlt1 HA1.out (by omega)).mono ?_
    rintro e w2 ⟨v2, vals2, rfl, o2, b2⟩
    have O2 := hid ((o2.low hs1).rown)
    have B2 := hid (B1.out.trans (b2.mono hs1))
    clear o2 b2
    go_wp2
    go_ret2
    exact ⟨_, rfl, O2.out, B2.out⟩
  · have HW : Hid (rsW tk d c xs = []) := hid (by rw [rsW, if_neg h0])
    have hd : (laC d c xs != 0) = true := by simpa using h0
    rw [HW.out]
    clear h0 hq HW
    generalize laC d c xs = cd at *
    obtain ⟨n, hn⟩ : ∃ n, n = xs.length := ⟨_, rfl⟩
    rw [← hn] at hv
    clear hn
    subst hv
    go_enter Tryd.func22, Tryd.ntmps22
    go_wp2_with fail
    refine HI.out.mono ?_
    rintro e w1 ⟨rfl, b1⟩
    have B1 := hid (hal.out.trans (b1.mono hal.out.size))
    clear b1
    go_wp2
    go_ret2
    exact ⟨_, rfl, rown_nil _ _, B1.out⟩

set_option maxHeartbeats 2000000 in
theorem specRR (d c : Int) (xs : List Int) (v : Value) (B : Nat) (w : World) (ha : Ints w B v xs) (hB : B ≤ w.heap.size) (hq : l5.Small xs) :
    Calls Tryd.prog 27 #[.agg #[.int .i64 d, .int .i64 c, v]] w fun e w' => ∃ v', e = .returned (.tuple #[v', .int .i64 (laC d c xs)]) ∧ ss.ROwn w' w.heap.size w'.heap.size v' (rsW md d c xs) ∧ Below w.heap.size w w' := by
  have hb0 := (Below.refl w.heap.size w).alloc (Nat.le_refl _) (.cells #[.int .i64 d, .int .i64 c, v] 40)
  have hal := hid hb0
  have HA := hid (ints_al ha (.cells #[.int .i64 d, .int .i64 c, v] 40))
  have HI := hid (specLay d c xs v B w.heap.size (w.alloc (.cells #[.int .i64 d, .int .i64 c, v] 40)) ⟨by simp, World.cell?_alloc_at _ _ _ _ rfl, World.cell?_alloc_at _ _ _ _ rfl, World.cell?_alloc_at _ _ _ _ rfl⟩ HA.out (by simp; omega) hq)
  obtain ⟨ao, cap, hv⟩ := ints_val ha
  have k2 : (w.alloc (.cells #[.int .i64 d, .int .i64 c, v] 40)).cell? ⟨w.heap.size, 2, none⟩ = some v := World.cell?_alloc_at _ _ _ _ rfl
  clear ha hb0
  by_cases h0 : laC d c xs = 0
  · have hrow := la_row h0
    have hpos := la_pos (la_q h0)
    have HL := hid (fun W (c2 : W.cell? ⟨w.heap.size, 2, none⟩ = some v) (hl : w.heap.size < W.heap.size) (h : Ints W B v xs) (hb : B ≤ W.heap.size) => specRes xs v B w.heap.size W c2 hl h hb hpos (row_lst hrow))
    have HW : Hid (rsW md d c xs = numL md xs xs.length) := hid (by rw [rsW, if_pos h0])
    have HC := hid h0
    rw [h0] at HI
    rw [HW.out, HC.out]
    clear h0 hrow hpos hq HW HC
    generalize numL md xs xs.length = L at *
    obtain ⟨n, hn⟩ : ∃ n, n = xs.length := ⟨_, rfl⟩
    rw [← hn] at hv
    clear hn
    subst hv
    go_enter Tryd.func27, Tryd.ntmps27
    go_wp2_with fail
    refine HI.out.mono ?_
    rintro e w1 ⟨rfl, b1⟩
    have B1 := hid (hal.out.trans (b1.mono hal.out.size))
    have j2 := (b1.cell (p := ⟨w.heap.size, 2, none⟩) (by simp)).trans k2
    have HA1 := hid (HA.out.chg (Chg.ofBelow (lo := 0) b1) (.inr (Nat.zero_le _)))
    have hs1 := B1.out.size
    have hlt1 : w.heap.size < w1.heap.size := by have := b1.size; simp at this; omega
    clear b1 k2
    go_wp2_with fail
    refine (HL.out _ j2 hlt1 HA1.out (by omega)).mono ?_
    rintro e w2 ⟨v2, vals2, rfl, o2, b2⟩
    have O2 := hid ((o2.low hs1).rown)
    have B2 := hid (B1.out.trans (b2.mono hs1))
    clear o2 b2
    go_wp2
    go_ret2
    exact ⟨_, rfl, O2.out, B2.out⟩
  · have HW : Hid (rsW md d c xs = []) := hid (by rw [rsW, if_neg h0])
    have hd : (laC d c xs != 0) = true := by simpa using h0
    rw [HW.out]
    clear h0 hq HW
    generalize laC d c xs = cd at *
    obtain ⟨n, hn⟩ : ∃ n, n = xs.length := ⟨_, rfl⟩
    rw [← hn] at hv
    clear hn
    subst hv
    go_enter Tryd.func27, Tryd.ntmps27
    go_wp2_with fail
    refine HI.out.mono ?_
    rintro e w1 ⟨rfl, b1⟩
    have B1 := hid (hal.out.trans (b1.mono hal.out.size))
    clear b1
    go_wp2
    go_ret2
    exact ⟨_, rfl, rown_nil _ _, B1.out⟩

/-! ### The program's numbered -/
theorem chg_own {W wr w9 : World} {l h hi : Nat} (c : Chg l h W wr) (d : Chg W.heap.size hi wr w9) : Chg l h W w9 :=
  ⟨d.os.trans c.os, d.tape.trans c.tape, d.output.trans c.output, Nat.le_trans c.size d.size, fun j hj hj' => (d.block j (Nat.lt_of_lt_of_le hj c.size) (by omega)).trans (c.block j hj hj')⟩
theorem chg_set {lo hi g i : Nat} {w w' : World} (h : Chg lo hi w w') (v : Value) (h1 : lo ≤ g) (h2 : g < hi) : Chg lo hi w (w'.setCell ⟨g, i, none⟩ v) := by
  have hb := (Below.refl g w').setCell (p := ⟨g, i, none⟩) (Nat.le_refl _) v
  refine ⟨hb.os.trans h.os, hb.tape.trans h.tape, hb.output.trans h.output, Nat.le_trans h.size hb.size, fun k hk hk' => ?_⟩
  rw [← h.block k hk hk']
  exact Below.heap_setCell w' ⟨g, i, none⟩ v k (by show k ≠ g; omega)
/-- The closure of numbered: a stitch's columns; the next number is in a cell of its own. -/
theorem numC (f : Int → Int) (fn cb nb : Nat) (x t : Int) (m : Nat) (W : World) (hx : f x = (m : Int)) (hm : m ≤ 4) (ht : 0 ≤ t ∧ t ≤ 1000) (hcb : cb < nb) (hnb : nb < W.heap.size)
    (c0 : W.cell? ⟨cb, 0, none⟩ = some (.func (.func fn) #[] #[])) (n0 : W.cell? ⟨nb, 0, none⟩ = some (.int .i64 t)) (nf : W.frozen? ⟨nb, 0, none⟩ = false)
    (hf : ∀ W', Chg nb (nb + 1) W W' → Calls Tryd.prog fn #[.int .i64 x] W' fun e w' => e = .returned (.int .i64 (f x)) ∧ Below W'.heap.size W' w') (eg : ∀ args w, (callFunc fn args).run Tryd.prog w = .ok (.enter fn args) w) :
    Calls Tryd.prog 71 #[.int .i64 x, .pointer (some ⟨cb, 0, none⟩), .pointer (some ⟨nb, 0, none⟩)] W fun e w' => ∃ v', e = .returned v' ∧ Own w' W.heap.size w'.heap.size v' (sl.marks t m) ∧ Chg nb (nb + 1) W w' ∧ w'.cell? ⟨nb, 0, none⟩ = some (.int .i64 (t + (m : Int))) ∧ w'.frozen? ⟨nb, 0, none⟩ = false := by
  obtain ⟨i0, hi, hz0, hz1, hz2⟩ := info_parts info64
  have HF := hid hf
  have HCr := hid (Chg.refl nb (nb + 1) W)
  rw [hx] at HF
  clear hf hx
  go_enter Tryd.func71, Tryd.ntmps71
  go_wp2_with fail
  refine (HF.out _ HCr.out).mono ?_
  rintro e w1 ⟨rfl, b1⟩
  have HB1 := hid b1
  have hz1' := b1.size
  have c1 := (b1.cell (p := ⟨cb, 0, none⟩) (by show cb < _; omega)).trans c0
  have n1 := (b1.cell (p := ⟨nb, 0, none⟩) hnb).trans n0
  have nf1 := (b1.frozen (p := ⟨nb, 0, none⟩) hnb).trans nf
  clear b1 c0 n0 nf
  go_wp2_with (at_make; refine wpList_make_own _ rfl _ _ 34 rfl W.heap.size 2 i0 (.int .i64 0) 1 Tryd.underlying34 hi hz0 hz1 .i64 .i64 _ m rfl rfl (by omega) (by rw [hz2]; omega) (by unfold maxLen; omega) hz1' ?_; intro W3 hown3 hgrow3; have HS3 : Hid (sl.Own W3 W.heap.size W3.heap.size (.slice (some ⟨w1.heap.size, 0, none⟩) 0 m) []) := hid (sl.Own.mk' (xs := []) hown3); have b3 : Below w1.heap.size w1 W3 := ⟨hgrow3.os, hgrow3.tape, hgrow3.output, hgrow3.size, fun q hq => hgrow3.block q hq (by simp)⟩; have HB3 : Hid (Below W.heap.size W W3) := hid (HB1.out.trans (b3.mono hz1')); have c3 := (b3.cell (p := ⟨cb, 0, none⟩) (by show cb < _; omega)).trans c1; have n3 := (b3.cell (p := ⟨nb, 0, none⟩) (by show nb < _; omega)).trans n1; have nf3 := (b3.frozen (p := ⟨nb, 0, none⟩) (by show nb < _; omega)).trans nf1; have hz3 := HB3.out.size; clear hown3 hgrow3 b3 c1 n1 nf1)
  have HC3 := hid (Chg.ofBelow (lo := nb) HB3.out)
  have HC3' : Hid (Chg nb (nb + 1) W W3) := hid ((Chg.ofBelow (lo := nb) HB3.out).wide (Nat.le_refl _) (by omega))
  refine (HF.out _ HC3'.out).mono ?_
  rintro e w4 ⟨rfl, b4⟩
  have HS4 := hid ((HS3.out.chg (Chg.ofBelow (lo := 0) b4) (.inr (.inr (Nat.zero_le _)))).hi (hi' := w4.heap.size) b4.size (Nat.le_refl _))
  have HC4 : Hid (Chg nb (nb + 1) W w4) := hid (HC3'.out.trans ((Chg.ofBelow (lo := nb) b4).wide (Nat.le_refl _) (by omega)))
  have n4 := (b4.cell (p := ⟨nb, 0, none⟩) (by show nb < _; omega)).trans n3
  have nf4 := (b4.frozen (p := ⟨nb, 0, none⟩) (by show nb < _; omega)).trans nf3
  clear b4 HC3 HC3' HS3 HB3 c3 n3 nf3
  go_wp2
  go_loopw [5, 13] (fun s i wr => ∃ (k : Nat) (z : Value), k ≤ m ∧ s = z ∧ i = .int .i64 k ∧ Own wr W.heap.size wr.heap.size z (sl.marks t k) ∧ Chg nb (nb + 1) W wr ∧ wr.cell? ⟨nb, 0, none⟩ = some (.int .i64 (t + (k : Int))) ∧ wr.frozen? ⟨nb, 0, none⟩ = false) (fun _ i _ => m - (intOf i).toNat)
  case atStart => exact ⟨0, _, Nat.zero_le _, rfl, rfl, HS4.out, HC4.out, by rw [n4]; simp, nf4⟩
  case round =>
    obtain ⟨k, z, hk, rfl, rfl, hown, hch, hn, hnf⟩ := hrel
    have HO := hid hown
    have HC := hid hch
    have hsz := hch.size
    clear hown hch n4 nf4 HS4 HC4
    by_cases hlt : k < m
    · have HX := hid (marks_succ t k)
      have hml := sl.marks_len t k
      generalize sl.marks t k = L at *
      have e1 : IntKind.i64.wrap (t + (k : Int) + 1) = t + (k : Int) + 1 := IntWalk.i64_in _ (by omega)
      have hd : decide ((k : Int) < (m : Int)) = true := decide_eq_true (by omega)
      have htk : t + (k : Int) + 1 = t + ((k + 1 : Nat) : Int) := by omega
      have HTK := hid htk
      clear htk
      generalize t + (k : Int) = q at *
      go_wp2_with (at_builtin; refine wp_append rfl _ _ rfl W.heap.size _ _ L q HO.out rfl rfl hsz (by omega) ?_; intro v9 w9 hown1 hchg1 hsz1; have HO1 := hid hown1; have HC1 := hid (chg_own HC.out hchg1); have n9 := (World.cell?_of_block (w := wr) (w' := w9) (a := ⟨nb, 0, none⟩) (hchg1.block nb (by omega) (by omega))).trans hn; have nf9 := (World.frozen?_of_block (w := wr) (w' := w9) (a := ⟨nb, 0, none⟩) (hchg1.block nb (by omega) (by omega))).trans hnf; clear hown1 hchg1)
      go_roundw
      case rel => exact ⟨k + 1, _, by omega, rfl, by go_num, by rw [HX.out]; exact (own_other HO1.out nb 0 _ (by omega)).hi (by simp) (Nat.le_refl _), chg_set HC1.out _ (Nat.le_refl _) (by omega), by rw [ss.same_at n9, HTK.out], by rw [World.frozen?_setCell]; exact nf9⟩
      case measure => simp [intOf]; omega
    · obtain rfl : k = m := by omega
      go_wp2
      go_ret
      exact ⟨_, rfl, HO.out, HC.out, hn, hnf⟩
end Go.Proofs.YtbbnheiibkcgiaaDoor.la
