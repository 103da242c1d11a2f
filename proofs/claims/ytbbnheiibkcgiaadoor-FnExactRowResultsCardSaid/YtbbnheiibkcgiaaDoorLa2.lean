/-
  The program's numbered: mapAll at its closure.
-/
import Derived.Test.YtbbnheiibkcgiaaDoorLa1
import Derived.Laws.EntriesVeiled
namespace Go.Proofs.YtbbnheiibkcgiaaDoor.la
open Go.RowKit Go.Proofs.YtbbnheiibkcgiaaDoor.sl Go.Proofs.YtbbnheiibkcgiaaDoor.pm Go.Proofs.YtbbnheiibkcgiaaDoor.br Go.Proofs.YtbbnheiibkcgiaaDoor.bw Go.Proofs.YtbbnheiibkcgiaaDoor.st Go.Proofs.YtbbnheiibkcgiaaDoor.wk Go.Proofs.YtbbnheiibkcgiaaDoor.rl
set_option linter.unusedVariables false
set_option maxRecDepth 100000

theorem chg_low {w wr w9 : World} {l h : Nat} (c : Chg l h w wr) (d : Below w.heap.size wr w9) : Chg l h w w9 :=
  ⟨d.os.trans c.os, d.tape.trans c.tape, d.output.trans c.output, Nat.le_trans c.size d.size, fun j hj hj' => (d.block j hj).trans (c.block j hj hj')⟩

set_option maxHeartbeats 4000000 in
theorem mapNum (f : Int → Int) (fn cb nb : Nat) (xs : List Int) (v : Value) (B : Nat) (w : World) (ha : Ints w B v xs) (hB : B ≤ nb) (hn16 : xs.length ≤ 16) (hfx : ∀ k, k < xs.length → 0 ≤ f (xs.getD k 0) ∧ f (xs.getD k 0) ≤ 4) (hcb : cb < nb) (hnb : nb < w.heap.size)
    (c0 : w.cell? ⟨cb, 0, none⟩ = some (.func (.func fn) #[] #[])) (n0 : w.cell? ⟨nb, 0, none⟩ = some (.int .i64 0)) (nf : w.frozen? ⟨nb, 0, none⟩ = false)
    (hf : ∀ k W', k < xs.length → Chg nb (nb + 1) w W' → Calls Tryd.prog fn #[.int .i64 (xs.getD k 0)] W' fun e w' => e = .returned (.int .i64 (f (xs.getD k 0))) ∧ Below W'.heap.size W' w') (eg : ∀ args w, (callFunc fn args).run Tryd.prog w = .ok (.enter fn args) w) :
    Calls Tryd.prog 70 #[.func (.func 71) #[] #[.pointer (some ⟨cb, 0, none⟩), .pointer (some ⟨nb, 0, none⟩)], v] w fun e w' => ∃ v' vals, e = .returned v' ∧ SR w' w.heap.size v' vals (numL f xs xs.length) ∧ Chg nb (nb + 1) w w' := by
  obtain ⟨i0, hi, hz0, hz1, hz2⟩ := info_parts ss.infoS
  have HSb := hid (fun k h => sF_bound f xs hfx k h)
  have HSs := hid (fun k h => sF_succ f xs k h)
  have HFx := hid hfx
  have HF := hid hf
  have HA := hid ha
  obtain ⟨ao, cap, hv⟩ := ints_val ha
  obtain ⟨n, hnn⟩ : ∃ n, n = xs.length := ⟨_, rfl⟩
  rw [← hnn] at hv hn16 HSb HSs HFx HF ⊢
  have HN := hid hnn
  clear hnn hfx hf ha
  subst hv
  go_enter Tryd.func70, Tryd.ntmps70
  go_wp2_with (at_make; refine wpList_make_own _ rfl _ _ 47 rfl w.heap.size 34 i0 (.slice none 0 0) 1 Tryd.underlying47 hi hz0 hz1 .i64 .i64 _ n rfl rfl (by omega) (by rw [hz2]; omega) (by unfold maxLen; omega) (Nat.le_refl _) ?_; intro W3 hown3 hgrow3; have HS3 : Hid (SR W3 w.heap.size (.slice (some ⟨w.heap.size, 0, none⟩) 0 n) [] []) := hid ⟨rfl, hown3, fun _ => 0, fun _ => 0, fun j hj => by simp at hj⟩; have b3 : Below w.heap.size w W3 := ⟨hgrow3.os, hgrow3.tape, hgrow3.output, hgrow3.size, fun q hq => hgrow3.block q hq (by simp)⟩; have HC3 : Hid (Chg nb (nb + 1) w W3) := hid ((Chg.ofBelow (lo := nb) b3).wide (Nat.le_refl _) (by omega)); have n3 := (b3.cell (p := ⟨nb, 0, none⟩) hnb).trans n0; have nf3 := (b3.frozen (p := ⟨nb, 0, none⟩) hnb).trans nf; clear hown3 hgrow3 b3 n0 nf)
  go_loopw [5, 13] (fun s i wr => ∃ (k : Nat) (z : Value) (vals : List Value), k ≤ n ∧ s = z ∧ i = .int .i64 k ∧ SR wr w.heap.size z vals (numL f xs k) ∧ Chg nb (nb + 1) w wr ∧ wr.cell? ⟨nb, 0, none⟩ = some (.int .i64 (sF f xs k)) ∧ wr.frozen? ⟨nb, 0, none⟩ = false) (fun _ i _ => n - (intOf i).toNat)
  case atStart => exact ⟨0, _, _, Nat.zero_le _, rfl, rfl, HS3.out, HC3.out, n3, nf3⟩
  case round =>
    obtain ⟨k, z, vals, hk, rfl, rfl, hs, hch, hcn, hnf⟩ := hrel
    have HS := hid hs
    have HC := hid hch
    have hsz := hch.size
    clear hs hch HS3 HC3 n3 nf3
    by_cases hlt : k < n
    · rcases HA.out with ⟨hx, _⟩ | ⟨hp, b, off, cap', hv, hb, hc⟩
      · have := HN.out; rw [hx] at this; simp at this; omega
      · simp only [Value.slice.injEq] at hv
        obtain ⟨rfl, hlen, rfl⟩ := hv
        clear hlen hp
        have hc0 := hc k (by rw [← HN.out]; exact hlt)
        have hbw := World.block_lt_of_cell? w _ hc0
        have h1 : wr.cell? ⟨b, off + k, none⟩ = some (.int .i64 (xs.getD k 0)) := (World.cell?_of_block (w := w) (w' := wr) (a := ⟨b, off + k, none⟩) (HC.out.block b hbw (by omega))).trans hc0
        have hcr : wr.cell? ⟨cb, 0, none⟩ = some (.func (.func fn) #[] #[]) := (World.cell?_of_block (w := w) (w' := wr) (a := ⟨cb, 0, none⟩) (HC.out.block cb (by omega) (by omega))).trans c0
        have hfk := HFx.out k hlt
        have hsb := HSb.out k hk
        have HX := hid (numL_succ f xs k)
        have HS1 := hid (HSs.out k hlt)
        have hLl := numL_len f xs k
        have HFk := hid (fun W' c => HF.out k W' hlt c)
        obtain ⟨m, hm⟩ : ∃ m : Nat, f (xs.getD k 0) = (m : Int) := ⟨(f (xs.getD k 0)).toNat, by omega⟩
        have hmm : (f (xs.getD k 0)).toNat = m := by omega
        have HNc := hid (numC f fn cb nb (xs.getD k 0) (sF f xs k) m wr hm (by omega) ⟨by omega, by omega⟩ hcb (by omega) hcr hcn hnf (fun W' c => HFk.out W' (⟨c.os.trans HC.out.os, c.tape.trans HC.out.tape, c.output.trans HC.out.output, Nat.le_trans HC.out.size c.size, fun j hj hj' => (c.block j (by omega) hj').trans (HC.out.block j hj hj')⟩)) eg)
        rw [hmm] at HX
        rw [hm] at HS1
        clear hc hc0 hm hmm HFk hcr hcn hnf
        generalize sF f xs k = t at *
        generalize numL f xs k = L at *
        generalize xs.getD k 0 = x at *
        go_wp2_with fail
        refine HNc.out.mono ?_
        rintro e w1 ⟨y, rfl, oy, cy, ny, nfy⟩
        obtain ⟨ya, yc, hyv⟩ := br.own_val oy
        have HOy := hid oy
        have HCy := hid cy
        have hz1' := cy.size
        obtain ⟨ml, hml⟩ : ∃ ml, ml = (sl.marks t m).length := ⟨_, rfl⟩
        rw [← hml] at hyv
        clear oy cy hml HNc
        subst hyv
        go_wp2_with (at_builtin; refine srx.wp_appRC rfl _ _ rfl w.heap.size nb (nb + 1) _ _ vals L (sl.marks t m) HS.out HCy.out (by omega) HOy.out rfl rfl rfl hsz (by omega) ?_; intro v4 w4 s4 b4; have HS4 := hid s4; have HC4 := hid (chg_low (⟨HCy.out.os.trans HC.out.os, HCy.out.tape.trans HC.out.tape, HCy.out.output.trans HC.out.output, Nat.le_trans HC.out.size HCy.out.size, fun j hj hj' => (HCy.out.block j (by omega) hj').trans (HC.out.block j hj hj')⟩ : Chg nb (nb + 1) w w1) b4); have n4 := (b4.cell (p := ⟨nb, 0, none⟩) hnb).trans ny; have nf4 := (b4.frozen (p := ⟨nb, 0, none⟩) hnb).trans nfy; clear s4 b4 ny nfy)
        go_roundw
        case rel => exact ⟨k + 1, _, _, by omega, rfl, by go_num, by rw [HX.out]; exact HS4.out, HC4.out, by rw [HS1.out]; exact n4, nf4⟩
        case measure => simp [intOf]; omega
    · obtain rfl : k = n := by omega
      go_wp2
      go_ret
      exact ⟨_, _, rfl, HS.out, HC.out⟩

theorem numb (f : Int → Int) (fn : Nat) (xs : List Int) (v : Value) (B : Nat) (w : World) (ha : Ints w B v xs) (hB : B ≤ w.heap.size) (hn16 : xs.length ≤ 16) (hfx : ∀ k, k < xs.length → 0 ≤ f (xs.getD k 0) ∧ f (xs.getD k 0) ≤ 4)
    (hf : ∀ x W', Below w.heap.size w W' → Calls Tryd.prog fn #[.int .i64 x] W' fun e w' => e = .returned (.int .i64 (f x)) ∧ Below W'.heap.size W' w') (eg : ∀ args w, (callFunc fn args).run Tryd.prog w = .ok (.enter fn args) w) :
    Calls Tryd.prog 55 #[.func (.func fn) #[] #[], v] w fun e w' => ∃ v' vals, e = .returned v' ∧ SR w' w.heap.size v' vals (numL f xs xs.length) ∧ Below w.heap.size w w' := by
  have b1 := (Below.refl w.heap.size w).alloc (Nat.le_refl _) (.cells #[.func (.func fn) #[] #[]] 72)
  have b2 := b1.alloc (by simp) (.cells #[.int .i64 0] 2)
  have HA := hid (ha.chg (Chg.ofBelow (lo := 0) b2) (.inr (Nat.zero_le _)))
  have c0 : ((w.alloc (.cells #[.func (.func fn) #[] #[]] 72)).alloc (.cells #[.int .i64 0] 2)).cell? ⟨w.heap.size, 0, none⟩ = some (.func (.func fn) #[] #[]) := (World.cell?_alloc_past _ _ _ (by simp)).trans (World.cell?_alloc_at _ _ _ _ rfl)
  have n0 : ((w.alloc (.cells #[.func (.func fn) #[] #[]] 72)).alloc (.cells #[.int .i64 0] 2)).cell? ⟨w.heap.size + 1, 0, none⟩ = some (.int .i64 0) := World.cell?_alloc_at _ _ _ _ (by simp)
  have nf : ((w.alloc (.cells #[.func (.func fn) #[] #[]] 72)).alloc (.cells #[.int .i64 0] 2)).frozen? ⟨w.heap.size + 1, 0, none⟩ = false := (by simp : (w.alloc (.cells #[.func (.func fn) #[] #[]] 72)).heap.size = w.heap.size + 1) ▸ (World.frozen?_alloc_at (w := w.alloc (.cells #[.func (.func fn) #[] #[]] 72)) _ _ _ _ rfl)
  have hs2 : ((w.alloc (.cells #[.func (.func fn) #[] #[]] 72)).alloc (.cells #[.int .i64 0] 2)).heap.size = w.heap.size + 2 := by simp
  have HM := hid (mapNum f fn w.heap.size (w.heap.size + 1) xs v B _ HA.out (by omega) hn16 hfx (by omega) (by omega) c0 n0 nf (fun k W' hk c => hf (xs.getD k 0) W' (b2.trans (c.below (by omega) (by omega)))) eg)
  have HB2 := hid b2
  obtain ⟨ao, cap, hv⟩ := ints_val ha
  clear ha b1 b2 HA c0 n0 nf hf hfx
  generalize numL f xs xs.length = L at *
  obtain ⟨n, hn⟩ : ∃ n, n = xs.length := ⟨_, rfl⟩
  rw [← hn] at hv
  clear hn
  subst hv
  go_enter Tryd.func55, Tryd.ntmps55
  go_wp2_with fail
  refine HM.out.mono ?_
  rintro e w1 ⟨v1, vals1, rfl, s1, c1⟩
  have HS1 := hid (s1.low (lo' := w.heap.size) (by omega))
  have HC1 := hid (HB2.out.trans (c1.below (by omega) (by omega)))
  clear s1 c1
  go_wp2
  go_ret
  exact ⟨_, _, rfl, HS1.out, HC1.out⟩
end Go.Proofs.YtbbnheiibkcgiaaDoor.la
