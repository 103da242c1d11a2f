/-
  PackLetters of the program.
-/
import Derived.Test.YtiacfejileeieaaPkp
import Derived.Test.YtiacfejileeieaaBv
import Derived.Test.YtiacfejileeieaaMk1
namespace Go.Proofs.Ytiacfejileeieaa.pk
open Go.RowKit Go.Proofs.Ytiacfejileeieaa.sl Go.Proofs.Ytiacfejileeieaa.pm Go.Proofs.Ytiacfejileeieaa.br Go.Proofs.Ytiacfejileeieaa.bw Go.Proofs.Ytiacfejileeieaa.wk
set_option linter.unusedVariables false
set_option maxRecDepth 100000

theorem implGroups (xs : List Int) (v : Value) (B : Nat) (w : World) (ha : Ints w B v xs) (hB : B ≤ w.heap.size) (hn : xs.length ≤ 40) (hr : ∀ j, j < xs.length → Rng (xs.getD j 0)) :
    Calls Try.prog 69 #[v] w fun e w' => ∃ v' vals', e = .returned v' ∧ SR w' w.heap.size v' vals' (pkT xs xs.length) ∧ Below w.heap.size w w' := by
  have hal := (Below.refl w.heap.size w).alloc (Nat.le_refl _) (.cells #[] 22)
  have HO := hid (implOver xs v (.slice (some ⟨w.heap.size, 0, none⟩) 0 0) B w.heap.size (w.alloc (.cells #[] 22)) (ints_al ha _) hB (by simp) hn hr [] (SR.made w w.heap.size (Nat.le_refl _)))
  have HB := hid hal
  obtain ⟨ao, cap, hv⟩ := ints_val ha
  clear ha hal hr
  generalize pkT xs xs.length = L at *
  generalize xs.length = n at *
  subst hv
  go_enter Try.func69, Try.ntmps69
  go_wp2_with fail
  refine HO.out.mono ?_
  rintro e w1 ⟨v1, vals1, rfl, s1, b1⟩
  have HS := hid s1
  have HB1 := hid (HB.out.trans b1)
  clear s1 b1
  go_wp2
  go_ret
  exact ⟨_, _, rfl, HS.out, HB1.out⟩
theorem ok_rng {s : Int} {xs : List Int} (h : okB s xs = true) : ∀ j, j < xs.length → Rng (xs.getD j 0) := fun j hj => by
  have h1 := ok_parts h
  have h2 := h1.2.2.2 j hj
  have h3 := h1.2.1
  unfold Rng
  omega

theorem implPL (s : Int) (xs : List Int) (v : Value) (B : Nat) (w : World) (ha : Ints w B v xs) (hB : B ≤ w.heap.size) (hq : l5.Small xs) :
    Calls Try.prog 39 #[.agg #[.int .i64 s, v]] w fun e w' => ∃ v', e = .returned (.tuple #[v', .bool (okB s xs)]) ∧ ss.ROwn w' w.heap.size w'.heap.size v' (pkW s xs) ∧ Below w.heap.size w w' := by
  have hal := hid ((Below.refl w.heap.size w).alloc (Nat.le_refl _) (.cells #[.int .i64 s, v] 57))
  have HV := hid (implValidB s xs v B (w.alloc (.cells #[.int .i64 s, v] 57)) (ints_al ha _) (by simp; omega) (by have := hq.len; omega))
  have HA := hid (ints_al ha (.cells #[.int .i64 s, v] 57))
  obtain ⟨ao, cap, hv⟩ := ints_val ha
  cases hr : okB s xs
  · rw [pk_no hr]
    rw [hr] at HV
    clear ha hq hr HA
    generalize xs.length = n at *
    subst hv
    go_enter Try.func39, Try.ntmps39
    go_wp2_with fail
    refine HV.out.mono ?_
    rintro e w1 ⟨rfl, b1⟩
    have B1 := hid (hal.out.trans (b1.mono hal.out.size))
    clear b1
    go_wp2
    go_ret2
    exact ⟨_, rfl, ⟨Nat.le_refl _, .inl ⟨rfl, none, 0, rfl⟩⟩, B1.out⟩
  · rw [pk_yes hr]
    have HG := hid (fun W (h : Ints W B v xs) (hb : B ≤ W.heap.size) => implGroups xs v B W h hb (ok_parts hr).2.2.1 (ok_rng hr))
    rw [hr] at HV
    clear ha hq hr
    generalize pkT xs xs.length = L at *
    obtain ⟨n, hn⟩ : ∃ n, n = xs.length := ⟨_, rfl⟩
    rw [← hn] at hv
    clear hn
    subst hv
    have r1 : (w.alloc (.cells #[.int .i64 s, .slice ao n cap] 57)).cell? ⟨w.heap.size, 1, none⟩ = some (.slice ao n cap) := World.cell?_alloc_at _ _ _ _ rfl
    go_enter Try.func39, Try.ntmps39
    go_wp2_with fail
    refine HV.out.mono ?_
    rintro e w1 ⟨rfl, b1⟩
    have B1 := hid (hal.out.trans (b1.mono hal.out.size))
    have HA1 := hid (HA.out.chg (Chg.ofBelow (lo := 0) b1) (.inr (Nat.zero_le _)))
    have r2 := (b1.cell (p := ⟨w.heap.size, 1, none⟩) (by simp)).trans r1
    clear b1
    have hs1 := B1.out.size
    go_wp2_with fail
    refine (HG.out _ HA1.out (by omega)).mono ?_
    rintro e w2 ⟨v2, vals2, rfl, s2, b2⟩
    have HS := hid (s2.low hs1)
    have B2 := hid (B1.out.trans (b2.mono hs1))
    clear s2 b2
    go_wp2
    go_ret2
    exact ⟨_, rfl, HS.out.rown, B2.out⟩
end Go.Proofs.Ytiacfejileeieaa.pk
