/-
  toInfoS, eqInfoS.
-/
import Derived.Test.YtiacfejileeieaaRw1
import Derived.Lib.QuietBelow
namespace Go.Proofs.Ytiacfejileeieaa.ro
open Go.RowKit Go.Sort Go.Proofs.Ytiacfejileeieaa.sl Go.Proofs.Ytiacfejileeieaa.br Go.Proofs.Ytiacfejileeieaa.ss
set_option linter.unusedVariables false
set_option linter.unusedSimpArgs false

set_option maxRecDepth 100000 in
theorem toI1 (x0 x1 : Int) (ps : List Int) (f : Value) (B : Nat) (w : World) (ha : Ints w B f ps) (hB : B ≤ w.heap.size) (hn : ps.length ≤ 1099511627776) :
    Calls Try.prog 17 #[.agg #[.int .i64 x0, .int .i64 x1, f]] w fun e w' => ∃ f', e = .returned (.agg #[.int .i64 x0, .int .i64 x1, f']) ∧ Own w' w.heap.size w'.heap.size f' ps ∧ Below w.heap.size w w' := by
  obtain ⟨ao, cap, hv⟩ := ints_val ha
  obtain ⟨n, hnn⟩ : ∃ n, n = ps.length := ⟨_, rfl⟩
  rw [← hnn] at hv
  subst hv
  have HN := hid hnn
  clear hnn
  have HA := hid ha
  clear ha
  go_enter Try.func17, Try.ntmps17
  go_wp2_with fail
  refine (toI ps _ B _ (ints_al (ints_al (ints_al HA.out _) _) _) (by simp; omega) hn).mono ?_
  rintro e w1 ⟨v', rfl, o1, b1⟩
  obtain ⟨hc, hf⟩ := bcell b1
  have hz := b1.size
  simp at hz
  obtain ⟨ao1, cap1, hv1⟩ := own_val o1
  rw [← HN.out] at hv1
  subst hv1
  have O1 := hid o1
  have B1 := hid b1
  clear o1 b1
  go_wp2
  refine bodyPost_ret (v := .agg #[.int .i64 x0, .int .i64 x1, .slice ao1 n cap1]) (by simp [results, Try.results17, go_sem, hc]) rfl ⟨.slice ao1 n cap1, rfl, ?_, ?_⟩
  · have h1 := O1.out.lo (lo' := w.heap.size + 3) (by simp)
    have h2 := own_other (own_other (own_other (own_other h1 (w.heap.size + 1 + 1) 2 (.slice ao1 n cap1) (by omega)) (w.heap.size + 1) 0 (.int .i64 x0) (by omega)) (w.heap.size + 1) 1 (.int .i64 x1) (by omega)) (w.heap.size + 1) 2 (.slice ao1 n cap1) (by omega)
    have h3 := h2.lo (lo' := w.heap.size) (by omega)
    simpa using h3
  · have h1 := ((((Below.refl w.heap.size w).alloc (Nat.le_refl _) (.cells #[.int .i64 x0, .int .i64 x1, .slice ao n cap] 27)).alloc (by simp) (.cells #[.int .i64 0, .int .i64 0, .slice none 0 0] 30)).alloc (by simp; omega) (.cells #[.int .i64 x0, .int .i64 x1, .slice none 0 0] 30)).trans (B1.out.mono (by simp; omega))
    exact ((((h1.setCell (by simp; omega) _).setCell (by simp) _).setCell (by simp) _).setCell (by simp) _)


set_option maxRecDepth 100000 in
theorem eqI1 (x0 x1 : Int) (ps : List Int) (f g : Value) (B C : Nat) (w : World) (ha : Ints w B f ps) (hb : Ints w C g ps) (hn : ps.length ≤ 1048576) :
    Calls Try.prog 19 #[.agg #[.int .i64 x0, .int .i64 x1, f], .agg #[.int .i64 x0, .int .i64 x1, g]] w fun e w' => e = .returned (.bool true) ∧ Below w.heap.size w w' := by
  have HE := hid (fun W ha hb => eqS ps f g B C W ha hb (by omega))
  have HA := hid (ints_al (ints_al ha (.cells #[.int .i64 x0, .int .i64 x1, f] 30)) (.cells #[.int .i64 x0, .int .i64 x1, g] 30))
  have HB := hid (ints_al (ints_al hb (.cells #[.int .i64 x0, .int .i64 x1, f] 30)) (.cells #[.int .i64 x0, .int .i64 x1, g] 30))
  have HBl : Hid (Below w.heap.size w ((w.alloc (.cells #[.int .i64 x0, .int .i64 x1, f] 30)).alloc (.cells #[.int .i64 x0, .int .i64 x1, g] 30))) := hid (((Below.refl w.heap.size w).alloc (Nat.le_refl _) _).alloc (by simp) _)
  obtain ⟨ao, cap, hv⟩ := ints_val ha
  obtain ⟨ao', cap', hu⟩ := ints_val hb
  clear ha hb
  generalize ps.length = n at *
  subst hv hu
  go_enter Try.func19, Try.ntmps19
  go_wp2_with fail
  refine (HE.out _ HA.out HB.out).mono ?_
  rintro e w1 ⟨rfl, b1⟩
  have HB1 := hid (HBl.out.trans (b1.mono HBl.out.size))
  clear b1
  go_wp2
  go_ret
  exact ⟨rfl, HB1.out⟩

end Go.Proofs.Ytiacfejileeieaa.ro
