/-
  Charts in memory: contracts of the laws' helpers toChart, eqChart, szChart.
-/
import Derived.Test.YtbbnheiibkcgiabDoorRw2
namespace Go.Proofs.YtbbnheiibkcgiabDoor.ct
open Go.RowKit Go.Proofs.YtbbnheiibkcgiabDoor.sl Go.Proofs.YtbbnheiibkcgiabDoor.br Go.Proofs.YtbbnheiibkcgiabDoor.ss Go.Proofs.YtbbnheiibkcgiabDoor.ro
set_option linter.unusedVariables false
set_option linter.unusedSimpArgs false

/-- What is left of a limit behind a chart. -/
def szC (left : Int) (xs : List V) : Int := szR left (prs xs)
theorem szC_pos {left : Int} {xs : List V} (h0 : 0 ≤ left) : szC left xs = -1 ∨ 0 ≤ szC left xs := szR_pos (rows := prs xs) h0
theorem szC_bnd {left : Int} {xs : List V} (h0 : 0 ≤ left) (h : 0 ≤ szC left xs) : szC left xs ≤ left ∧ True := ⟨(szR_bound h0 h).1, trivial⟩
theorem szC_small {left : Int} {xs : List V} (h0 : 0 ≤ left) (h1 : left ≤ 1048576) (h : 0 ≤ szC left xs) : ro.Small xs := ro.small_of h0 h1 h

theorem szC1 (s : Int) (xs : List V) (f : Value) (B : Nat) (left : Int) (w : World) (ha : Infs w B f xs) (hn : xs.length ≤ 9223372036854775807) (hs : ∀ j, j < xs.length → (xs.getD j iz).ps.length ≤ 9223372036854775807) (h0 : 0 ≤ left) (h1 : left ≤ 1048576) :
    Calls Tryd.prog 5 #[.agg #[.int .i64 s, f], .int .i64 left] w fun e w' => e = .returned (.int .i64 (szC left xs)) ∧ Below w.heap.size w w' := by
  have HS := hid (fun w ha => szIS xs f B left w ha hn hs h0 h1)
  have HA := hid ha
  obtain ⟨ao, cap, hv⟩ := infs_val ha
  have hb := szC_pos (xs := xs) h0
  have HE : Hid (szR left (prs xs) = szC left xs) := hid rfl
  rw [HE.out] at HS
  clear ha hs hn HE
  generalize szC left xs = q at *
  generalize xs.length = n at *
  subst hv
  have hal := hid ((Below.refl w.heap.size w).alloc (Nat.le_refl _) (.cells #[.int .i64 s, .slice ao n cap] 24))
  rcases hb with rfl | hb
  · go_enter Tryd.func5, Tryd.ntmps5
    go_wp2_with fail
    refine (HS.out _ (HA.out.al _)).mono ?_
    rintro e w1 ⟨rfl, b1⟩
    have HB := hid (hal.out.trans (b1.mono hal.out.size))
    clear b1
    go_wp2
    go_ret
    exact ⟨rfl, HB.out⟩
  · go_enter Tryd.func5, Tryd.ntmps5
    go_wp2_with fail
    refine (HS.out _ (HA.out.al _)).mono ?_
    rintro e w1 ⟨rfl, b1⟩
    have HB := hid (hal.out.trans (b1.mono hal.out.size))
    clear b1
    go_wp2
    go_ret
    exact ⟨rfl, HB.out⟩

theorem iown_other {w : World} {lo hi : Nat} {v : Value} {xs : List V} (h : IOwn w lo hi v xs) (b o : Nat) (u : Value) (hb : b < lo ∨ hi ≤ b) : IOwn (w.setCell ⟨b, o, none⟩ u) lo hi v xs :=
  h.chg (chg_set w b o u) (by omega)

theorem toC (s : Int) (xs : List V) (f : Value) (B : Nat) (w : World) (ha : Infs w B f xs) (hB : B ≤ w.heap.size) (hq : ro.Small xs) :
    Calls Tryd.prog 7 #[.agg #[.int .i64 s, f]] w fun e w' => ∃ f', e = .returned (.agg #[.int .i64 s, f']) ∧ IOwn w' w.heap.size w'.heap.size f' xs ∧ Below w.heap.size w w' := by
  obtain ⟨ao, cap, hv⟩ := infs_val ha
  obtain ⟨n, hnn⟩ : ∃ n, n = xs.length := ⟨_, rfl⟩
  rw [← hnn] at hv
  subst hv
  have HN := hid hnn
  clear hnn
  have HA := hid ha
  clear ha
  go_enter Tryd.func7, Tryd.ntmps7
  go_wp2_with fail
  refine (toIS xs _ B _ (((HA.out.al _).al _).al _) (by simp; omega) hq).mono ?_
  rintro e w1 ⟨v', rfl, o1, b1⟩
  obtain ⟨hc, hf⟩ := bcell b1
  have hz := b1.size
  simp at hz
  obtain ⟨ao1, cap1, hv1⟩ := iown_val o1
  rw [← HN.out] at hv1
  subst hv1
  have O1 := hid o1
  have B1 := hid b1
  clear o1 b1
  go_wp2
  refine bodyPost_ret (v := .agg #[.int .i64 s, .slice ao1 n cap1]) (by simp [results, Tryd.results7, go_sem, hc]) rfl ⟨.slice ao1 n cap1, rfl, ?_, ?_⟩
  · have h1 := O1.out.lo (lo' := w.heap.size + 3) (by simp)
    have h2 := iown_other (iown_other (iown_other h1 (w.heap.size + 1 + 1) 1 (.slice ao1 n cap1) (by omega)) (w.heap.size + 1) 0 (.int .i64 s) (by omega)) (w.heap.size + 1) 1 (.slice ao1 n cap1) (by omega)
    have h3 := h2.lo (lo' := w.heap.size) (by omega)
    simpa using h3
  · have h1 := (((((Below.refl w.heap.size w).alloc (Nat.le_refl _) (.cells #[.int .i64 s, .slice ao n cap] 24)).alloc (by simp) (.cells #[.int .i64 0, .slice none 0 0] 28)).alloc (by simp; omega) (.cells #[.int .i64 s, .slice none 0 0] 28))).trans (B1.out.mono (by simp; omega))
    exact ((h1.setCell (by simp; omega) _).setCell (by simp) _).setCell (by simp) _

theorem eqCS (s : Int) (xs : List V) (f g : Value) (B C : Nat) (w : World) (ha : Infs w B f xs) (hb : Infs w C g xs) (hq : ro.Small xs) :
    Calls Tryd.prog 9 #[.agg #[.int .i64 s, f], .agg #[.int .i64 s, g]] w fun e w' => e = .returned (.bool true) ∧ Below w.heap.size w w' := by
  have HB : Hid (Below w.heap.size w ((w.alloc (.cells #[.int .i64 s, f] 28)).alloc (.cells #[.int .i64 s, g] 28))) := hid (((Below.refl w.heap.size w).alloc (Nat.le_refl _) _).alloc (by simp) _)
  have HE := hid (eqIS xs f g B C _ ((ha.al (.cells #[.int .i64 s, f] 28)).al (.cells #[.int .i64 s, g] 28)) ((hb.al (.cells #[.int .i64 s, f] 28)).al (.cells #[.int .i64 s, g] 28)) hq)
  obtain ⟨ao, cap, hv⟩ := infs_val ha
  obtain ⟨ao', cap', hu⟩ := infs_val hb
  clear ha hb hq
  generalize xs.length = n at *
  subst hv hu
  go_enter Tryd.func9, Tryd.ntmps9
  go_wp2_with fail
  refine HE.out.mono ?_
  rintro e w1 ⟨rfl, b1⟩
  have HB1 := hid (HB.out.trans (b1.mono HB.out.size))
  clear b1
  go_wp2
  go_ret
  exact ⟨rfl, HB1.out⟩
theorem cval {w : World} {lo hi : Nat} {v : Value} {xs : List V} (h : IOwn w lo hi v xs) : ∃ ao ln cp, v = .slice ao ln cp := by
  obtain ⟨ao, cp, hv⟩ := iown_val h
  exact ⟨ao, _, cp, hv⟩
end Go.Proofs.YtbbnheiibkcgiabDoor.ct
