/-
  RackOps of both sides.
-/
import Derived.Test.YtedajefapddekaaOz0
namespace Go.Proofs.Ytedajefapddekaa.mo
open Go.RowKit Go.Sort Go.Proofs.Ytedajefapddekaa.sl Go.Proofs.Ytedajefapddekaa.pm
set_option linter.unusedVariables false

def raB (a b : Int) : Bool := frB a && frB b
def raC (a b : Int) : Int := if raB a b = true then (if -3 ≤ b - a ∧ b - a ≤ 3 then 0 else 8) else 1
def raW (a b : Int) : List qo.V := if raB a b = true then (if -3 ≤ b - a ∧ b - a ≤ 3 then opL a b else []) else []
theorem raW_len (a b : Int) : (raW a b).length ≤ 20000 := by unfold raW; split <;> (try split) <;> simp [opL]
theorem ra_bad {a b : Int} (h : raB a b = false) : raW a b = [] ∧ raC a b = 1 := by unfold raW raC; rw [h]; exact ⟨rfl, rfl⟩
theorem ra_far {a b : Int} (h : raB a b = true) (h2 : ¬ (-3 ≤ b - a ∧ b - a ≤ 3)) : raW a b = [] ∧ raC a b = 8 := by unfold raW raC; rw [h, if_pos rfl, if_pos rfl, if_neg h2, if_neg h2]; exact ⟨rfl, rfl⟩
theorem ra_yes {a b : Int} (h : raB a b = true) (h2 : -3 ≤ b - a ∧ b - a ≤ 3) : raW a b = opL a b ∧ raC a b = 0 := by unfold raW raC; rw [h, if_pos rfl, if_pos rfl, if_pos h2, if_pos h2]; exact ⟨rfl, rfl⟩

theorem implRack (a b : Int) (w : World) : Calls Try.prog 16 #[.int .i64 a, .int .i64 b] w fun e w' => ∃ v', e = .returned (.tuple #[v', .int .i64 (raC a b)]) ∧ qo.OOwn w' w.heap.size w'.heap.size v' (raW a b) ∧ Below w.heap.size w w' := by
  have c0 : (w.alloc (.cells #[.int .i64 a, .int .i64 b] 71)).cell? ⟨w.heap.size, 0, none⟩ = some (.int .i64 a) := World.cell?_alloc_at _ _ _ _ rfl
  have c1 : (w.alloc (.cells #[.int .i64 a, .int .i64 b] 71)).cell? ⟨w.heap.size, 1, none⟩ = some (.int .i64 b) := World.cell?_alloc_at _ _ _ _ rfl
  have HE := hid ((Below.refl w.heap.size w).alloc (Nat.le_refl _) (.cells #[.int .i64 a, .int .i64 b] 71))
  have hz0 : w.heap.size < (w.alloc (.cells #[.int .i64 a, .int .i64 b] 71)).heap.size := by simp
  cases h1 : frB a
  · have HW := hid (ra_bad (a := a) (b := b) (by unfold raB; rw [h1]; rfl))
    have HF := hid (frontQ a false h1)
    clear h1
    go_enter Try.func16, Try.ntmps16
    go_wp2_with fail
    generalize w.alloc (.cells #[.int .i64 a, .int .i64 b] 71) = W0 at *
    refine (HF.out _).mono ?_
    rintro e w1 ⟨rfl, hw⟩
    obtain rfl := hw
    go_wp2
    go_ret2
    exact ⟨.slice none 0 0, by rw [HW.out.2]; rfl, by rw [HW.out.1]; exact (qo.ROwn.nil _ _).oown, HE.out⟩
  · have HF := hid (frontQ a true h1)
    cases h2 : frB b
    · have HW := hid (ra_bad (a := a) (b := b) (by unfold raB; rw [h1, h2]; rfl))
      have HG := hid (frontQ b false h2)
      clear h1 h2
      go_enter Try.func16, Try.ntmps16
      go_wp2_with fail
      generalize w.alloc (.cells #[.int .i64 a, .int .i64 b] 71) = W0 at *
      refine (HF.out _).mono ?_
      rintro e w1 ⟨rfl, hw⟩
      obtain rfl := hw
      go_wp2_with fail
      refine (HG.out _).mono ?_
      rintro e w2 ⟨rfl, hw⟩
      obtain rfl := hw
      go_wp2
      go_ret2
      exact ⟨.slice none 0 0, by rw [HW.out.2]; rfl, by rw [HW.out.1]; exact (qo.ROwn.nil _ _).oown, HE.out⟩
    · have HG := hid (frontQ b true h2)
      have hr : (0 ≤ a ∧ a ≤ 23) ∧ (0 ≤ b ∧ b ≤ 23) := ⟨fr_iff.1 h1, fr_iff.1 h2⟩
      have HD := hid (dist a b hr)
      have hds : dsI a b = if b - a < 0 then a - b else b - a := by unfold dsI; split <;> split <;> omega
      by_cases h3 : -3 ≤ b - a ∧ b - a ≤ 3
      · have HW := hid (ra_yes (a := a) (b := b) (by unfold raB; rw [h1, h2]; rfl) h3)
        have hd3 : ¬ 3 < dsI a b := by rw [hds]; split <;> omega
        have HO := hid (implOps a b hr)
        clear h1 h2 h3 hr hds
        generalize dsI a b = d at *
        go_enter Try.func16, Try.ntmps16
        go_wp2_with fail
        generalize w.alloc (.cells #[.int .i64 a, .int .i64 b] 71) = W0 at *
        refine (HF.out _).mono ?_
        rintro e w1 ⟨rfl, hw⟩
        obtain rfl := hw
        go_wp2_with fail
        refine (HG.out _).mono ?_
        rintro e w2 ⟨rfl, hw⟩
        obtain rfl := hw
        go_wp2_with fail
        refine (HD.out _).mono ?_
        rintro e w3 ⟨rfl, b3⟩
        have HB3 := hid (HE.out.trans (b3.mono (by omega)))
        have d0 := (b3.cell (p := ⟨w.heap.size, 0, none⟩) hz0).trans c0
        have d1 := (b3.cell (p := ⟨w.heap.size, 1, none⟩) hz0).trans c1
        clear b3 c0 c1
        go_wp2_with fail
        refine (HO.out _).mono ?_
        rintro e w4 ⟨v4, rfl, o4, b4⟩
        have HO4 := hid ((o4.lo HB3.out.size).oown)
        have HB4 := hid (HB3.out.trans (b4.mono HB3.out.size))
        clear b4 o4 d0 d1
        go_wp2
        go_ret2
        exact ⟨v4, by rw [HW.out.2]; rfl, by rw [HW.out.1]; exact HO4.out, HB4.out⟩
      · have HW := hid (ra_far (a := a) (b := b) (by unfold raB; rw [h1, h2]; rfl) h3)
        have hd3 : 3 < dsI a b := by rw [hds]; split <;> omega
        clear h1 h2 h3 hr hds
        generalize dsI a b = d at *
        go_enter Try.func16, Try.ntmps16
        go_wp2_with fail
        generalize w.alloc (.cells #[.int .i64 a, .int .i64 b] 71) = W0 at *
        refine (HF.out _).mono ?_
        rintro e w1 ⟨rfl, hw⟩
        obtain rfl := hw
        go_wp2_with fail
        refine (HG.out _).mono ?_
        rintro e w2 ⟨rfl, hw⟩
        obtain rfl := hw
        go_wp2_with fail
        refine (HD.out _).mono ?_
        rintro e w3 ⟨rfl, b3⟩
        have HB3 := hid (HE.out.trans (b3.mono (by omega)))
        clear b3 c0 c1
        go_wp2
        go_ret2
        exact ⟨.slice none 0 0, by rw [HW.out.2]; rfl, by rw [HW.out.1]; exact (qo.ROwn.nil _ _).oown, HB3.out⟩

theorem specRack (a b : Int) (w : World) : Calls Try.prog 15 #[.int .i64 a, .int .i64 b] w fun e w' => ∃ v', e = .returned (.tuple #[v', .int .i64 (raC a b)]) ∧ qo.OOwn w' w.heap.size w'.heap.size v' (raW a b) ∧ Below w.heap.size w w' := by
  cases h1 : frB a
  · have HW := hid (ra_bad (a := a) (b := b) (by unfold raB; rw [h1]; rfl))
    have HF := hid (inQ a false h1)
    clear h1
    go_enter Try.func15, Try.ntmps15
    go_wp2_with fail
    refine (HF.out _).mono ?_
    rintro e w1 ⟨rfl, hw⟩
    obtain rfl := hw.symm
    go_wp2
    go_ret2
    exact ⟨.slice none 0 0, by rw [HW.out.2]; rfl, by rw [HW.out.1]; exact (qo.ROwn.nil _ _).oown, Below.refl _ _⟩
  · have HF := hid (inQ a true h1)
    cases h2 : frB b
    · have HW := hid (ra_bad (a := a) (b := b) (by unfold raB; rw [h1, h2]; rfl))
      have HG := hid (inQ b false h2)
      clear h1 h2
      go_enter Try.func15, Try.ntmps15
      go_wp2_with fail
      refine (HF.out _).mono ?_
      rintro e w1 ⟨rfl, hw⟩
      obtain rfl := hw.symm
      go_wp2_with fail
      refine (HG.out _).mono ?_
      rintro e w2 ⟨rfl, hw⟩
      obtain rfl := hw.symm
      go_wp2
      go_ret2
      exact ⟨.slice none 0 0, by rw [HW.out.2]; rfl, by rw [HW.out.1]; exact (qo.ROwn.nil _ _).oown, Below.refl _ _⟩
    · have HG := hid (inQ b true h2)
      have hr : (0 ≤ a ∧ a ≤ 23) ∧ (0 ≤ b ∧ b ≤ 23) := ⟨fr_iff.1 h1, fr_iff.1 h2⟩
      have e1 : IntKind.i64.wrap (b - a) = b - a := IntWalk.i64_in _ (by omega)
      cases h3 : decide (-3 ≤ b - a ∧ b - a ≤ 3)
      · have HW := hid (ra_far (a := a) (b := b) (by unfold raB; rw [h1, h2]; rfl) (of_decide_eq_false h3))
        have HI := hid (specInR (b - a) (-3) 3 false h3)
        clear h1 h2 h3 hr
        go_enter Try.func15, Try.ntmps15
        go_wp2_with fail
        refine (HF.out _).mono ?_
        rintro e w1 ⟨rfl, hw⟩
        obtain rfl := hw.symm
        go_wp2_with fail
        refine (HG.out _).mono ?_
        rintro e w2 ⟨rfl, hw⟩
        obtain rfl := hw.symm
        go_wp2_with fail
        refine (HI.out _).mono ?_
        rintro e w3 ⟨rfl, hw⟩
        obtain rfl := hw
        go_wp2
        go_ret2
        exact ⟨.slice none 0 0, by rw [HW.out.2]; rfl, by rw [HW.out.1]; exact (qo.ROwn.nil _ _).oown, Below.refl _ _⟩
      · have HW := hid (ra_yes (a := a) (b := b) (by unfold raB; rw [h1, h2]; rfl) (of_decide_eq_true h3))
        have HI := hid (specInR (b - a) (-3) 3 true h3)
        have HO := hid (specOv a b hr)
        clear h1 h2 h3 hr
        go_enter Try.func15, Try.ntmps15
        go_wp2_with fail
        refine (HF.out _).mono ?_
        rintro e w1 ⟨rfl, hw⟩
        obtain rfl := hw.symm
        go_wp2_with fail
        refine (HG.out _).mono ?_
        rintro e w2 ⟨rfl, hw⟩
        obtain rfl := hw.symm
        go_wp2_with fail
        refine (HI.out _).mono ?_
        rintro e w3 ⟨rfl, hw⟩
        obtain rfl := hw
        go_wp2_with fail
        refine (HO.out _).mono ?_
        rintro e w4 ⟨v4, rfl, o4, b4⟩
        have HO4 := hid o4.oown
        have HB4 := hid b4
        clear b4 o4
        go_wp2
        go_ret2
        exact ⟨v4, by rw [HW.out.2]; rfl, by rw [HW.out.1]; exact HO4.out, HB4.out⟩
end Go.Proofs.Ytedajefapddekaa.mo
