/-
  Rows of charts: isValid of the program, l15Row of the model, ValidRow of both.
-/
import Derived.Test.YtbbnheiibkcgiabDoorSt2
import Derived.Test.YtbbnheiibkcgiabDoorVo
import Derived.Test.YtbbnheiibkcgiabDoorCto
namespace Go.Proofs.YtbbnheiibkcgiabDoor.vr5
open Go.RowKit Go.Proofs.YtbbnheiibkcgiabDoor.sl Go.Proofs.YtbbnheiibkcgiabDoor.pm Go.Proofs.YtbbnheiibkcgiabDoor.br
set_option linter.unusedVariables false

/-- A valid row. -/
def rowB (d c : Int) (xs : List Int) : Bool := vo.dirB d && (vo.carB c && st.lst xs)

theorem implIsValid (d c : Int) (xs : List Int) (v : Value) (B : Nat) (w : World) (ha : Ints w B v xs) (hB : B ≤ w.heap.size) (hn : xs.length ≤ 1099511627776) :
    Calls Tryd.prog 65 #[.agg #[.int .i64 d, .int .i64 c, v]] w fun e w' => e = .returned (.bool (rowB d c xs)) ∧ Below w.heap.size w w' := by
  have HD := hid (fun W => vo.implDir d W)
  have HC := hid (fun W => vo.implCar c W)
  have HS := hid (st.implSts xs v B (w.alloc (.cells #[.int .i64 d, .int .i64 c, v] 50)) (ints_al ha _) (by simp; omega) hn)
  have hal := hid ((Below.refl w.heap.size w).alloc (Nat.le_refl _) (.cells #[.int .i64 d, .int .i64 c, v] 50))
  obtain ⟨ao, cap, hv⟩ := ints_val ha
  obtain ⟨q, hq⟩ : ∃ q, q = rowB d c xs := ⟨_, rfl⟩
  rw [← hq]
  simp only [rowB] at hq
  clear ha
  generalize vo.dirB d = x at *
  generalize vo.carB c = y at *
  generalize st.lst xs = z at *
  generalize xs.length = n at *
  subst hv
  cases x
  · have HQ : Hid (q = false) := hid (by rw [hq]; rfl)
    clear hq HS HC
    go_enter Tryd.func65, Tryd.ntmps65
    go_wp2_with fail
    refine (HD.out _).mono ?_
    rintro e w1 ⟨rfl, rfl⟩
    go_wp2
    go_ret
    exact ⟨by rw [HQ.out]; first | done | rfl, hal.out⟩
  · cases y
    · have HQ : Hid (q = false) := hid (by rw [hq]; rfl)
      clear hq HS
      go_enter Tryd.func65, Tryd.ntmps65
      go_wp2_with fail
      refine (HD.out _).mono ?_
      rintro e w1 ⟨rfl, rfl⟩
      go_wp2_with fail
      refine (HC.out _).mono ?_
      rintro e w1 ⟨rfl, rfl⟩
      go_wp2
      go_ret
      exact ⟨by rw [HQ.out]; first | done | rfl, hal.out⟩
    · have HQ : Hid (q = z) := hid (by rw [hq]; rfl)
      clear hq
      go_enter Tryd.func65, Tryd.ntmps65
      go_wp2_with fail
      refine (HD.out _).mono ?_
      rintro e w1 ⟨rfl, rfl⟩
      go_wp2_with fail
      refine (HC.out _).mono ?_
      rintro e w1 ⟨rfl, rfl⟩
      go_wp2_with fail
      refine HS.out.mono ?_
      rintro e w1 ⟨rfl, b1⟩
      have B1 := hid (hal.out.trans (b1.mono hal.out.size))
      clear b1
      go_wp2
      go_ret
      exact ⟨by rw [HQ.out]; first | done | rfl, B1.out⟩

/-- A row in memory, and the model's test. -/
theorem specRow (d c : Int) (xs : List Int) (v : Value) (B : Nat) (p o : Nat) (w : World) (H : ro.At w p o ⟨d, c, xs⟩ v) (ha : Ints w B v xs) (hB : B ≤ w.heap.size) (hn : xs.length ≤ 1099511627776) :
    Calls Tryd.prog 44 #[.pointer (some ⟨p, o, none⟩)] w fun e w' => e = .returned (.bool (rowB d c xs)) ∧ w = w' := by
  have HC := hid (fun W => show Calls Tryd.prog 16 #[.int .i64 c, .int .i64 1, .int .i64 4] W fun e w2 => e = .returned (.bool (vo.carB c)) ∧ W = w2 from pm.specIn c 1 4 W)
  have HS := hid (st.specSts xs v B w ha hB hn)
  have c0 := H.c0
  have c1 := H.c1
  have c2 := H.c2
  simp only at c0 c1 c2
  obtain ⟨ao, cap, hv⟩ := ints_val ha
  obtain ⟨q, hq⟩ : ∃ q, q = rowB d c xs := ⟨_, rfl⟩
  rw [← hq]
  simp only [rowB] at hq
  clear ha H
  generalize vo.carB c = y at *
  generalize st.lst xs = z at *
  generalize xs.length = n at *
  subst hv
  by_cases h1 : d = 1
  · subst h1
    cases y
    · have HQ : Hid (q = false) := hid (by rw [hq]; rfl)
      clear hq HS
      go_enter Tryd.func44, Tryd.ntmps44
      go_wp2_with fail
      refine (HC.out _).mono ?_
      rintro e w1 ⟨rfl, rfl⟩
      go_wp2
      go_ret
      exact ⟨by rw [HQ.out]; first | done | rfl, rfl⟩
    · have HQ : Hid (q = z) := hid (by rw [hq]; rfl)
      clear hq
      go_enter Tryd.func44, Tryd.ntmps44
      go_wp2_with fail
      refine (HC.out _).mono ?_
      rintro e w1 ⟨rfl, rfl⟩
      go_wp2_with fail
      refine HS.out.mono ?_
      rintro e w1 ⟨rfl, rfl⟩
      go_wp2
      go_ret
      exact ⟨by rw [HQ.out]; first | done | rfl, rfl⟩
  · have e1 : (d == 1) = false := by simpa using h1
    by_cases h2 : d = -1
    · subst h2
      cases y
      · have HQ : Hid (q = false) := hid (by rw [hq]; rfl)
        clear hq HS
        go_enter Tryd.func44, Tryd.ntmps44
        go_wp2_with fail
        refine (HC.out _).mono ?_
        rintro e w1 ⟨rfl, rfl⟩
        go_wp2
        go_ret
        exact ⟨by rw [HQ.out]; first | done | rfl, rfl⟩
      · have HQ : Hid (q = z) := hid (by rw [hq]; rfl)
        clear hq
        go_enter Tryd.func44, Tryd.ntmps44
        go_wp2_with fail
        refine (HC.out _).mono ?_
        rintro e w1 ⟨rfl, rfl⟩
        go_wp2_with fail
        refine HS.out.mono ?_
        rintro e w1 ⟨rfl, rfl⟩
        go_wp2
        go_ret
        exact ⟨by rw [HQ.out]; first | done | rfl, rfl⟩
    · have e2 : (d == -1) = false := by simpa using h2
      have HQ : Hid (q = false) := hid (by rw [hq]; simp [vo.dirB, h1, h2])
      clear hq HS HC
      go_enter Tryd.func44, Tryd.ntmps44
      go_wp2
      go_ret
      exact ⟨by rw [HQ.out]; first | done | rfl, rfl⟩

end Go.Proofs.YtbbnheiibkcgiabDoor.vr5
