/-
  ColumnBraid: sizes of columns tested; its mathematics.
-/
import Derived.Test.YtedajefapddekaaFv
import Derived.Test.YtedajefapddekaaFr0
import Derived.Test.YtedajefapddekaaFr4
import Derived.Test.YtedajefapddekaaDb6
namespace Go.Proofs.Ytedajefapddekaa.cb
open Go.RowKit Go.Proofs.Ytedajefapddekaa.sl Go.Proofs.Ytedajefapddekaa.pm Go.Proofs.Ytedajefapddekaa.br Go.Proofs.Ytedajefapddekaa.bw Go.Proofs.Ytedajefapddekaa.fn Go.Proofs.Ytedajefapddekaa.db
set_option linter.unusedVariables false
set_option maxRecDepth 100000

def stk (x : Int) : Bool := decide (1 ≤ x ∧ x ≤ 4)
theorem any_not (p : Int → Bool) (xs : List Int) : (!(xs.any fun x => !p x)) = xs.all p := by
  induction xs with
  | nil => rfl
  | cons x xs ih => simp only [List.any_cons, List.all_cons, Bool.not_or, Bool.not_not, ih]

theorem implAll1 (g : Nat) (p : Int → Bool) (b : Nat) (x : Int) (w : World) (h0 : w.cell? ⟨b, 0, none⟩ = some (.func (.func g) #[] #[]))
    (eg : ∀ args w, (callFunc g args).run Try.prog w = .ok (.enter g args) w) (hg : ∀ W : World, Calls Try.prog g #[.int .i64 x] W fun e w' => e = .returned (.bool (p x)) ∧ W = w') :
    Calls Try.prog 104 #[.int .i64 x, .pointer (some ⟨b, 0, none⟩)] w fun e w' => e = .returned (.bool (!(p x))) ∧ Below w.heap.size w w' := by
  have HG := hid hg
  clear hg
  generalize p x = q at *
  go_enter Try.func104, Try.ntmps104
  go_wp2_with fail
  refine (HG.out _).mono ?_
  rintro e w1 ⟨rfl, rfl⟩
  go_wp2
  go_ret
  exact ⟨rfl, Below.refl _ _⟩

theorem implAll (g : Nat) (p : Int → Bool) (xs : List Int) (v : Value) (B : Nat) (w : World) (ha : Ints w B v xs) (hB : B ≤ w.heap.size) (hn : xs.length ≤ 1099511627776)
    (eg : ∀ args w, (callFunc g args).run Try.prog w = .ok (.enter g args) w) (hg : ∀ (x : Int) (W : World), Calls Try.prog g #[.int .i64 x] W fun e w' => e = .returned (.bool (p x)) ∧ W = w') :
    Calls Try.prog 69 #[.func (.func g) #[] #[], v] w fun e w' => e = .returned (.bool (xs.all p)) ∧ Below w.heap.size w w' := by
  have HC := hid (fv.contFuncC (fun x => !p x) 104 (.pointer (some ⟨w.heap.size, 0, none⟩)) xs v B (w.alloc (.cells #[.func (.func g) #[] #[]] 72)) (ints_al ha _) (by simp; omega) hn (fun _ _ => rfl) (fun x W b => implAll1 g p _ x W ((b.cell (p := ⟨w.heap.size, 0, none⟩) (by simp)).trans (World.cell?_alloc_at _ _ _ _ rfl)) eg (hg x)))
  have hq := any_not p xs
  generalize (xs.any fun x => !p x) = q at *
  obtain ⟨r, hr⟩ : ∃ r, r = xs.all p := ⟨_, rfl⟩
  rw [← hr] at hq ⊢
  have HQ := hid hq
  have hal := hid ((Below.refl w.heap.size w).alloc (Nat.le_refl _) (.cells #[.func (.func g) #[] #[]] 72))
  obtain ⟨ao, cap, hv⟩ := ints_val ha
  clear hq hr ha hg eg
  generalize xs.length = n at *
  subst hv
  go_enter Try.func69, Try.ntmps69
  go_wp2_with fail
  refine HC.out.mono ?_
  rintro e w1 ⟨rfl, b1⟩
  have B1 := hid (hal.out.trans (b1.mono hal.out.size))
  clear b1
  go_wp2
  go_ret
  exact ⟨by rw [← HQ.out]; rfl, B1.out⟩

theorem implStack (x : Int) (w : World) : Calls Try.prog 70 #[.int .i64 x] w fun e w' => e = .returned (.bool (stk x)) ∧ w = w' := by
  obtain ⟨q, hq⟩ : ∃ q, q = stk x := ⟨_, rfl⟩
  have H := hid (fun w1 => show Calls Try.prog 60 #[.int .i64 x, .int .i64 1, .int .i64 4] w1 fun e w2 => e = .returned (.bool q) ∧ w1 = w2 from by rw [hq]; exact within64 x 1 4 w1)
  rw [← hq]
  clear hq
  go_enter Try.func70, Try.ntmps70
  go_wp2_with fail
  refine (H.out _).mono ?_
  rintro e w1 ⟨rfl, rfl⟩
  go_wp2
  go_ret
  exact ⟨rfl, rfl⟩

theorem all_stk {ss : List Int} (h : ss.all stk = true) : (∀ j, j < ss.length → 1 ≤ ss.getD j 0 ∧ ss.getD j 0 ≤ 4) ∧ Sm ss := by
  rw [List.all_eq_true] at h
  have h1 : ∀ j, j < ss.length → 1 ≤ ss.getD j 0 ∧ ss.getD j 0 ≤ 4 := fun j hj => by
    have := h (ss.getD j 0) (by rw [show ss.getD j 0 = ss[j] from by simp [List.getD, List.getElem?_eq_getElem hj]]; exact List.getElem_mem hj)
    simpa [stk] using this
  refine ⟨h1, fun j => ?_⟩
  by_cases hj : j < ss.length
  · have := h1 j hj; omega
  · rw [show ss.getD j 0 = 0 from by simp [List.getD, List.getElem?_eq_none (show ss.length ≤ j by omega)]]; omega
theorem red_mem (xs : List Int) : ∀ y, y ∈ redL xs → y ∈ xs := by
  have : ∀ (l st : List Int) (y : Int), y ∈ l.foldl push st → y ∈ st ∨ y ∈ l := by
    intro l
    induction l with
    | nil => intro st y h; exact .inl h
    | cons x l ih =>
      intro st y h
      rcases ih (push st x) y h with h | h
      · unfold push at h
        split at h
        · exact .inl (List.dropLast_subset st h)
        · rcases List.mem_append.1 h with h | h
          · exact .inl h
          · obtain rfl : y = x := by simpa using h
            exact .inr (List.mem_cons_self)
      · exact .inr (List.mem_cons_of_mem _ h)
  intro y h
  rcases this xs [] y h with h | h
  · simp at h
  · exact h
theorem red_let {s : Int} {xs : List Int} (h : okB s xs = true) (ss : List Int) (hs : (ss.length : Int) = s) : ∀ j, j < (redL xs).length → (redL xs).getD j 0 ≠ 0 ∧ 1 - (ss.length : Int) ≤ (redL xs).getD j 0 ∧ (redL xs).getD j 0 ≤ (ss.length : Int) - 1 := by
  intro j hj
  have hm : (redL xs).getD j 0 ∈ xs := red_mem xs _ (by rw [show (redL xs).getD j 0 = (redL xs)[j] from by simp [List.getD, List.getElem?_eq_getElem hj]]; exact List.getElem_mem hj)
  obtain ⟨k, hk, e⟩ := List.getElem_of_mem hm
  have := (ok_parts h).2.2.2 k hk
  rw [show xs.getD k 0 = xs[k] from by simp [List.getD, List.getElem?_eq_getElem hk], e] at this
  rw [hs]; exact this

/-- The word of strands, before it is reduced. -/
def dW (xs ss : List Int) : List Int := dbW ss (redL xs) (redL xs).length
def cR (xs ss : List Int) : List Int := redL (dW xs ss)
def cbP (s : Int) (xs ss : List Int) : Bool := okB s xs && decide ((ss.length : Int) = s)
def cbSt (s : Int) (xs ss : List Int) : Int := if cbP s xs ss = true then (if ss.all stk = true then joinS (sumL ss) [cR xs ss] else 0) else 0
def cbWo (s : Int) (xs ss : List Int) : List Int := if cbP s xs ss = true then (if ss.all stk = true then joinW (sumL ss) [cR xs ss] else []) else []
def cbCo (s : Int) (xs ss : List Int) : Int := if cbP s xs ss = true then (if ss.all stk = true then joinC (sumL ss) [cR xs ss] else 2) else 1
theorem cb_bad {s : Int} {xs ss : List Int} (h : cbP s xs ss = false) : cbSt s xs ss = 0 ∧ cbWo s xs ss = [] ∧ cbCo s xs ss = 1 := by unfold cbSt cbWo cbCo; rw [h]; exact ⟨rfl, rfl, rfl⟩
theorem cb_rng {s : Int} {xs ss : List Int} (h : cbP s xs ss = true) (h2 : ss.all stk = false) : cbSt s xs ss = 0 ∧ cbWo s xs ss = [] ∧ cbCo s xs ss = 2 := by unfold cbSt cbWo cbCo; rw [h, h2]; exact ⟨rfl, rfl, rfl⟩
theorem cb_go {s : Int} {xs ss : List Int} (h : cbP s xs ss = true) (h2 : ss.all stk = true) : cbSt s xs ss = joinS (sumL ss) [cR xs ss] ∧ cbWo s xs ss = joinW (sumL ss) [cR xs ss] ∧ cbCo s xs ss = joinC (sumL ss) [cR xs ss] := by unfold cbSt cbWo cbCo; rw [h, h2]; exact ⟨rfl, rfl, rfl⟩
theorem cbWo_len (s : Int) (xs ss : List Int) : (cbWo s xs ss).length ≤ 20000 := by
  unfold cbWo joinW
  split
  · split
    · split
      · rename_i h
        simp only [joinOk, Bool.and_eq_true, decide_eq_true_eq] at h
        omega
      · simp
    · simp
  · simp
theorem cR_len {xs ss : List Int} (hx : xs.length ≤ 40) (hsm : Sm ss) : (dW xs ss).length ≤ 640 ∧ (cR xs ss).length ≤ 640 := by
  have h1 := redL_len xs
  have h2 := dbW_len ss (redL xs) hsm (redL xs).length (Nat.le_refl _)
  have h3 := redL_len (dW xs ss)
  have h4 : (dW xs ss).length ≤ 640 := by unfold dW; omega
  exact ⟨h4, by unfold cR; omega⟩
theorem cR_ok {s : Int} {xs ss : List Int} (h : okB s xs = true) (hs : (ss.length : Int) = s) (hsm : Sm ss) : okB (sumL ss) (cR xs ss) = joinOk (sumL ss) [cR xs ss] := by
  have hl : ss.length ≤ 12 := by have := (ok_parts h).2.1; omega
  have h0 := (sm_sum ss hsm ss.length (by omega)).1
  rw [List.take_length] at h0
  have hall : (cR xs ss).all (letB (sumL ss)) = true := by
    rw [List.all_eq_true]
    intro y hy
    simpa [letB] using dbW_let ss (redL xs) hsm hl (red_let h ss hs) y (red_mem _ y hy)
  unfold okB joinOk
  rw [hall, Bool.and_true]
  congr 1
  · simp [h0]
  · simp
theorem dW_small {s : Int} {xs ss : List Int} (h : okB s xs = true) (hs : (ss.length : Int) = s) (hsm : Sm ss) : ∀ j, j < (dW xs ss).length → -100 ≤ (dW xs ss).getD j 0 ∧ (dW xs ss).getD j 0 ≤ 100 := by
  have hl : ss.length ≤ 12 := by have := (ok_parts h).2.1; omega
  have h0 := sumTo_le ss 4 (fun j hj => by have := hsm j; omega) ss.length (Nat.le_refl _)
  rw [sumTo_all] at h0
  have h9 : sumL ss ≤ 48 := by have : ((ss.length * 4 : Nat) : Int) ≤ 48 := by omega
                               omega
  clear h0
  intro j hj
  have h1 := dbW_let ss (redL xs) hsm hl (red_let h ss hs) ((dW xs ss).getD j 0) (by rw [show (dW xs ss).getD j 0 = (dW xs ss)[j] from by simp [List.getD, List.getElem?_eq_getElem hj]]; exact List.getElem_mem hj)
  omega
end Go.Proofs.Ytedajefapddekaa.cb
