/-
  Lists of stitches: a test of all elements (impl.allAre), areStitches, areColumns, l14Ok, l14Stacks.
-/
import Derived.Test.YtnmnikpgjglonaaSt1
import Derived.Test.YtnmnikpgjglonaaFv
namespace Go.Proofs.Ytnmnikpgjglonaa.st
open Go.RowKit Go.Proofs.Ytnmnikpgjglonaa.sl Go.Proofs.Ytnmnikpgjglonaa.pm Go.Proofs.Ytnmnikpgjglonaa.br
set_option linter.unusedVariables false
set_option maxRecDepth 100000

theorem any_not (p : Int → Bool) (xs : List Int) : (!(xs.any fun x => !p x)) = xs.all p := by
  induction xs with
  | nil => rfl
  | cons x xs ih => simp only [List.any_cons, List.all_cons, Bool.not_or, Bool.not_not, ih]

theorem implAll1 (g : Nat) (p : Int → Bool) (b : Nat) (x : Int) (w : World) (h0 : w.cell? ⟨b, 0, none⟩ = some (.func (.func g) #[] #[]))
    (eg : ∀ args w, (callFunc g args).run Try.prog w = .ok (.enter g args) w) (hg : ∀ W : World, Calls Try.prog g #[.int .i64 x] W fun e w' => e = .returned (.bool (p x)) ∧ W = w') :
    Calls Try.prog 86 #[.int .i64 x, .pointer (some ⟨b, 0, none⟩)] w fun e w' => e = .returned (.bool (!(p x))) ∧ Below w.heap.size w w' := by
  have HG := hid hg
  clear hg
  generalize p x = q at *
  go_enter Try.func86, Try.ntmps86
  go_wp2_with fail
  refine (HG.out _).mono ?_
  rintro e w1 ⟨rfl, rfl⟩
  go_wp2
  go_ret
  exact ⟨rfl, Below.refl _ _⟩

theorem implAll (g : Nat) (p : Int → Bool) (xs : List Int) (v : Value) (B : Nat) (w : World) (ha : Ints w B v xs) (hB : B ≤ w.heap.size) (hn : xs.length ≤ 1099511627776)
    (eg : ∀ args w, (callFunc g args).run Try.prog w = .ok (.enter g args) w) (hg : ∀ (x : Int) (W : World), Calls Try.prog g #[.int .i64 x] W fun e w' => e = .returned (.bool (p x)) ∧ W = w') :
    Calls Try.prog 66 #[.func (.func g) #[] #[], v] w fun e w' => e = .returned (.bool (xs.all p)) ∧ Below w.heap.size w w' := by
  have HC := hid (fv.contFuncC (fun x => !p x) 86 (.pointer (some ⟨w.heap.size, 0, none⟩)) xs v B (w.alloc (.cells #[.func (.func g) #[] #[]] 73)) (ints_al ha _) (by simp; omega) hn (fun _ _ => rfl) (fun x W b => implAll1 g p _ x W ((b.cell (p := ⟨w.heap.size, 0, none⟩) (by simp)).trans (World.cell?_alloc_at _ _ _ _ rfl)) eg (hg x)))
  have hq := any_not p xs
  generalize (xs.any fun x => !p x) = q at *
  obtain ⟨r, hr⟩ : ∃ r, r = xs.all p := ⟨_, rfl⟩
  rw [← hr] at hq ⊢
  have HQ := hid hq
  have hal := hid ((Below.refl w.heap.size w).alloc (Nat.le_refl _) (.cells #[.func (.func g) #[] #[]] 73))
  obtain ⟨ao, cap, hv⟩ := ints_val ha
  clear hq hr ha hg eg
  generalize xs.length = n at *
  subst hv
  go_enter Try.func66, Try.ntmps66
  go_wp2_with fail
  refine HC.out.mono ?_
  rintro e w1 ⟨rfl, b1⟩
  have B1 := hid (hal.out.trans (b1.mono hal.out.size))
  clear b1
  go_wp2
  go_ret
  exact ⟨by rw [← HQ.out]; rfl, B1.out⟩

end Go.Proofs.Ytnmnikpgjglonaa.st
