/-
  Letters of a row: the program.
-/
import Derived.Test.YtbbnheiibkcgiaaDoorRl0
import Derived.Test.YtbbnheiibkcgiaaDoorMk1
import Derived.Test.YtbbnheiibkcgiaaDoorStb
namespace Go.Proofs.YtbbnheiibkcgiaaDoor.rl
open Go.RowKit Go.Proofs.YtbbnheiibkcgiaaDoor.sl Go.Proofs.YtbbnheiibkcgiaaDoor.pm Go.Proofs.YtbbnheiibkcgiaaDoor.br Go.Proofs.YtbbnheiibkcgiaaDoor.bw Go.Proofs.YtbbnheiibkcgiaaDoor.st
set_option linter.unusedVariables false
set_option maxRecDepth 100000

theorem ints_cut {w : World} {B : Nat} {ao : Option Addr} {n c : Nat} {xs : List Int} (h : Ints w B (.slice ao n c) xs) (t : Nat) (ht : t ≤ xs.length) : Ints w B (.slice ao t c) (xs.take t) := by
  by_cases h0 : t = 0
  · subst h0; exact .inl ⟨by simp, ao, c, rfl⟩
  · rcases h with ⟨rfl, _⟩ | ⟨hp, b, off, cap, hv, hb, hc⟩
    · simp at ht; omega
    · simp only [Value.slice.injEq] at hv
      obtain ⟨rfl, hl, rfl⟩ := hv
      have hlt : (xs.take t).length = t := by rw [List.length_take]; omega
      refine .inr ⟨by omega, b, off, c, by rw [hlt], hb, fun j hj => ?_⟩
      rw [hlt] at hj
      rw [hc j (by omega)]
      simp [List.getD, hj]
theorem withinQ (c lo hi : Int) (q : Bool) (hq : decide (lo ≤ c ∧ c ≤ hi) = q) (w : World) : Calls Tryd.prog 67 #[.int .i64 c, .int .i64 lo, .int .i64 hi] w fun e w' => e = .returned (.bool q) ∧ w = w' := by
  rw [← hq]; exact within64 c lo hi w
theorem inQ (c lo hi : Int) (q : Bool) (hq : decide (lo ≤ c ∧ c ≤ hi) = q) (w : World) : Calls Tryd.prog 46 #[.int .i64 c, .int .i64 lo, .int .i64 hi] w fun e w' => e = .returned (.bool q) ∧ w = w' := by
  rw [← hq]; exact pm.specIn c lo hi w

theorem built2 (w : World) (o : Obj) : Own ((w.alloc o).alloc (.cells #[] 2)) (w.heap.size + 1) ((w.alloc o).alloc (.cells #[] 2)).heap.size (.slice (some ⟨w.heap.size + 1, 0, none⟩) 0 0) [] := by
  have h := Own.built (w.alloc o) #[] rfl
  have e : (w.alloc o).heap.size = w.heap.size + 1 := by simp
  rw [e] at h
  exact h

end Go.Proofs.YtbbnheiibkcgiaaDoor.rl
