/-
  LoopsOn of the program: the loops on a needle.
-/
import Derived.Test.YtfechjhngcmdpaaVmg
import Derived.Test.YtfechjhngcmdpaaRed
import Derived.BigQuiet
namespace Go.Proofs.Ytfechjhngcmdpaa.mc
open Go.RowKit Go.Sort Go.Proofs.Ytfechjhngcmdpaa.sl Go.Proofs.Ytfechjhngcmdpaa.br Go.Proofs.Ytfechjhngcmdpaa.fn Go.Proofs.Ytfechjhngcmdpaa.ss
set_option linter.unusedVariables false
set_option linter.unusedSimpArgs false

/-- The loops on a needle. -/
def onW (m : Mch) (b t : Int) : List Int := if b = 1 then m.fr.getD t.toNat [] else m.bk.getD t.toNat []
def onL (a p : Int) (m : Mch) (b t : Int) : List Int := if hasN a p m b t = true then onW m b t else []
theorem row_short {W : Int} {rows : List (List Int)} (h : stkB W rows = true) (j : Nat) : (rows.getD j []).length ≤ 4 := by
  by_cases hj : j < rows.length
  · exact (stk_parts h).2 j hj
  · rw [show rows.getD j [] = [] from by simp [List.getD, List.getElem?_eq_none (Nat.le_of_not_lt hj)]]; simp
theorem onW_len {a p : Int} {m : Mch} (h : OkM a p m) (b t : Int) : (onW m b t).length ≤ 4 := by
  unfold onW
  split
  · exact row_short h.fr _
  · exact row_short h.bk _
theorem onL_len (a p : Int) (m : Mch) (b t : Int) : (onL a p m b t).length ≤ 20000 := by
  unfold onL
  split
  · rename_i h
    have := onW_len (hasN_parts h).1 b t
    omega
  · simp

/-- A row's value. -/
theorem row_at {w : World} {lo hi : Nat} {v : Value} {rows : List (List Int)} (h : ss.ROwn w lo hi v rows) (j : Nat) (hj : j < rows.length) :
    ∃ (g off cap : Nat) (V : Value), v = .slice (some ⟨g, off, none⟩) rows.length cap ∧ g < hi ∧ w.cell? ⟨g, off + j, none⟩ = some V ∧ Ints w hi V (rows.getD j []) ∧ NilOk V ∧ w.heap.size = w.heap.size := by
  rcases h.2 with ⟨h0, _⟩ | ⟨hp, g, off, cap, V, L, H, hv, h1, h2, h3⟩
  · subst h0; simp at hj
  · obtain ⟨a1, a2, a3, a4, a5, a6⟩ := h3 j hj
    exact ⟨g, off, cap, V j, hv, h2, a1, a2.ints.mono a4, nilok_own a2, rfl⟩

theorem needlesC (pb : Nat) (b : Int) (W : World) (hb : b = 1 ∨ b = 2) :
    Calls Try.prog 91 #[.pointer (some ⟨pb, 0, none⟩), .int .i64 b] W fun e w' => e = .returned (.pointer (some ⟨pb, if b = 1 then 2 else 3, none⟩)) ∧ W = w' := by
  rcases hb with rfl | rfl
  · go_enter Try.func91, Try.ntmps91
    go_wp2
    go_ret
    exact ⟨rfl, rfl⟩
  · go_enter Try.func91, Try.ntmps91
    go_wp2
    go_ret
    exact ⟨rfl, rfl⟩

set_option maxRecDepth 100000 in
set_option maxHeartbeats 2000000 in
theorem loopsOnB (pb k : Nat) (b : Int) (j : Nat) (g off n cap : Nat) (V : Value) (w : World) (hb : (b = 1 ∧ k = 2) ∨ (b = 2 ∧ k = 3)) (c2 : w.cell? ⟨pb, k, none⟩ = some (.slice (some ⟨g, off, none⟩) n cap)) (cV : w.cell? ⟨g, off + j, none⟩ = some V) (hj : j < n) (hn : n ≤ 1048576) :
    Calls Try.prog 57 #[.pointer (some ⟨pb, 0, none⟩), .agg #[.int .i64 b, .int .i64 j]] w fun e w' => e = .returned V ∧ Below w.heap.size w w' := by
  have hN := needlesC pb b
  have b1 := (Below.refl w.heap.size w).alloc (Nat.le_refl _) (.cells #[.int .i64 b, .int .i64 j] 31)
  have d0 : (w.alloc (.cells #[.int .i64 b, .int .i64 j] 31)).cell? ⟨w.heap.size, 0, none⟩ = some (.int .i64 b) := World.cell?_alloc_at _ _ _ _ rfl
  have d1 : (w.alloc (.cells #[.int .i64 b, .int .i64 j] 31)).cell? ⟨w.heap.size, 1, none⟩ = some (.int .i64 j) := World.cell?_alloc_at _ _ _ _ rfl
  have y2 := (b1.cell (p := ⟨pb, k, none⟩) (World.block_lt_of_cell? w _ c2)).trans c2
  have yV := (b1.cell (p := ⟨g, off + j, none⟩) (World.block_lt_of_cell? w _ cV)).trans cV
  have HB := hid b1
  have HN : Hid (∀ W, Calls Try.prog 91 #[.pointer (some ⟨pb, 0, none⟩), .int .i64 b] W fun e w' => e = .returned (.pointer (some ⟨pb, k, none⟩)) ∧ w' = W) := hid fun W => (hN W (by omega)).mono fun _ _ h => ⟨by rw [h.1]; rcases hb with ⟨rfl, rfl⟩ | ⟨rfl, rfl⟩ <;> rfl, h.2.symm⟩
  have hjn : (j : Int) < (n : Int) := by omega
  clear hN b1 c2 cV hb
  go_enter Try.func57, Try.ntmps57
  go_wp2
  generalize w.alloc (.cells #[.int .i64 b, .int .i64 j] 31) = W1 at *
  go_quiet ((go_at_call 91; exact Calls.quiet_of_same (HN.out _)))
  go_wp2
  go_ret
  exact ⟨rfl, bdrewN HB.out _⟩

theorem loopsOnC (pb : Nat) (m : Mch) (b : Int) (j : Nat) (f0 f1 f2 f3 f4 : Value) (B : Nat) (w : World) (ha : MInC w B f0 f1 f2 f3 f4 m) (hq : Small m) (c2 : w.cell? ⟨pb, 2, none⟩ = some f0) (c3 : w.cell? ⟨pb, 3, none⟩ = some f1) (hb : b = 1 ∨ b = 2) (h0 : j < m.fr.length) (h1 : j < m.bk.length) :
    Calls Try.prog 57 #[.pointer (some ⟨pb, 0, none⟩), .agg #[.int .i64 b, .int .i64 j]] w fun e w' => ∃ V, e = .returned V ∧ Ints w' B V (onW m b j) ∧ NilOk V ∧ Below w.heap.size w w' := by
  obtain ⟨lo, hi, hB, hh, p1, p2, p3, p4, e0, e1, e2, e3, e4, o0, o1, o2, o3, o4⟩ := ha
  rcases hb with rfl | rfl
  · obtain ⟨g, off, cap, V, rfl, hg, cV, iV, nV, _⟩ := row_at o0 j h0
    refine (loopsOnB pb 2 1 j g off _ cap V w (.inl ⟨rfl, rfl⟩) c2 cV h0 hq.s0.1).mono ?_
    rintro e w' ⟨rfl, b⟩
    exact ⟨V, rfl, by simpa [onW] using (iV.mono (by omega)).chg (Chg.ofBelow (lo := 0) b) (.inr (Nat.zero_le _)), nV, b⟩
  · obtain ⟨g, off, cap, V, rfl, hg, cV, iV, nV, _⟩ := row_at o1 j h1
    refine (loopsOnB pb 3 2 j g off _ cap V w (.inr ⟨rfl, rfl⟩) c3 cV h1 hq.s1.1).mono ?_
    rintro e w' ⟨rfl, b⟩
    exact ⟨V, rfl, by simpa [onW] using (iV.mono (by omega)).chg (Chg.ofBelow (lo := 0) b) (.inr (Nat.zero_le _)), nV, b⟩
end Go.Proofs.Ytfechjhngcmdpaa.mc
