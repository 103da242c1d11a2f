/-
  toOpS: a copy in a block of the call's own.
-/
import Derived.Test.YtedajefapddekaaQo2
namespace Go.Proofs.Ytedajefapddekaa.qo
open Go.RowKit Go.Sort Go.Proofs.Ytedajefapddekaa.sl
set_option linter.unusedVariables false
set_option linter.unusedSimpArgs false

theorem infoO : (Try.prog.info? 79).map (fun i => (i.zero, i.size, i.bytes)) = some (some (.agg #[.int .i64 0, .int .i64 0, .int .i64 0, .int .i64 0, .int .i64 0, .int .i64 0, .int .i64 0, .int .i64 0]), 8, 64) := by kernel_rfl

def setN (w : World) (g o : Nat) (x : V) : World :=
  ((((((((w.setCell ⟨g, o, none⟩ (.int .i64 x.a0)).setCell ⟨g, o + 1, none⟩ (.int .i64 x.a1)).setCell ⟨g, o + 2, none⟩ (.int .i64 x.a2)).setCell ⟨g, o + 3, none⟩ (.int .i64 x.a3)).setCell ⟨g, o + 4, none⟩ (.int .i64 x.a4)).setCell ⟨g, o + 5, none⟩ (.int .i64 x.a5)).setCell ⟨g, o + 6, none⟩ (.int .i64 x.a6)).setCell ⟨g, o + 7, none⟩ (.int .i64 x.a7))
theorem setN_other {w : World} {g o q : Nat} {x : V} (h : q < o ∨ o + 8 ≤ q) : (setN w g o x).cell? ⟨g, q, none⟩ = w.cell? ⟨g, q, none⟩ := by
  unfold setN
  iterate 8 (rw [ss.other_at (by omega)])
theorem setN_frozen (w : World) (g o : Nat) (x : V) (a : Addr) : (setN w g o x).frozen? a = w.frozen? a := by
  unfold setN; simp only [World.frozen?_setCell]
theorem setN_size (w : World) (g o : Nat) (x : V) : (setN w g o x).heap.size = w.heap.size := by
  unfold setN; simp
theorem setN_at {w : World} {g o : Nat} {x : V} (hg : g < w.heap.size) (h : ∀ i, i < 8 → ∃ u, w.cell? ⟨g, o + i, none⟩ = some u) : At (setN w g o x) g o x := by
  obtain ⟨u0, h0⟩ := h 0 (by omega)
  obtain ⟨u1, h1⟩ := h 1 (by omega)
  obtain ⟨u2, h2⟩ := h 2 (by omega)
  obtain ⟨u3, h3⟩ := h 3 (by omega)
  obtain ⟨u4, h4⟩ := h 4 (by omega)
  obtain ⟨u5, h5⟩ := h 5 (by omega)
  obtain ⟨u6, h6⟩ := h 6 (by omega)
  obtain ⟨u7, h7⟩ := h 7 (by omega)
  rw [Nat.add_zero] at h0
  refine ⟨by rw [setN_size]; exact hg, ?_, ?_, ?_, ?_, ?_, ?_, ?_, ?_⟩ <;> unfold setN
  · iterate 7 (rw [ss.other_at (by omega)])
    exact ss.same_at h0
  · iterate 6 (rw [ss.other_at (by omega)])
    exact ss.same_at (by iterate 1 (rw [ss.other_at (by omega)])
                         exact h1)
  · iterate 5 (rw [ss.other_at (by omega)])
    exact ss.same_at (by iterate 2 (rw [ss.other_at (by omega)])
                         exact h2)
  · iterate 4 (rw [ss.other_at (by omega)])
    exact ss.same_at (by iterate 3 (rw [ss.other_at (by omega)])
                         exact h3)
  · iterate 3 (rw [ss.other_at (by omega)])
    exact ss.same_at (by iterate 4 (rw [ss.other_at (by omega)])
                         exact h4)
  · iterate 2 (rw [ss.other_at (by omega)])
    exact ss.same_at (by iterate 5 (rw [ss.other_at (by omega)])
                         exact h5)
  · iterate 1 (rw [ss.other_at (by omega)])
    exact ss.same_at (by iterate 6 (rw [ss.other_at (by omega)])
                         exact h6)
  · exact ss.same_at (by iterate 7 (rw [ss.other_at (by omega)])
                         exact h7)
theorem At.setN {w : World} {g o q : Nat} {x y : V} (h : At w g q y) (hq : q + 8 ≤ o ∨ o + 8 ≤ q) : At (qo.setN w g o x) g q y := by
  refine ⟨by rw [setN_size]; exact h.lt, ?_, ?_, ?_, ?_, ?_, ?_, ?_, ?_⟩ <;> rw [setN_other (by omega)]
  · exact h.c0
  · exact h.c1
  · exact h.c2
  · exact h.c3
  · exact h.c4
  · exact h.c5
  · exact h.c6
  · exact h.c7
theorem setN_below {w0 w : World} {B g o : Nat} {x : V} (h : Below B w0 w) (hg : B ≤ g) : Below B w0 (setN w g o x) := by
  unfold setN
  iterate 8 (refine Below.setCell ?_ (by exact hg) _)
  exact h
def cellOf (x : V) : Nat → Value
  | 0 => .int .i64 x.a0
  | 1 => .int .i64 x.a1
  | 2 => .int .i64 x.a2
  | 3 => .int .i64 x.a3
  | 4 => .int .i64 x.a4
  | 5 => .int .i64 x.a5
  | 6 => .int .i64 x.a6
  | _ => .int .i64 x.a7
theorem At.cellOf {w : World} {p o : Nat} {x : V} (h : At w p o x) (i : Nat) (hi : i < 8) : w.cell? ⟨p, o + i, none⟩ = some (qo.cellOf x i) := by
  match i, hi with
  | 0, _ => exact h.c0
  | 1, _ => exact h.c1
  | 2, _ => exact h.c2
  | 3, _ => exact h.c3
  | 4, _ => exact h.c4
  | 5, _ => exact h.c5
  | 6, _ => exact h.c6
  | 7, _ => exact h.c7
theorem cellOf_one (x : V) (i : Nat) : (cellOf x i).oneCell' = true := by
  unfold cellOf; split <;> rfl
def cellsL (xs : List V) : List Value := (List.range (xs.length * 8)).map fun m => cellOf (xs.getD (m / 8) oz) (m % 8)
theorem cellsL_len (xs : List V) : (cellsL xs).length = xs.length * 8 := by simp [cellsL]
theorem cellsL_at (xs : List V) (m : Nat) (h : m < xs.length * 8) : (cellsL xs)[m]? = some (cellOf (xs.getD (m / 8) oz) (m % 8)) := by simp [cellsL, h]
theorem at_of_cells {w : World} {p o : Nat} {x : V} (hp : p < w.heap.size) (h : ∀ i, i < 8 → w.cell? ⟨p, o + i, none⟩ = some (cellOf x i)) : At w p o x :=
  ⟨hp, h 0 (by omega), h 1 (by omega), h 2 (by omega), h 3 (by omega), h 4 (by omega), h 5 (by omega), h 6 (by omega), h 7 (by omega)⟩

/-- So many are copied. -/
structure Prt (g n k : Nat) (xs : List V) (wr : World) : Prop where
  gsz : g < wr.heap.size
  fr : ∀ o, o < n * 8 → wr.frozen? ⟨g, o, none⟩ = false ∧ ∃ u, wr.cell? ⟨g, o, none⟩ = some u
  row : ∀ j, j < k → At wr g (0 + j * 8) (xs.getD j oz)
theorem Prt.below {g n k : Nat} {xs : List V} {wr w1 : World} (p : Prt g n k xs wr) (b : Below wr.heap.size wr w1) : Prt g n k xs w1 :=
  ⟨Nat.lt_of_lt_of_le p.gsz b.size, fun o ho => ⟨(b.frozen (p := ⟨g, o, none⟩) p.gsz).trans (p.fr o ho).1, by obtain ⟨u, hu⟩ := (p.fr o ho).2; exact ⟨u, (b.cell (p := ⟨g, o, none⟩) p.gsz).trans hu⟩⟩, fun j hj => (p.row j hj).below b⟩
theorem Prt.step {g n k : Nat} {xs : List V} {w1 : World} (p : Prt g n k xs w1) (hk : k < n) : Prt g n (k + 1) xs (setN w1 g (k * 8) (xs.getD k oz)) := by
  refine ⟨by rw [setN_size]; exact p.gsz, fun o ho => ⟨by rw [setN_frozen]; exact (p.fr o ho).1, ?_⟩, fun j hj => ?_⟩
  · by_cases h : o < k * 8 ∨ k * 8 + 8 ≤ o
    · rw [setN_other h]; exact (p.fr o ho).2
    · have A := setN_at (x := xs.getD k oz) p.gsz (o := k * 8) (fun i hi => (p.fr _ (by omega)).2)
      obtain ⟨i, hi⟩ : ∃ i, o = k * 8 + i := ⟨o - k * 8, by omega⟩
      subst hi
      exact ⟨_, A.cellOf i (by omega)⟩
  · by_cases e : j = k
    · subst e
      rw [Nat.zero_add]
      exact setN_at p.gsz (fun i hi => (p.fr _ (by omega)).2)
    · exact (p.row j (by omega)).setN (by omega)
theorem Prt.done {lo g n : Nat} {xs : List V} {wr : World} (p : Prt g n n xs wr) (hlo : lo ≤ g) (hn : n = xs.length) (hp : 0 < n) (cap : Nat) : OOwn wr lo wr.heap.size (.slice (some ⟨g, 0, none⟩) n cap) xs := by
  subst hn
  exact ⟨Nat.le_refl _, .inr ⟨hp, g, cap, rfl, hlo, p.gsz, fun o ho => (p.fr o ho).1, p.row⟩⟩

end Go.Proofs.Ytedajefapddekaa.qo
