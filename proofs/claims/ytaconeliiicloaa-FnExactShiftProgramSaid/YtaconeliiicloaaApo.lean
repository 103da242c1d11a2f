/-
  append([]Op{}, ops...): a copy of operations by append; elements changed in place.
-/
import Derived.Test.YtaconeliiicloaaMo
import Derived.Test.YtaconeliiicloaaLw0
import Derived.Laws.AppendOwnNone
namespace Go.Proofs.Ytaconeliiicloaa.os
open Go.RowKit Go.Sort Go.Proofs.Ytaconeliiicloaa.sl Go.Proofs.Ytaconeliiicloaa.vo Go.Proofs.Ytaconeliiicloaa.nd
set_option linter.unusedVariables false
set_option linter.unusedSimpArgs false

def cellOf (x : OpV) : Nat → Value
  | 0 => .int .i64 x.k
  | 1 => .int .i64 x.d
  | 2 => .int .i64 x.fb
  | 3 => .int .i64 x.fa
  | 4 => .int .i64 x.tb
  | 5 => .int .i64 x.ta
  | 6 => .int .i64 x.c
  | _ => .int .i64 x.r
def cellsL (xs : List OpV) : List Value := (List.range (xs.length * 8)).map fun m => cellOf (xs.getD (m / 8) oz) (m % 8)
theorem cellsL_len (xs : List OpV) : (cellsL xs).length = xs.length * 8 := by simp [cellsL]
theorem cellsL_at (xs : List OpV) (m : Nat) (h : m < xs.length * 8) : (cellsL xs)[m]? = some (cellOf (xs.getD (m / 8) oz) (m % 8)) := by simp [cellsL, h]
theorem At.cellOf {w : World} {p o : Nat} {x : OpV} (h : At w p o x) (i : Nat) (hi : i < 8) : w.cell? ⟨p, o + i, none⟩ = some (os.cellOf x i) := by
  match i, hi with
  | 0, _ => exact h.c0
  | 1, _ => exact h.c1
  | 2, _ => exact h.c2
  | 3, _ => exact h.c3
  | 4, _ => exact h.c4
  | 5, _ => exact h.c5
  | 6, _ => exact h.c6
  | 7, _ => exact h.c7
theorem cellOf_one (x : OpV) (i : Nat) : (cellOf x i).oneCell' = true := by
  unfold cellOf; split <;> rfl

/-- append of operations to an empty slice of the call's own. -/
theorem wp_appendO {ops : Array Oper} {rest : List Oper} {o : Oper} {a : Act} {Q : Exit → Act → World → Prop} {w : World} (hgd : o.guard = none) (s x : Operand)
    (hop : o.op = .call { callee := .builtin .append, args := #[s, x], argTypes := #[38, 38] })
    (lo : Nat) (hs : a.eval s = .slice (some ⟨w.heap.size, 0, none⟩) 0 0) (u : Value) (ys : List OpV) (C : Nat) (hu : Ops w C u ys) (hx : a.eval x = u) (hlo : lo ≤ w.heap.size) (hn : ys.length ≤ 1048576)
    (hK : ∀ v' w', OOwn w' lo w'.heap.size v' ys → Below lo w w' → wpList Try.prog ops Q rest (a.put o.dst v') w') : wpList Try.prog ops Q (o :: rest) a (w.alloc (.cells #[] 90)) := by
  obtain ⟨i0, hi', hz0, hz1, hz2⟩ := info_parts infoO
  have hown : (w.alloc (.cells #[] 90)).ownsRow lo 90 8 (.slice (some ⟨w.heap.size, 0, none⟩) 0 0) 0 [] := World.ownsRow_made w #[] 0 hlo (by unfold maxLen; omega) (by simp)
  have hb0 := (Below.refl lo w).alloc hlo (.cells #[] 90)
  have hua := hu.al (.cells #[] 90)
  have main : ∀ (ad : Addr) (cap : Nat), u = .slice (some ad) ys.length cap → (∀ m, m < ys.length * 8 → (w.alloc (.cells #[] 90)).cell? (ad.add m) = some (cellOf (ys.getD (m / 8) oz) (m % 8))) → wpList Try.prog ops Q (o :: rest) a (w.alloc (.cells #[] 90)) := by
    intro ad cap hu' hc
    refine wpList_append_own _ hgd s x 38 hop lo 90 i0 _ 8 64 Try.underlying38 hi' hz0 hz1 hz2 rfl (by decide) _ 0 [] hs hown ad ys.length cap (cellsL ys) (hx.trans hu') (cellsL_len ys) ?_ ?_ ?_ ?_ (by simp; omega) ?_
    · intro j q hj
      have hj' : j < ys.length * 8 := by
        have := (List.getElem?_eq_some_iff.1 hj).1
        rwa [cellsL_len] at this
      rw [cellsL_at ys j hj'] at hj
      rw [hc j hj', hj]
    · intro q hq
      simp only [cellsL, List.mem_map] at hq
      obtain ⟨m, _, rfl⟩ := hq
      exact cellOf_one _ _
    · unfold maxLen; omega
    · omega
    · intro v' w' h1 h2 _
      have hlt : ∀ k, v'.ownBlock = some k → lo ≤ k ∧ k < w'.heap.size := h1.lt
      refine hK v' w' ?_ (hb0.trans ⟨h2.os, h2.tape, h2.output, h2.size, fun k hk => ?_⟩)
      · refine ⟨Nat.le_refl _, ?_⟩
        rw [List.nil_append, Nat.zero_add] at h1
        rcases h1.2 with ⟨rfl, h0⟩ | ⟨g, cap', cur, rfl, hg1, hg2, _⟩
        · exact .inl ⟨List.length_eq_zero_iff.1 h0, _, _, rfl, fun _ => rfl⟩
        · have hg := hlt g rfl
          by_cases h0 : ys.length = 0
          · exact .inl ⟨List.length_eq_zero_iff.1 h0, _, _, by rw [h0], fun h => by cases h⟩
          · refine .inr ⟨by omega, g, cap', rfl, hg.1, hg.2, fun o ho => h1.frozenAt o, fun j hj => ?_⟩
            have hcell : ∀ i, i < 8 → w'.cell? ⟨g, 0 + j * 8 + i, none⟩ = some (cellOf (ys.getD j oz) i) := by
              intro i hi
              rw [h1.cellAt _ (by omega), cellsL_at ys _ (by omega)]
              rw [show (0 + j * 8 + i) / 8 = j from by omega, show (0 + j * 8 + i) % 8 = i from by omega]
            exact ⟨hg.2, hcell 0 (by omega), hcell 1 (by omega), hcell 2 (by omega), hcell 3 (by omega), hcell 4 (by omega), hcell 5 (by omega), hcell 6 (by omega), hcell 7 (by omega)⟩
      · refine h2.block k (by simp; omega) ?_
        intro e
        simp only [Value.ownBlock, Option.some.injEq] at e
        omega
  rcases hua with ⟨rfl, ao, cap, rfl, hao⟩ | ⟨hp, b, off, cap, hv, hb, hc⟩
  · cases ao with
    | none =>
      obtain rfl := hao rfl
      refine wpList_append_own_none hgd s x 38 hop lo 90 i0 8 Try.underlying38 hi' _ 0 [] hs hown hx ?_
      exact hK _ _ ⟨Nat.le_refl _, .inl ⟨rfl, _, _, rfl, fun h => by cases h⟩⟩ hb0
    | some ad => exact main ad cap rfl (fun m hm => by simp at hm)
  · refine main ⟨b, off, none⟩ cap hv (fun m hm => ?_)
    have hA := hc (m / 8) (by omega)
    have := hA.cellOf (m % 8) (Nat.mod_lt _ (by omega))
    rw [Addr.add_lit, show off + m = off + m / 8 * 8 + m % 8 from by omega]
    exact this

theorem At.setOther {w : World} {g o q : Nat} {x : OpV} (h : At w g o x) (v : Value) (hq : q < o ∨ o + 8 ≤ q) : At (w.setCell ⟨g, q, none⟩ v) g o x := by
  refine ⟨by simpa using h.lt, ?_, ?_, ?_, ?_, ?_, ?_, ?_, ?_⟩ <;> rw [ss.other_at (by omega)]
  · exact h.c0
  · exact h.c1
  · exact h.c2
  · exact h.c3
  · exact h.c4
  · exact h.c5
  · exact h.c6
  · exact h.c7
/-- All operations but one. -/
def Oth (w : World) (g n k : Nat) (f : Nat → OpV) : Prop := ∀ j, j < n → j ≠ k → At w g (0 + j * 8) (f j)
theorem Oth.set {w : World} {g n k : Nat} {f : Nat → OpV} (h : Oth w g n k f) (i : Nat) (v : Value) (h1 : k * 8 ≤ i) (h2 : i < k * 8 + 8) : Oth (w.setCell ⟨g, i, none⟩ v) g n k f :=
  fun j hj hne => (h j hj hne).setOther v (by omega)
theorem Oth.below {w w' : World} {g n k : Nat} {f : Nat → OpV} (h : Oth w g n k f) (b : Below w.heap.size w w') : Oth w' g n k f :=
  fun j hj hne => (h j hj hne).below b
theorem Wr.below {w w' : World} {g m : Nat} (h : Wr w g m) (b : Below w.heap.size w w') : Wr w' g m :=
  ⟨Nat.lt_of_lt_of_le h.1 b.size, fun o ho => ⟨(b.frozen (p := ⟨g, o, none⟩) h.1).trans (h.2 o ho).1, by obtain ⟨u, hu⟩ := (h.2 o ho).2; exact ⟨u, (b.cell (p := ⟨g, o, none⟩) h.1).trans hu⟩⟩⟩
theorem OOwn.wr {w : World} {lo hi g cap : Nat} {n : Nat} {xs : List OpV} (o : OOwn w lo hi (.slice (some ⟨g, 0, none⟩) n cap) xs) (hp : 0 < xs.length) : lo ≤ g ∧ g < hi ∧ Wr w g (xs.length * 8) ∧ ∀ j, j < xs.length → At w g (0 + j * 8) (xs.getD j oz) := by
  obtain ⟨hh, hr⟩ := o
  rcases hr with ⟨rfl, _⟩ | ⟨_, g', cap', hv, h1, h2, h3, h4⟩
  · simp at hp
  · simp only [Value.slice.injEq, Option.some.injEq, Addr.mk.injEq] at hv
    obtain ⟨⟨rfl, _⟩, _⟩ := hv
    refine ⟨h1, h2, ⟨by omega, fun o ho => ⟨h3 o ho, ?_⟩⟩, h4⟩
    have A := h4 (o / 8) (by omega)
    have := A.cellOf (o % 8) (Nat.mod_lt _ (by omega))
    exact ⟨_, by rw [← this]; congr 2; omega⟩
theorem OOwn.ofWr {w : World} {lo g cap : Nat} {xs : List OpV} (hp : 0 < xs.length) (h1 : lo ≤ g) (hw : Wr w g (xs.length * 8)) (ha : ∀ j, j < xs.length → At w g (0 + j * 8) (xs.getD j oz)) : OOwn w lo w.heap.size (.slice (some ⟨g, 0, none⟩) xs.length cap) xs :=
  ⟨Nat.le_refl _, .inr ⟨hp, g, cap, rfl, h1, hw.1, fun o ho => (hw.2 o ho).1, ha⟩⟩
theorem oown_slice {w : World} {lo hi : Nat} {v : Value} {xs : List OpV} (o : OOwn w lo hi v xs) (hp : 0 < xs.length) : ∃ g cap, v = .slice (some ⟨g, 0, none⟩) xs.length cap := by
  rcases o.2 with ⟨rfl, _⟩ | ⟨_, g, cap, hv, _⟩
  · simp at hp
  · exact ⟨g, cap, hv⟩
end Go.Proofs.Ytaconeliiicloaa.os
