/-
  JoinBraids: what the walk of its law needs in a region whose order is drawn.
-/
import Derived.Test.YtbeaopblopmpeaaJt
namespace Go.Proofs.Ytbeaopblopmpeaa.br
open Go.RowKit Go.Proofs.Ytbeaopblopmpeaa.sl Go.Proofs.Ytbeaopblopmpeaa.pm Go.Proofs.Ytbeaopblopmpeaa.fn
set_option linter.unusedVariables false

theorem implJoinP (a : Int) (xs : List Int) (b : Int) (ys : List Int) (v u : Value) (B C : Nat) (w : World) (ha : Ints w B v xs) (hB : B ≤ w.heap.size) (hb : Ints w C u ys) (hC : C ≤ w.heap.size) (hn : xs.length ≤ 1099511627776) (hm : ys.length ≤ 1099511627776) (nv : NilOk v) (nu : NilOk u) :
    Calls Try.prog 38 #[.agg #[.int .i64 a, v], .agg #[.int .i64 b, u]] w fun e w' => ∃ ao cap, e = .returned (.tuple #[.agg #[.int .i64 (jnS a b xs ys), .slice ao (jnW a b xs ys).length cap], .int .i64 (jnC a b xs ys)]) ∧ Own w' w.heap.size w'.heap.size (.slice ao (jnW a b xs ys).length cap) (jnW a b xs ys) ∧ Below w.heap.size w w' := implJoin a b xs ys v u B C w ha hB hb hC nv nu hn hm
theorem specJoinP (a : Int) (xs : List Int) (b : Int) (ys : List Int) (v u : Value) (B C : Nat) (w : World) (ha : Ints w B v xs) (hB : B ≤ w.heap.size) (hb : Ints w C u ys) (hC : C ≤ w.heap.size) (hn : xs.length ≤ 1099511627776) (hm : ys.length ≤ 1099511627776) (nv : NilOk v) (nu : NilOk u) :
    Calls Try.prog 37 #[.agg #[.int .i64 a, v], .agg #[.int .i64 b, u]] w fun e w' => ∃ ao cap, e = .returned (.tuple #[.agg #[.int .i64 (jnS a b xs ys), .slice ao (jnW a b xs ys).length cap], .int .i64 (jnC a b xs ys)]) ∧ Own w' w.heap.size w'.heap.size (.slice ao (jnW a b xs ys).length cap) (jnW a b xs ys) ∧ Below w.heap.size w w' := specJoin a b xs ys v u B C w ha hB hb hC nv nu hn hm

/-- What is kept in W since Wn: both boxes and their words, and all memory. -/
def Kq (w Wn : World) (a0 a1 : Int) (v0 : Value) (xs0 : List Int) (v1 : Value) (xs1 : List Int) (W : World) : Prop :=
  (Ints W w.heap.size v0 xs0 ∧ Ints W w.heap.size v1 xs1 ∧ Wn.heap.size ≤ W.heap.size ∧ Below Wn.heap.size Wn W) ∧ w.heap.size + 1 < Wn.heap.size ∧
  W.cell? ⟨w.heap.size, 0, none⟩ = some (.int .i64 a0) ∧ W.cell? ⟨w.heap.size, 1, none⟩ = some v0 ∧ W.cell? ⟨w.heap.size + 1, 0, none⟩ = some (.int .i64 a1) ∧ W.cell? ⟨w.heap.size + 1, 1, none⟩ = some v1
theorem Kq.below {w Wn W W' : World} {a0 a1 : Int} {v0 v1 : Value} {xs0 xs1 : List Int} (h : Kq w Wn a0 a1 v0 xs0 v1 xs1 W) (b : Below W.heap.size W W') : Kq w Wn a0 a1 v0 xs0 v1 xs1 W' := by
  obtain ⟨⟨i0, i1, hs, hb⟩, hl, c0, c1, c2, c3⟩ := h
  refine ⟨⟨i0.chg (Chg.ofBelow (lo := 0) b) (.inr (Nat.zero_le _)), i1.chg (Chg.ofBelow (lo := 0) b) (.inr (Nat.zero_le _)), Nat.le_trans hs b.size, hb.trans (b.mono hs)⟩, hl, ?_, ?_, ?_, ?_⟩
  · exact (b.cell (p := ⟨w.heap.size, 0, none⟩) (by show w.heap.size < W.heap.size; omega)).trans c0
  · exact (b.cell (p := ⟨w.heap.size, 1, none⟩) (by show w.heap.size < W.heap.size; omega)).trans c1
  · exact (b.cell (p := ⟨w.heap.size + 1, 0, none⟩) (by show w.heap.size + 1 < W.heap.size; omega)).trans c2
  · exact (b.cell (p := ⟨w.heap.size + 1, 1, none⟩) (by show w.heap.size + 1 < W.heap.size; omega)).trans c3
theorem Kq.alloc {w Wn W : World} {a0 a1 : Int} {v0 v1 : Value} {xs0 xs1 : List Int} (h : Kq w Wn a0 a1 v0 xs0 v1 xs1 W) (o : Obj) : Kq w Wn a0 a1 v0 xs0 v1 xs1 (W.alloc o) := h.below ((Below.refl _ _).alloc (Nat.le_refl _) o)
theorem Kq.drew {w Wn W : World} {a0 a1 : Int} {v0 v1 : Value} {xs0 xs1 : List Int} (h : Kq w Wn a0 a1 v0 xs0 v1 xs1 W) : Kq w Wn a0 a1 v0 xs0 v1 xs1 W.drew := h.below (Below.refl _ _).drew

def Iq (W : World) (v : Value) (xs : List Int) : Prop := ∃ B, B ≤ W.heap.size ∧ Ints W B v xs
theorem Iq.below {W W' : World} {v : Value} {xs : List Int} (h : Iq W v xs) (b : Below W.heap.size W W') : Iq W' v xs := by
  obtain ⟨B, h1, h2⟩ := h
  exact ⟨B, Nat.le_trans h1 b.size, h2.chg (Chg.ofBelow (lo := 0) b) (.inr (Nat.zero_le _))⟩
theorem Iq.alloc {W : World} {v : Value} {xs : List Int} (h : Iq W v xs) (o : Obj) : Iq (W.alloc o) v xs := h.below ((Below.refl _ _).alloc (Nat.le_refl _) o)
theorem Iq.drew {W : World} {v : Value} {xs : List Int} (h : Iq W v xs) : Iq W.drew v xs := h.below (Below.refl _ _).drew

theorem toBq (a : Int) (ao : Option Addr) (cap : Nat) (xs : List Int) (hn : xs.length ≤ 1099511627776) (W : World) (B : Nat) (hi : Ints W B (.slice ao xs.length cap) xs) (hB : B ≤ W.heap.size) :
    Calls Try.prog 17 #[.agg #[.int .i64 a, .slice ao xs.length cap]] W fun e W' => ∃ ao' cap', e = .returned (.agg #[.int .i64 a, .slice ao' xs.length cap']) ∧ Iq W' (.slice ao' xs.length cap') xs ∧ NilOk (.slice ao' xs.length cap') ∧ Below W.heap.size W W' := by
  refine (toB a xs _ _ W hi hB hn).mono ?_
  rintro e W' ⟨ao', cap', rfl, o, b⟩
  exact ⟨ao', cap', rfl, ⟨_, Nat.le_refl _, o.ints⟩, nilok_own o, b⟩

/-- The answer in a box of its own, in X. -/
def Rq (Wn : World) (sr : Int) (zr : List Int) (g : Nat) (ao : Option Addr) (cap : Nat) (X : World) : Prop :=
  X.cell? ⟨g, 0, none⟩ = some (.int .i64 sr) ∧ X.cell? ⟨g, 1, none⟩ = some (.slice ao zr.length cap) ∧ Own X Wn.heap.size X.heap.size (.slice ao zr.length cap) zr ∧ Wn.heap.size ≤ g ∧ g < X.heap.size ∧ Below Wn.heap.size Wn X
theorem meetA {Wn Y : World} {sr : Int} {zr : List Int} {lo : Nat} {ao : Option Addr} {cap : Nat} (hb : Below Wn.heap.size Wn Y) (o : Own Y lo Y.heap.size (.slice ao zr.length cap) zr) (hlo : Wn.heap.size ≤ lo) :
    Rq Wn sr zr Y.heap.size ao cap (Y.alloc (.cells #[.int .i64 sr, .slice ao zr.length cap] 27)) := by
  refine ⟨World.cell?_alloc_at _ _ _ _ rfl, World.cell?_alloc_at _ _ _ _ rfl, ?_, hb.size, by simp, hb.alloc hb.size _⟩
  exact ((o.chg (Chg.ofBelow (lo := 0) ((Below.refl Y.heap.size Y).alloc (Nat.le_refl _) _)) (.inr (.inr (Nat.zero_le _)))).lo hlo).hi (by simp) (Nat.le_refl _)
theorem meetB {Wn Y : World} {sr : Int} {zr : List Int} {lo : Nat} {ao : Option Addr} {cap : Nat} (hb : Below Wn.heap.size Wn Y) (o : Own Y lo Y.heap.size (.slice ao zr.length cap) zr) (hlo : Wn.heap.size ≤ lo) (g : Nat) (hg1 : Wn.heap.size ≤ g) (hg2 : g < lo) (hg3 : g < Y.heap.size) {x0 x1 : Value} (c0 : Y.cell? ⟨g, 0, none⟩ = some x0) (c1 : Y.cell? ⟨g, 1, none⟩ = some x1) :
    Rq Wn sr zr g ao cap ((Y.setCell ⟨g, 0, none⟩ (.int .i64 sr)).setCell ⟨g, 1, none⟩ (.slice ao zr.length cap)) := by
  refine ⟨(World.cell?_setCell_other _ _ _ _ (by simp)).trans (World.cell?_setCell_same _ _ _ c0), World.cell?_setCell_same _ _ _ ((World.cell?_setCell_other _ _ _ _ (by simp)).trans c1), ?_, hg1, by simpa using hg3, (hb.setCell hg1 _).setCell hg1 _⟩
  exact ((own_other (own_other o g 0 _ (.inl hg2)) g 1 _ (.inl hg2)).lo hlo).hi (by simp) (Nat.le_refl _)

end Go.Proofs.Ytbeaopblopmpeaa.br
