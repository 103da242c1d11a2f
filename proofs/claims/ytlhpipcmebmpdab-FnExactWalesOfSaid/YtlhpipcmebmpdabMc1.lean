/-
  Machines in memory: what a call reads (MIn), what it owns (MOwn); szMachine, toMachine, eqMachine; an argument opened.
-/
import Derived.Test.YtlhpipcmebmpdabCa3
import Derived.Test.YtlhpipcmebmpdabIf2
import Derived.Test.YtlhpipcmebmpdabL5
namespace Go.Proofs.Ytlhpipcmebmpdab.mc
open Go.RowKit Go.Sort Go.Proofs.Ytlhpipcmebmpdab.sl Go.Proofs.Ytlhpipcmebmpdab.br
set_option linter.unusedVariables false
set_option linter.unusedSimpArgs false

structure Mch where
  fr : List (List Int)
  bk : List (List Int)
  cs : List ca.V
  ls : List nf.V
  dr : List Int
structure MIn (w : World) (B : Nat) (f0 f1 f2 f3 f4 : Value) (m : Mch) : Prop where
  h0 : ss.Rows w B f0 m.fr
  h1 : ss.Rows w B f1 m.bk
  h2 : ca.Ops w B f2 m.cs
  h3 : nf.Infs w B f3 m.ls
  h4 : Ints w B f4 m.dr
theorem MIn.chg {w w' : World} {B lo hi : Nat} {f0 f1 f2 f3 f4 : Value} {m : Mch} (h : MIn w B f0 f1 f2 f3 f4 m) (c : Chg lo hi w w') (h1 : B ≤ lo ∨ hi ≤ lo) : MIn w' B f0 f1 f2 f3 f4 m :=
  ⟨h.h0.chg c h1, h.h1.chg c h1, h.h2.chg c h1, h.h3.chg c h1, h.h4.chg c h1⟩
theorem MIn.mono {w : World} {B B' : Nat} {f0 f1 f2 f3 f4 : Value} {m : Mch} (h : MIn w B f0 f1 f2 f3 f4 m) (hB : B ≤ B') : MIn w B' f0 f1 f2 f3 f4 m :=
  ⟨h.h0.mono hB, h.h1.mono hB, h.h2.mono hB, h.h3.mono hB, h.h4.mono hB⟩
theorem MIn.below {w w' : World} {B : Nat} {f0 f1 f2 f3 f4 : Value} {m : Mch} (h : MIn w B f0 f1 f2 f3 f4 m) (b : Below w.heap.size w w') : MIn w' B f0 f1 f2 f3 f4 m := h.chg (Chg.ofBelow (lo := 0) b) (.inr (Nat.zero_le _))
/-- A machine of the call's own: its lists lie one behind the other. -/
def MOwn (w : World) (lo hi : Nat) (f0 f1 f2 f3 f4 : Value) (m : Mch) : Prop :=
  hi ≤ w.heap.size ∧ ∃ p1 p2 p3 p4, lo ≤ p1 ∧ p1 ≤ p2 ∧ p2 ≤ p3 ∧ p3 ≤ p4 ∧ p4 ≤ hi ∧ ss.ROwn w lo p1 f0 m.fr ∧ ss.ROwn w p1 p2 f1 m.bk ∧ ca.OOwn w p2 p3 f2 m.cs ∧ nf.IOwn w p3 p4 f3 m.ls ∧ Own w p4 hi f4 m.dr
theorem ca_mono {w : World} {B B' : Nat} {v : Value} {xs : List ca.V} (h : ca.Ops w B v xs) (hB : B ≤ B') : ca.Ops w B' v xs := h.mono hB
theorem MOwn.rd {w : World} {lo hi : Nat} {f0 f1 f2 f3 f4 : Value} {m : Mch} (o : MOwn w lo hi f0 f1 f2 f3 f4 m) : MIn w hi f0 f1 f2 f3 f4 m := by
  obtain ⟨hh, p1, p2, p3, p4, e0, e1, e2, e3, e4, o0, o1, o2, o3, o4⟩ := o
  exact ⟨o0.rows.mono (by omega), o1.rows.mono (by omega), o2.ops.mono (by omega), o3.infs.mono (by omega), o4.ints⟩
theorem MOwn.chg {w w' : World} {lo hi l h : Nat} {f0 f1 f2 f3 f4 : Value} {m : Mch} (o : MOwn w lo hi f0 f1 f2 f3 f4 m) (c : Chg l h w w') (h1 : hi ≤ l ∨ h ≤ lo ∨ h ≤ l) : MOwn w' lo hi f0 f1 f2 f3 f4 m := by
  obtain ⟨hh, p1, p2, p3, p4, e0, e1, e2, e3, e4, o0, o1, o2, o3, o4⟩ := o
  exact ⟨Nat.le_trans hh c.size, p1, p2, p3, p4, e0, e1, e2, e3, e4, o0.chg c (by omega), o1.chg c (by omega), o2.chg c (by omega), o3.chg c (by omega), o4.chg c (by omega)⟩
theorem val0 {w : World} {lo hi : Nat} {f0 f1 f2 f3 f4 : Value} {m : Mch} (o : MOwn w lo hi f0 f1 f2 f3 f4 m) : ∃ ao ln cp, f0 = .slice ao ln cp := by
  obtain ⟨hh, p1, p2, p3, p4, e0, e1, e2, e3, e4, o0, o1, o2, o3, o4⟩ := o
  obtain ⟨ao, cp, hv⟩ := ss.rown_val o0
  exact ⟨ao, _, cp, hv⟩
theorem val1 {w : World} {lo hi : Nat} {f0 f1 f2 f3 f4 : Value} {m : Mch} (o : MOwn w lo hi f0 f1 f2 f3 f4 m) : ∃ ao ln cp, f1 = .slice ao ln cp := by
  obtain ⟨hh, p1, p2, p3, p4, e0, e1, e2, e3, e4, o0, o1, o2, o3, o4⟩ := o
  obtain ⟨ao, cp, hv⟩ := ss.rown_val o1
  exact ⟨ao, _, cp, hv⟩
theorem val2 {w : World} {lo hi : Nat} {f0 f1 f2 f3 f4 : Value} {m : Mch} (o : MOwn w lo hi f0 f1 f2 f3 f4 m) : ∃ ao ln cp, f2 = .slice ao ln cp := by
  obtain ⟨hh, p1, p2, p3, p4, e0, e1, e2, e3, e4, o0, o1, o2, o3, o4⟩ := o
  obtain ⟨ao, cp, hv⟩ := ca.oown_val o2
  exact ⟨ao, _, cp, hv⟩
theorem val3 {w : World} {lo hi : Nat} {f0 f1 f2 f3 f4 : Value} {m : Mch} (o : MOwn w lo hi f0 f1 f2 f3 f4 m) : ∃ ao ln cp, f3 = .slice ao ln cp := by
  obtain ⟨hh, p1, p2, p3, p4, e0, e1, e2, e3, e4, o0, o1, o2, o3, o4⟩ := o
  obtain ⟨ao, cp, hv⟩ := nf.iown_val o3
  exact ⟨ao, _, cp, hv⟩
theorem val4 {w : World} {lo hi : Nat} {f0 f1 f2 f3 f4 : Value} {m : Mch} (o : MOwn w lo hi f0 f1 f2 f3 f4 m) : ∃ ao ln cp, f4 = .slice ao ln cp := by
  obtain ⟨hh, p1, p2, p3, p4, e0, e1, e2, e3, e4, o0, o1, o2, o3, o4⟩ := o
  obtain ⟨ao, cp, hv⟩ := own_val o4
  exact ⟨ao, _, cp, hv⟩

structure Small (m : Mch) : Prop where
  s0 : m.fr.length ≤ 1048576 ∧ ss.Short m.fr 1048576
  s1 : m.bk.length ≤ 1048576 ∧ ss.Short m.bk 1048576
  s2 : ca.Small m.cs
  s3 : nf.Small m.ls
  s4 : m.dr.length ≤ 1048576
theorem short_mono {rows : List (List Int)} {a b : Nat} (h : ss.Short rows a) (hab : a ≤ b) : ss.Short rows b := fun j hj => Nat.le_trans (h j hj) hab

/-! ### szMachine -/
/-- A step of the budget: nothing is left behind -1. -/
def st (l : Int) (f : Int → Int) : Int := if l < 0 then -1 else f l
def szV (l : Int) (m : Mch) : Int :=
  st (st (st (st (ss.szR l m.fr) (fun l => ss.szR l m.bk)) (fun l => szL l m.cs.length)) (fun l => ss.szR l (nf.prs m.ls))) (fun l => szL l m.dr.length)
theorem szL_cases {l : Int} {n : Nat} (h : 0 ≤ l) : szL l n = -1 ∨ (0 ≤ szL l n ∧ szL l n ≤ l ∧ (n : Int) ≤ l) := by unfold szL; split <;> omega
theorem szR_cases {l : Int} {rows : List (List Int)} (h : 0 ≤ l) : ss.szR l rows = -1 ∨ (0 ≤ ss.szR l rows ∧ ss.szR l rows ≤ l) := by
  rcases ss.szR_pos (rows := rows) h with h1 | h1
  · exact .inl h1
  · exact .inr ⟨h1, (ss.szR_bound h h1).1⟩
theorem szV_pos {m : Mch} {left : Int} (h0 : 0 ≤ left) : szV left m = -1 ∨ 0 ≤ szV left m := by
  unfold szV
  have key : ∀ (l : Int) (f : Int → Int), (l = -1 ∨ 0 ≤ l) → (∀ l, 0 ≤ l → f l = -1 ∨ 0 ≤ f l) → (st l f = -1 ∨ 0 ≤ st l f) := by
    intro l f h1 h2
    unfold st
    split
    · exact .inl rfl
    · exact h2 l (by omega)
  refine key _ _ (key _ _ (key _ _ (key _ _ (ss.szR_pos h0) ?_) ?_) ?_) ?_
  · exact fun l h => ss.szR_pos h
  · exact fun l h => by rcases szL_cases (n := m.cs.length) h with h1 | h1 <;> omega
  · exact fun l h => ss.szR_pos h
  · exact fun l h => by rcases szL_cases (n := m.dr.length) h with h1 | h1 <;> omega
theorem st_pos {l : Int} {f : Int → Int} (h : 0 ≤ st l f) : 0 ≤ l ∧ st l f = f l := by
  unfold st at h ⊢
  split at h
  · omega
  · exact ⟨by omega, by rw [if_neg (by omega)]⟩
theorem szV_parts {m : Mch} {left : Int} (h0 : 0 ≤ left) (h : 0 ≤ szV left m) : szV left m ≤ left ∧ ∃ a b c d, 0 ≤ a ∧ a ≤ left ∧ 0 ≤ b ∧ b ≤ left ∧ 0 ≤ c ∧ c ≤ left ∧ 0 ≤ d ∧ d ≤ left ∧ 0 ≤ ss.szR left m.fr ∧ 0 ≤ ss.szR a m.bk ∧ 0 ≤ szL b m.cs.length ∧ 0 ≤ ss.szR c (nf.prs m.ls) ∧ 0 ≤ szL d m.dr.length := by
  unfold szV at h ⊢
  obtain ⟨h1, e1⟩ := st_pos h
  obtain ⟨h2, e2⟩ := st_pos h1
  obtain ⟨h3, e3⟩ := st_pos h2
  obtain ⟨h4, e4⟩ := st_pos h3
  have b1 := (ss.szR_bound h0 h4).1
  rw [e4] at h3
  have b2 := (ss.szR_bound h4 h3).1
  rw [e1] at h ⊢
  rw [e2] at h1 h ⊢
  rw [e3] at h2 h1 h ⊢
  rw [e4] at h2 h1 h ⊢
  have b3 := l5.szL_bound h3 h2
  have b4 := (ss.szR_bound h2 h1).1
  have b5 := l5.szL_bound h1 h
  exact ⟨by omega, _, _, _, _, h4, by omega, h3, by omega, h2, by omega, h1, by omega, h4, h3, h2, h1, h⟩
theorem szV_bound {m : Mch} {left : Int} (h0 : 0 ≤ left) (h : 0 ≤ szV left m) : szV left m ≤ left ∧ True := ⟨(szV_parts h0 h).1, trivial⟩
theorem small_of {left : Int} {m : Mch} (h0 : 0 ≤ left) (h1 : left ≤ 1048576) (h : 0 ≤ szV left m) : Small m := by
  obtain ⟨_, a, b, c, d, a0, a1, b0, b1, c0, c1, d0, d1, e0, e1, e2, e3, e4⟩ := szV_parts h0 h
  obtain ⟨_, q1, q2⟩ := ss.szR_bound h0 e0
  obtain ⟨_, r1, r2⟩ := ss.szR_bound a0 e1
  refine ⟨⟨by omega, fun j hj => by have := q2 j hj; omega⟩, ⟨by omega, fun j hj => by have := r2 j hj; omega⟩, ca.small_of b0 (by omega) e2, nf.small_of c0 (by omega) e3, ?_⟩
  have := l5.szL_bound d0 e4
  omega

/-- What a law is told of an argument. -/
structure MLen (m : Mch) : Prop where
  l0 : m.fr.length ≤ 9223372036854775807 ∧ m.bk.length ≤ 9223372036854775807 ∧ m.cs.length ≤ 9223372036854775807 ∧ m.ls.length ≤ 9223372036854775807 ∧ m.dr.length ≤ 9223372036854775807
structure MShort (m : Mch) : Prop where
  s0 : ss.Short m.fr 9223372036854775807
  s1 : ss.Short m.bk 9223372036854775807
  s2 : ∀ j, j < m.ls.length → (m.ls.getD j nf.iz).ps.length ≤ 9223372036854775807
structure MArg (w : World) (f0 f1 f2 f3 f4 : Value) (m : Mch) : Prop where
  rd : MIn w w.heap.size f0 f1 f2 f3 f4 m
  len : MLen m
  short : MShort m

/-- The argument's box, and what has become of the world. -/
structure Bx (w0 : World) (W : World) (p : Nat) (a b : Int) (f0 f1 f2 f3 f4 : Value) : Prop where
  lt : p < W.heap.size
  b0 : Below w0.heap.size w0 W
  c0 : W.cell? ⟨p, 0, none⟩ = some (.int .i64 a)
  c1 : W.cell? ⟨p, 1, none⟩ = some (.int .i64 b)
  c2 : W.cell? ⟨p, 2, none⟩ = some f0
  c3 : W.cell? ⟨p, 3, none⟩ = some f1
  c4 : W.cell? ⟨p, 4, none⟩ = some f2
  c5 : W.cell? ⟨p, 5, none⟩ = some f3
  c6 : W.cell? ⟨p, 6, none⟩ = some f4
theorem Bx.below {w0 W W' : World} {p : Nat} {a b : Int} {f0 f1 f2 f3 f4 : Value} (h : Bx w0 W p a b f0 f1 f2 f3 f4) (bb : Below W.heap.size W W') : Bx w0 W' p a b f0 f1 f2 f3 f4 :=
  ⟨Nat.lt_of_lt_of_le h.lt bb.size, h.b0.trans (bb.mono h.b0.size), (bb.cell (p := ⟨p, 0, none⟩) h.lt).trans h.c0, (bb.cell (p := ⟨p, 1, none⟩) h.lt).trans h.c1, (bb.cell (p := ⟨p, 2, none⟩) h.lt).trans h.c2, (bb.cell (p := ⟨p, 3, none⟩) h.lt).trans h.c3, (bb.cell (p := ⟨p, 4, none⟩) h.lt).trans h.c4, (bb.cell (p := ⟨p, 5, none⟩) h.lt).trans h.c5, (bb.cell (p := ⟨p, 6, none⟩) h.lt).trans h.c6⟩
theorem bx_new (w : World) (T : TypeId) (a b : Int) (f0 f1 f2 f3 f4 : Value) : Bx w (w.alloc (.cells #[.int .i64 a, .int .i64 b, f0, f1, f2, f3, f4] T)) w.heap.size a b f0 f1 f2 f3 f4 :=
  ⟨by simp, (Below.refl _ _).alloc (Nat.le_refl _) _, World.cell?_alloc_at _ _ _ _ rfl, World.cell?_alloc_at _ _ _ _ rfl, World.cell?_alloc_at _ _ _ _ rfl, World.cell?_alloc_at _ _ _ _ rfl, World.cell?_alloc_at _ _ _ _ rfl, World.cell?_alloc_at _ _ _ _ rfl, World.cell?_alloc_at _ _ _ _ rfl⟩
end Go.Proofs.Ytlhpipcmebmpdab.mc
