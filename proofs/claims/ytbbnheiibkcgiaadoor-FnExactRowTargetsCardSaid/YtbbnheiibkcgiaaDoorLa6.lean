/-
  RowTargets: mathematics; three lists that grow beside one another.
-/
import Derived.Test.YtbbnheiibkcgiaaDoorLa5
import Derived.Maps.AppendAt
namespace Go.Proofs.YtbbnheiibkcgiaaDoor.la
open Go.RowKit Go.Proofs.YtbbnheiibkcgiaaDoor.sl Go.Proofs.YtbbnheiibkcgiaaDoor.pm Go.Proofs.YtbbnheiibkcgiaaDoor.br Go.Proofs.YtbbnheiibkcgiaaDoor.bw Go.Proofs.YtbbnheiibkcgiaaDoor.st Go.Proofs.YtbbnheiibkcgiaaDoor.wk Go.Proofs.YtbbnheiibkcgiaaDoor.rl
set_option linter.unusedVariables false
set_option maxRecDepth 100000

/-! ### Mathematics -/
def wid (xs : List Int) (i : Nat) : Nat := (tk (xs.getD i 0)).toNat
/-- The values of h over the columns that the first i stitches take. -/
def tgT (h : Nat → Nat → Int) (xs : List Int) (i : Nat) : List Int := ((List.range i).map fun j => (List.range (wid xs j)).map (h j)).flatten
def tgP (h : Nat → Nat → Int) (xs : List Int) (i k : Nat) : List Int := tgT h xs i ++ (List.range k).map (h i)
theorem tgT_zero (h : Nat → Nat → Int) (xs : List Int) : tgT h xs 0 = [] := rfl
theorem tgP_zero (h : Nat → Nat → Int) (xs : List Int) (i : Nat) : tgP h xs i 0 = tgT h xs i := by simp [tgP]
theorem tgP_succ (h : Nat → Nat → Int) (xs : List Int) (i k : Nat) : tgP h xs i (k + 1) = tgP h xs i k ++ [h i k] := by simp [tgP, List.range_succ]
theorem tgP_full (h : Nat → Nat → Int) (xs : List Int) (i : Nat) : tgP h xs i (wid xs i) = tgT h xs (i + 1) := by simp [tgP, tgT, List.range_succ]
theorem tgT_len (h : Nat → Nat → Int) {xs : List Int} (hx : ∀ j, j < xs.length → wid xs j ≤ 4) : ∀ i, i ≤ xs.length → (tgT h xs i).length ≤ 4 * i := by
  intro i
  induction i with
  | zero => intro _; simp [tgT_zero]
  | succ i ih =>
    intro hi
    have h1 := ih (by omega)
    have h2 := hx i (by omega)
    rw [← tgP_full, tgP, List.length_append]
    simp
    omega
theorem tgP_len (h : Nat → Nat → Int) {xs : List Int} (hx : ∀ j, j < xs.length → wid xs j ≤ 4) (i k : Nat) (hi : i ≤ xs.length) (hk : k ≤ 4) : (tgP h xs i k).length ≤ 4 * i + 4 := by
  have := tgT_len h hx i hi
  rw [tgP, List.length_append]
  simp
  omega
/-- Where column k of stitch i is put. -/
def atK (xs : List Int) (i k : Nat) : Nat := if md (xs.getD i 0) = 1 then 0 else k
def hxA (xs : List Int) (i k : Nat) : Int := 2 * (sF tk xs i + (k : Int)) + 1
def hxB (xs : List Int) (i k : Nat) : Int := 2 * (sF tk xs i + (atK xs i k : Int)) + 1
def hxC (xs : List Int) (i k : Nat) : Int := 2 * (sF md xs i + (atK xs i k : Int)) + 1
theorem md_tk {k : Int} (h : knd k = true) : md k = 1 ∨ md k = tk k := by
  obtain ⟨j, rfl, h1, h2⟩ := knd_nat h
  rw [tk_at ⟨h1, h2⟩, md_at ⟨h1, h2⟩]
  exact all12 (fun j => 1 ≤ j → mdT.getD j 0 = 1 ∨ mdT.getD j 0 = tkT.getD j 0) (by decide) h2 h1
def rtW (h : List Int → Nat → Nat → Int) (d c : Int) (xs : List Int) : List Int := if laC d c xs = 0 then tgT (h xs) xs xs.length else []
theorem wid_le {xs : List Int} (hl : lst xs = true) : ∀ j, j < xs.length → wid xs j ≤ 4 := fun j hj => by
  have := tk_bound ((lst_parts hl).2 j hj)
  unfold wid; omega
theorem rtW_len (h : List Int → Nat → Nat → Int) (d c : Int) (xs : List Int) : (rtW h d c xs).length ≤ 20000 := by
  unfold rtW
  split
  · rename_i h0
    have hl := row_lst (la_row h0)
    have h16 := (lst_parts hl).1
    have := tgT_len (h xs) (wid_le hl) xs.length (Nat.le_refl _)
    omega
  · simp

/-! ### Three lists that grow beside one another -/
structure T (w : World) (lo : Nat) (u1 u2 u3 : Value) (A B C : List Int) : Prop where
  r1 : w.ownsRow lo 2 1 u1 A.length (A.map (Value.int .i64))
  r2 : w.ownsRow lo 2 1 u2 B.length (B.map (Value.int .i64))
  r3 : w.ownsRow lo 2 1 u3 C.length (C.map (Value.int .i64))
  d12 : ∀ g, u1.ownBlock = some g → u2.ownBlock ≠ some g
  d13 : ∀ g, u1.ownBlock = some g → u3.ownBlock ≠ some g
  d23 : ∀ g, u2.ownBlock = some g → u3.ownBlock ≠ some g
theorem T.rot {w : World} {lo : Nat} {u1 u2 u3 : Value} {A B C : List Int} (h : T w lo u1 u2 u3 A B C) : T w lo u2 u3 u1 B C A :=
  ⟨h.r2, h.r3, h.r1, h.d23, fun g e e' => h.d12 g e' e, fun g e e' => h.d13 g e' e⟩
theorem T.below {w w' : World} {lo : Nat} {u1 u2 u3 : Value} {A B C : List Int} (h : T w lo u1 u2 u3 A B C) (b : Below w.heap.size w w') : T w' lo u1 u2 u3 A B C :=
  ⟨h.r1.kept (grN b) (by cases u1.ownBlock <;> simp), h.r2.kept (grN b) (by cases u2.ownBlock <;> simp), h.r3.kept (grN b) (by cases u3.ownBlock <;> simp), h.d12, h.d13, h.d23⟩
theorem T.nil (w : World) (lo : Nat) : T w lo (.slice none 0 0) (.slice none 0 0) (.slice none 0 0) [] [] [] :=
  ⟨World.ownsRow_nil _ _ _ _, World.ownsRow_nil _ _ _ _, World.ownsRow_nil _ _ _ _, fun g e => (by cases e), fun g e => (by cases e), fun g e => (by cases e)⟩
theorem row_val {w : World} {lo : Nat} {v : Value} {n : Nat} {L : List Value} (h : w.ownsRow lo 2 1 v n L) : ∃ ao cap, v = .slice ao n cap := by
  rcases h.2 with ⟨rfl, h2⟩ | ⟨g, cap, cur, rfl, _⟩
  · exact ⟨none, 0, by rw [h2]⟩
  · exact ⟨_, _, rfl⟩
theorem T.app {w w' : World} {lo : Nat} {u1 u2 u3 u1' : Value} {A B C : List Int} {x : Int} {o : Obj} (h : T w lo u1 u2 u3 A B C) (hr : w'.ownsRow lo 2 1 u1' (A.length + 1) (A.map (Value.int .i64) ++ [.int .i64 x])) (hg : (w.alloc o).grownBy w' u1.ownBlock)
    (h5 : u1'.ownBlock = u1.ownBlock ∨ u1'.ownBlock = some (w.alloc o).heap.size) : T w' lo u1' u2 u3 (A ++ [x]) B C := by
  have b := (Below.refl w.heap.size w).alloc (Nat.le_refl _) o
  have h' := h.below b
  have l2 := h.r2.lt
  have l3 := h.r3.lt
  have hs : (w.alloc o).heap.size = w.heap.size + 1 := by simp
  refine ⟨by simpa using hr, h'.r2.kept hg ?_, h'.r3.kept hg ?_, fun g e => ?_, fun g e => ?_, h.d23⟩
  · cases h2 : u2.ownBlock with
    | none => exact .inl rfl
    | some g => exact .inr (fun e => h.d12 g e.symm h2)
  · cases h2 : u3.ownBlock with
    | none => exact .inl rfl
    | some g => exact .inr (fun e => h.d13 g e.symm h2)
  · rcases h5 with h5 | h5
    · exact h.d12 g (by rw [← h5]; exact e)
    · intro e2
      have := (l2 g e2).2
      rw [h5] at e
      simp only [Option.some.injEq] at e
      omega
  · rcases h5 with h5 | h5
    · exact h.d13 g (by rw [← h5]; exact e)
    · intro e2
      have := (l3 g e2).2
      rw [h5] at e
      simp only [Option.some.injEq] at e
      omega

/-- append of one number to the first of the three. -/
theorem wp_app3 {ops : Array Oper} {rest : List Oper} {o : Oper} {a : Act} {Q : Exit → Act → World → Prop} {w : World} (hgd : o.guard = none) (s x : Operand)
    (hop : o.op = .call { callee := .builtin .append, args := #[s, x], argTypes := #[34, 34] })
    (lo : Nat) (u1 u2 u3 : Value) (A B C : List Int) (x0 : Int) (h : T w lo u1 u2 u3 A B C) (hs : a.eval s = u1) (hx : a.eval x = .slice (some ⟨w.heap.size, 0, none⟩) 1 1) (hlo : lo ≤ w.heap.size) (hn : A.length ≤ 1048576)
    (hK : ∀ u' w', T w' lo u' u2 u3 (A ++ [x0]) B C → Below lo w w' → wpList Tryd.prog ops Q rest (a.put o.dst u') w') : wpList Tryd.prog ops Q (o :: rest) a (w.alloc (.cells #[.int .i64 x0] 2)) := by
  obtain ⟨i0, hi', hz0, hz1, hz2⟩ := info_parts info64
  have b := (Below.refl w.heap.size w).alloc (Nat.le_refl _) (.cells #[.int .i64 x0] 2)
  refine wpList_append_own_at _ hgd s x 34 hop lo 2 i0 (.int .i64 0) 1 8 Tryd.underlying34 hi' hz0 hz1 hz2 rfl (by decide) u1 A.length (A.map (Value.int .i64)) hs (h.below b).r1 ⟨w.heap.size, 0, none⟩ 1 1 [.int .i64 x0] hx (by simp)
    (fun j u hj => by
      match j, hj with
      | 0, hj =>
        simp only [List.getElem?_cons_zero, Option.some.injEq] at hj
        subst hj
        rw [Addr.add_lit, World.cell?_alloc_at _ _ _ _ rfl]; rfl)
    (fun u hu => by simp at hu; subst hu; rfl) (by unfold maxLen; omega) (by omega) (by simp; omega) ?_
  intro u' w' h2 h3 _ h5
  refine hK u' w' (h.app h2 h3 h5) ⟨h3.os, h3.tape, h3.output, Nat.le_trans b.size h3.size, fun k hk => ?_⟩
  rw [h3.block k (by have := b.size; omega) (by intro e; have := (h.r1.lt k e.symm).1; omega)]
  exact b.block k (by omega)

/-- One of them as an answer, in an interval of its own. -/
theorem tight {w : World} {lo : Nat} {v : Value} {xs : List Int} (h : w.ownsRow lo 2 1 v xs.length (xs.map (Value.int .i64))) (hlo : lo ≤ w.heap.size) :
    ∃ l e, Own w l e v xs ∧ lo ≤ l ∧ e ≤ w.heap.size ∧ (l = lo ∧ e = lo ∨ e = l + 1 ∧ v.ownBlock = some l) := by
  rcases h.2 with ⟨hv, h0⟩ | ⟨g, cap, cur, hv, hb, hg, hr⟩
  · exact ⟨lo, lo, ⟨h, fun k hk => (by rw [hv] at hk; cases hk), hlo⟩, Nat.le_refl _, hlo, .inl ⟨rfl, rfl⟩⟩
  · have hlt := h.lt g (by rw [hv]; rfl)
    exact ⟨g, g + 1, ⟨⟨h.1, .inr ⟨g, cap, cur, hv, Nat.le_refl _, hg, hr⟩⟩, fun k hk => (by rw [hv] at hk; simp only [Value.ownBlock, Option.some.injEq] at hk; omega), by omega⟩, hb, by omega, .inr ⟨rfl, by rw [hv]; rfl⟩⟩
def T3 (w : World) (lo : Nat) (u1 u2 u3 : Value) (A B C : List Int) : Prop :=
  ∃ l1 e1 l2 e2 l3 e3 : Nat, Own w l1 e1 u1 A ∧ Own w l2 e2 u2 B ∧ Own w l3 e3 u3 C ∧ lo ≤ l1 ∧ lo ≤ l2 ∧ lo ≤ l3 ∧ e1 ≤ w.heap.size ∧ e2 ≤ w.heap.size ∧ e3 ≤ w.heap.size ∧ (e1 ≤ l2 ∨ e2 ≤ l1) ∧ (e1 ≤ l3 ∨ e3 ≤ l1) ∧ (e2 ≤ l3 ∨ e3 ≤ l2)
theorem apart {lo l1 e1 l2 e2 : Nat} {u1 u2 : Value} (h1 : l1 = lo ∧ e1 = lo ∨ e1 = l1 + 1 ∧ u1.ownBlock = some l1) (h2 : l2 = lo ∧ e2 = lo ∨ e2 = l2 + 1 ∧ u2.ownBlock = some l2) (k1 : lo ≤ l1) (k2 : lo ≤ l2) (d : ∀ g, u1.ownBlock = some g → u2.ownBlock ≠ some g) : e1 ≤ l2 ∨ e2 ≤ l1 := by
  rcases h1 with h1 | ⟨h1, b1⟩
  · omega
  · rcases h2 with h2 | ⟨h2, b2⟩
    · omega
    · have : l1 ≠ l2 := fun e => d l1 b1 (by rw [e]; exact b2)
      omega
theorem T.out {w : World} {lo : Nat} {u1 u2 u3 : Value} {A B C : List Int} (h : T w lo u1 u2 u3 A B C) (hlo : lo ≤ w.heap.size) : T3 w lo u1 u2 u3 A B C := by
  obtain ⟨l1, e1, o1, k1, s1, p1⟩ := tight h.r1 hlo
  obtain ⟨l2, e2, o2, k2, s2, p2⟩ := tight h.r2 hlo
  obtain ⟨l3, e3, o3, k3, s3, p3⟩ := tight h.r3 hlo
  exact ⟨l1, e1, l2, e2, l3, e3, o1, o2, o3, k1, k2, k3, s1, s2, s3, apart p1 p2 k1 k2 h.d12, apart p1 p3 k1 k3 h.d13, apart p2 p3 k2 k3 h.d23⟩
theorem T.low {w : World} {lo lo' : Nat} {u1 u2 u3 : Value} {A B C : List Int} (h : T w lo u1 u2 u3 A B C) (hl : lo' ≤ lo) : T w lo' u1 u2 u3 A B C := by
  have f : ∀ {v : Value} {n : Nat} {L : List Value}, w.ownsRow lo 2 1 v n L → w.ownsRow lo' 2 1 v n L := fun r => by
    refine ⟨r.1, ?_⟩
    rcases r.2 with h1 | ⟨g, c, cur, h1, h2, h3⟩
    · exact .inl h1
    · exact .inr ⟨g, c, cur, h1, by omega, h3⟩
  exact ⟨f h.r1, f h.r2, f h.r3, h.d12, h.d13, h.d23⟩
/-- Three empty lists. -/
theorem T.made (w : World) : T (((w.alloc (.cells #[] 2)).alloc (.cells #[] 2)).alloc (.cells #[] 2)) w.heap.size (.slice (some ⟨w.heap.size, 0, none⟩) 0 0) (.slice (some ⟨w.heap.size + 1, 0, none⟩) 0 0) (.slice (some ⟨w.heap.size + 1 + 1, 0, none⟩) 0 0) [] [] [] := by
  have m := fun (W : World) (lo : Nat) (h : lo ≤ W.heap.size) => World.ownsRow_made (base := lo) (e := 2) (size := 1) W #[] 0 h (by unfold maxLen; omega) (by simp)
  have b := fun (W : World) => grN ((Below.refl W.heap.size W).alloc (Nat.le_refl _) (.cells #[] 2))
  have h1 := ((m w w.heap.size (Nat.le_refl _)).kept (b _) (by simp [Value.ownBlock])).kept (b _) (by simp [Value.ownBlock])
  have h2 := (m (w.alloc (.cells #[] 2)) w.heap.size (by simp)).kept (b _) (by simp [Value.ownBlock])
  have h3 := m ((w.alloc (.cells #[] 2)).alloc (.cells #[] 2)) w.heap.size (by simp; omega)
  refine ⟨h1, by simpa using h2, by simpa using h3, fun g e e' => ?_, fun g e e' => ?_, fun g e e' => ?_⟩ <;> (simp only [Value.ownBlock, Option.some.injEq] at e e'; omega)
end Go.Proofs.YtbbnheiibkcgiaaDoor.la
