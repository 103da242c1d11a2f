/-
  The methods of a linked word: insertBefore, remove.
-/
import Derived.Test.YtedajefapddekaaHl1
import Derived.BigRegion
namespace Go.Proofs.Ytedajefapddekaa.hl
open Go.RowKit Go.Proofs.Ytedajefapddekaa.sl
set_option linter.unusedVariables false

set_option maxRecDepth 100000 in
theorem insB (lo W : Nat) (Q : Nat → Nat) (xs : List Int) (k : Nat) (hk : k ≤ xs.length) (v : Int) (w : World) (h : LW w lo W Q xs) (hlo : lo ≤ w.heap.size) (hn : xs.length ≤ 1000000) :
    Calls Try.prog 114 #[ptr W, ptr (Q (k + 1)), .int .i64 v] w fun e w' => e = .returned (.tuple #[]) ∧ LW w' lo W (insQ Q k w.heap.size) (insL xs k v) ∧ Below lo w w' ∧ ∀ C, C < w.heap.size → Away Q xs.length W C → w'.heap[C]? = w.heap[C]? ∧ Away (insQ Q k w.heap.size) (insL xs k v).length W C := by
  have c1 := h.lst.pv k hk
  have c2 := h.lst.nx k hk
  have f1 := h.lst.fz' (k + 1) 1 (by omega)
  have f2 := h.lst.fz k 2 hk
  have cW := h.c1
  have fW := h.fzW 1
  have o1 := (h.lst.own k hk).2
  have o2 := (h.lst.own' (k + 1) (by omega)).2
  have oW := h.ownW.2
  have m1 := h.far' k (by omega)
  have m2 := h.far' (k + 1) (by omega)
  have H := hid h
  clear h
  obtain ⟨p, hp⟩ : ∃ p, p = Q k := ⟨_, rfl⟩
  obtain ⟨q, hq⟩ : ∃ q, q = Q (k + 1) := ⟨_, rfl⟩
  rw [← hp] at c1 c2 f2 o1 m1
  rw [← hq] at c1 c2 f1 o2 m2
  rw [← hq]
  have HP := hid hp
  have HQ := hid hq
  clear hp hq
  unfold ptr at c1 c2
  unfold ptr
  go_enter Try.func114, Try.ntmps114
  go_wp2
  have x1 : (w.alloc (.cells #[.int .i64 v, .pointer (some ⟨p, 0, none⟩), .pointer (some ⟨q, 0, none⟩)] 103)).cell? ⟨w.heap.size, 1, none⟩ = some (.pointer (some ⟨p, 0, none⟩)) := World.cell?_alloc_at _ _ _ _ rfl
  have x2 : (w.alloc (.cells #[.int .i64 v, .pointer (some ⟨p, 0, none⟩), .pointer (some ⟨q, 0, none⟩)] 103)).cell? ⟨w.heap.size, 2, none⟩ = some (.pointer (some ⟨q, 0, none⟩)) := World.cell?_alloc_at _ _ _ _ rfl
  have d1 := (World.cell?_alloc_lt (w := w) (o := .cells #[.int .i64 v, .pointer (some ⟨p, 0, none⟩), .pointer (some ⟨q, 0, none⟩)] 103) (h := o2) (a := ⟨q, 1, none⟩)).trans c1
  have d2 := (World.cell?_alloc_lt (w := w) (o := .cells #[.int .i64 v, .pointer (some ⟨p, 0, none⟩), .pointer (some ⟨q, 0, none⟩)] 103) (h := o1) (a := ⟨p, 2, none⟩)).trans c2
  have dW := (World.cell?_alloc_lt (w := w) (o := .cells #[.int .i64 v, .pointer (some ⟨p, 0, none⟩), .pointer (some ⟨q, 0, none⟩)] 103) (h := oW) (a := ⟨W, 1, none⟩)).trans cW
  have g1 := (World.frozen?_alloc_past (w := w) (.cells #[.int .i64 v, .pointer (some ⟨p, 0, none⟩), .pointer (some ⟨q, 0, none⟩)] 103) q 1 o2).trans f1
  have g2 := (World.frozen?_alloc_past (w := w) (.cells #[.int .i64 v, .pointer (some ⟨p, 0, none⟩), .pointer (some ⟨q, 0, none⟩)] 103) p 2 o1).trans f2
  have gW := (World.frozen?_alloc_past (w := w) (.cells #[.int .i64 v, .pointer (some ⟨p, 0, none⟩), .pointer (some ⟨q, 0, none⟩)] 103) W 1 oW).trans fW
  have m3 : ¬ W = p := fun e => m1 e.symm
  have m4 : ¬ W = q := fun e => m2 e.symm
  have n1 : ¬ w.heap.size = p := by omega
  have n2 : ¬ w.heap.size = q := by omega
  obtain ⟨W1, hW1⟩ : ∃ W1, W1 = w.alloc (.cells #[.int .i64 v, .pointer (some ⟨p, 0, none⟩), .pointer (some ⟨q, 0, none⟩)] 103) := ⟨_, rfl⟩
  rw [← hW1] at x1 x2 d1 d2 dW g1 g2 gW
  rw [← hW1]
  have HW1 := hid hW1
  clear hW1 c1 c2 cW f1 f2 fW
  go_region
  all_goals (try go_wp2)
  go_end0
  have hh := H.out.ins hlo 103 k hk v
  unfold insW ptr at hh
  rw [← HP.out, ← HQ.out, ← HW1.out] at hh
  exact ⟨rfl, hh.1.drew, hh.2.1.drew, hh.2.2⟩

set_option maxRecDepth 100000 in
theorem rmv (lo W : Nat) (Q : Nat → Nat) (xs : List Int) (k : Nat) (hk : k < xs.length) (w : World) (h : LW w lo W Q xs) (hn : xs.length ≤ 1000000) :
    Calls Try.prog 118 #[ptr W, ptr (Q (k + 1))] w fun e w' => e = .returned (.tuple #[]) ∧ LW w' lo W (remQ Q k) (xs.eraseIdx k) ∧ Below lo w w' ∧ ∀ C, C < w.heap.size → Away Q xs.length W C → w'.heap[C]? = w.heap[C]? ∧ Away (remQ Q k) (xs.eraseIdx k).length W C := by
  have c1 := h.lst.pv k (by omega)
  have c2 := h.lst.nx (k + 1) (by omega)
  have c3 := h.lst.nx k (by omega)
  have c4 := h.lst.pv (k + 1) (by omega)
  have f1 := h.lst.fz k 2 (by omega)
  have f2 := h.lst.fz' (k + 2) 1 (by omega)
  have cW := h.c1
  have fW := h.fzW 1
  have m1 := h.far' k (by omega)
  have m2 := h.far' (k + 2) (by omega)
  have m5 : ¬ Q (k + 1) = Q k := fun e => by have := h.lst.apart (k + 1) k (by omega) (by omega) e; omega
  have m6 : ¬ Q (k + 1) = Q (k + 2) := fun e => by
    by_cases e4 : k + 2 = xs.length + 1
    · rw [e4, h.lst.back] at e; exact h.lst.far0 (k + 1) (by omega) (by omega) e
    · have := h.lst.apart (k + 1) (k + 2) (by omega) (by omega) e; omega
  have H := hid (h.rem k hk)
  clear h
  unfold remW at H
  obtain ⟨p, hp⟩ : ∃ p, p = Q k := ⟨_, rfl⟩
  obtain ⟨q, hq⟩ : ∃ q, q = Q (k + 2) := ⟨_, rfl⟩
  obtain ⟨x, hx⟩ : ∃ x, x = Q (k + 1) := ⟨_, rfl⟩
  simp only [Nat.add_assoc, Nat.reduceAdd] at c2 c4
  rw [← hp] at c1 c3 f1 m1 m5 H
  rw [← hq] at c2 c4 f2 m2 m6 H
  rw [← hx] at c1 c2 c3 c4 m5 m6
  rw [← hx]
  clear hp hq hx
  unfold ptr at c1 c2 c3 c4 H
  unfold ptr
  have m3 : ¬ W = p := fun e => m1 e.symm
  have m4 : ¬ W = q := fun e => m2 e.symm
  have m7 : ¬ p = x := fun e => m5 e.symm
  have m8 : ¬ q = x := fun e => m6 e.symm
  go_enter Try.func118, Try.ntmps118
  go_wp2_with fail
  go_region
  all_goals (try go_wp2)
  go_end0
  exact ⟨rfl, H.out.1.drew, H.out.2.1.drew, H.out.2.2⟩
end Go.Proofs.Ytedajefapddekaa.hl
