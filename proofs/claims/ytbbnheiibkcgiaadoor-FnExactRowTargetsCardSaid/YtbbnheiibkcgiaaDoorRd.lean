/-
  Contracts of ReduceBraid, of the program and of its model.
-/
import Derived.Test.YtbbnheiibkcgiaaDoorIv
import Derived.ArgAppend
namespace Go.Proofs.YtbbnheiibkcgiaaDoor.br
open Go.RowKit Go.Proofs.YtbbnheiibkcgiaaDoor.sl Go.Proofs.YtbbnheiibkcgiaaDoor.pm Go.Proofs.YtbbnheiibkcgiaaDoor.bw Go.Proofs.YtbbnheiibkcgiaaDoor.fn

def rdcW (s : Int) (xs : List Int) : List Int := wordOk s xs (redL xs)
theorem rdcW_len (s : Int) (xs : List Int) : (rdcW s xs).length ≤ 1000 := by
  cases h : okB s xs
  · rw [rdcW, wordOk_no h]; simp
  · rw [rdcW, wordOk_yes h]
    have := (ok_parts h).2.2.1
    have := redL_len xs
    omega

/-- A slice that is cut down. -/
theorem own_cut {w : World} {lo hi n cap m : Nat} {ao : Option Addr} {xs : List Int} (o : Own w lo hi (.slice ao n cap) xs) (hm : m ≤ xs.length) : Own w lo hi (.slice ao m cap) (xs.take m) := by
  obtain ⟨hown, hlt, hhi⟩ := o
  refine ⟨?_, ?_, hhi⟩
  · have hl : (xs.take m).length = m := by simp; omega
    rw [hl]
    refine ⟨by simp; omega, ?_⟩
    rcases hown.2 with ⟨h1, h2⟩ | ⟨g, c, cur, h1, h2, h3, h4, h5, h6, h7⟩
    · cases h1
      obtain rfl : m = 0 := by omega
      exact .inl ⟨rfl, rfl⟩
    · cases h1
      refine .inr ⟨g, cap, cur, rfl, h2, h3, by omega, h5, h6, ?_⟩
      have e : cur.toList.take (m * 1) = (cur.toList.take (xs.length * 1)).take m := by rw [List.take_take]; congr 1; omega
      rw [e, h7, List.map_take]
  · intro g hg
    cases ao with
    | none => cases hg
    | some a => exact hlt g hg

theorem own_caps {w : World} {lo hi n cap : Nat} {ao : Option Addr} {xs : List Int} (o : Own w lo hi (.slice ao n cap) xs) : n ≤ cap ∧ cap ≤ 9223372036854775807 := by
  rcases o.1.2 with ⟨h1, h2⟩ | ⟨g, c, cur, h1, h2, h3, h4, h5, _⟩
  · cases h1; omega
  · cases h1; unfold maxLen at h5; omega

/-- append(s[:len:len], x): the slice is full, so there is a new block. -/
theorem wp_appendFull {ops : Array Oper} {rest : List Oper} {o : Oper} {a : Act} {Q : Exit → Act → World → Prop} {w : World} (hgd : o.guard = none) (s x : Operand) (T : TypeId) (hT : Tryd.prog.underlying T = some (.slice 2))
    (hop : o.op = .call { callee := .builtin .append, args := #[s, x], argTypes := #[T, T] })
    (lo hi : Nat) (ao : Option Addr) (n cap : Nat) (xs : List Int) (x0 : Int) (ho : Own w lo hi (.slice ao n cap) xs) (hn' : n = xs.length) (hs : a.eval s = .slice ao n n) (b0 : Nat) (hb0 : b0 = w.heap.size) (hx : a.eval x = .slice (some ⟨b0, 0, none⟩) 1 1) (hn : xs.length ≤ 1099511627776)
    (hK : ∀ v' w', Own w' w.heap.size w'.heap.size v' (xs ++ [x0]) → Below w.heap.size w w' → wpList Tryd.prog ops Q rest (a.put o.dst v') w') : wpList Tryd.prog ops Q (o :: rest) a (w.alloc (.cells #[.int .i64 x0] 2)) := by
  subst hb0
  obtain ⟨i0, hi', hz0, hz1, hz2⟩ := info_parts info64
  have hown := ho.1.alloc (.cells #[.int .i64 x0] 2)
  refine wpList_append_grows _ hgd s x T hop 2 i0 (.int .i64 0) 1 8 hT hi' hz0 hz1 hz2 rfl (by decide) ao n n (xs.map (Value.int .i64)) hs ?_ (by simp [hn']) ?_ ⟨w.heap.size, 0, none⟩ 1 1 [.int .i64 x0] hx rfl ?_ ?_ (by omega) ?_ ?_ ?_
  · intro h
    rcases ho.1.2 with ⟨h1, h2⟩ | ⟨g, c, cur, h1, _⟩
    · exact ⟨by omega, by omega⟩
    · rw [h] at h1; cases h1
  · intro b hb j u hj
    subst hb
    rcases ho.1.2 with ⟨h1, h2⟩ | ⟨g, c, cur, h1, _⟩
    · cases h1
    · simp only [Value.slice.injEq, Option.some.injEq] at h1
      obtain ⟨rfl, rfl, rfl⟩ := h1
      have hjl : j < xs.length := by
        have := (List.getElem?_eq_some_iff.1 hj).1
        simpa using this
      have h2 := ((own_al ho (.cells #[.int .i64 x0] 2)).at' j hjl).1
      rw [Addr.add_lit, Nat.zero_add, h2]
      simp only [List.getElem?_map, List.getElem?_eq_getElem hjl, Option.map_some, Option.some.injEq] at hj
      rw [← hj]
      simp [List.getD, List.getElem?_eq_getElem hjl]
  · intro j u hj
    match j, hj with
    | 0, hj =>
      simp only [List.getElem?_cons_zero, Option.some.injEq] at hj
      subst hj
      rw [Addr.add_lit, World.cell?_alloc_at _ _ _ _ rfl]; rfl
  · intro u hu; simp at hu; subst hu; rfl
  · unfold maxLen; omega
  · omega
  · intro v' w' h1 h2
    have hsz : w.heap.size + 1 ≤ w'.heap.size := by have := h2.size; simpa using this
    have e : (xs ++ [x0]).length = n + 1 := by simp [hn']
    refine hK v' w' ((Own.mk' (lo := (w.alloc (.cells #[.int .i64 x0] 2)).heap.size) (by rw [e, List.map_append]; exact h1)).lo (by simp)) ?_
    exact ((Below.refl w.heap.size w).alloc (Nat.le_refl _) _).trans ((below_grown h2).mono (by simp))

theorem redTo_len' (xs : List Int) (k : Nat) (h : k ≤ xs.length) (h40 : xs.length ≤ 40) : (redTo xs k).length ≤ 1099511627776 := by
  have := redTo_len xs k h
  omega

end Go.Proofs.YtbbnheiibkcgiaaDoor.br
