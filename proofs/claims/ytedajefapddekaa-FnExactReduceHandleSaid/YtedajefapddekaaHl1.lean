/-
  A doubly linked word in memory: its nodes, inserting, removing and changing a letter.
-/
import Derived.Test.YtedajefapddekaaSl
import Derived.Test.YtedajefapddekaaHl0
namespace Go.Proofs.Ytedajefapddekaa.hl
open Go.RowKit Go.Proofs.Ytedajefapddekaa.sl
set_option linter.unusedVariables false

def ptr (a : Nat) : Value := .pointer (some ⟨a, 0, none⟩)

/-- A block of plain cells. -/
def Blk (w : World) (b : Nat) : Prop := ∃ cs t, w.heap[b]? = some (.cells cs t (0, 0))
theorem Blk.fz {w : World} {b : Nat} (h : Blk w b) (o : Nat) : w.frozen? ⟨b, o, none⟩ = false := by
  obtain ⟨cs, t, h⟩ := h
  simp [World.frozen?, h]
theorem Blk.setCell {w : World} {b : Nat} (h : Blk w b) (a : Addr) (v : Value) : Blk (w.setCell a v) b := by
  obtain ⟨cs, t, h⟩ := h
  by_cases e : a.block = b
  · refine ⟨if a.spot.isSome then cs else cs.setIfInBounds a.off v, t, ?_⟩
    simp [World.setCell, Array.getElem?_modify, e, h]
  · refine ⟨cs, t, ?_⟩
    simp [World.setCell, Array.getElem?_modify, e, h]
theorem Blk.lt {w : World} {b : Nat} (h : Blk w b) : b < w.heap.size := by
  obtain ⟨cs, t, h⟩ := h
  exact (Array.getElem?_eq_some_iff.1 h).1
theorem Blk.alloc {w : World} {b : Nat} (h : Blk w b) (o : Obj) : Blk (w.alloc o) b := by
  obtain ⟨cs, t, h2⟩ := h
  exact ⟨cs, t, by rw [Below.heap_alloc _ _ _ (Blk.lt ⟨cs, t, h2⟩)]; exact h2⟩
theorem Blk.new (w : World) (cs : Array Value) (t : TypeId) : Blk (w.alloc (.cells cs t)) w.heap.size := ⟨cs, t, heap_alloc_new w _⟩
theorem Blk.keep {w w' : World} {b B : Nat} (h : Blk w b) (c : Below B w w') (hb : b < B) : Blk w' b := by
  obtain ⟨cs, t, h⟩ := h
  exact ⟨cs, t, (c.block b hb).trans h⟩

/-- The nodes Q 0 (the end), Q 1, .., Q n, from block lo on, hold the letters xs. -/
structure Lst (w : World) (lo : Nat) (Q : Nat → Nat) (xs : List Int) : Prop where
  back : Q (xs.length + 1) = Q 0
  apart : ∀ i j, i ≤ xs.length → j ≤ xs.length → Q i = Q j → i = j
  own : ∀ i, i ≤ xs.length → lo ≤ Q i ∧ Q i < w.heap.size
  nx : ∀ i, i ≤ xs.length → w.cell? ⟨Q i, 2, none⟩ = some (ptr (Q (i + 1)))
  pv : ∀ i, i ≤ xs.length → w.cell? ⟨Q (i + 1), 1, none⟩ = some (ptr (Q i))
  lt : ∀ i, i < xs.length → w.cell? ⟨Q (i + 1), 0, none⟩ = some (.int .i64 (xs.getD i 0))
  bl : ∀ i, i ≤ xs.length → Blk w (Q i)

/-- The word at block W: its end and its size. -/
structure LW (w : World) (lo W : Nat) (Q : Nat → Nat) (xs : List Int) : Prop where
  lst : Lst w lo Q xs
  c0 : w.cell? ⟨W, 0, none⟩ = some (ptr (Q 0))
  c1 : w.cell? ⟨W, 1, none⟩ = some (.int .i64 xs.length)
  fzW : ∀ o, w.frozen? ⟨W, o, none⟩ = false
  ownW : lo ≤ W ∧ W < w.heap.size
  far : ∀ i, i ≤ xs.length → ¬ Q i = W

theorem Lst.far0 {w : World} {lo : Nat} {Q : Nat → Nat} {xs : List Int} (h : Lst w lo Q xs) (i : Nat) (h0 : 0 < i) (hi : i ≤ xs.length) : ¬ Q i = Q 0 := fun e => by
  have := h.apart i 0 hi (Nat.zero_le _) e; omega
theorem Lst.own' {w : World} {lo : Nat} {Q : Nat → Nat} {xs : List Int} (h : Lst w lo Q xs) (i : Nat) (hi : i ≤ xs.length + 1) : lo ≤ Q i ∧ Q i < w.heap.size := by
  by_cases e : i = xs.length + 1
  · subst e; rw [h.back]; exact h.own 0 (Nat.zero_le _)
  · exact h.own i (by omega)
theorem Lst.fz {w : World} {lo : Nat} {Q : Nat → Nat} {xs : List Int} (h : Lst w lo Q xs) (i o : Nat) (hi : i ≤ xs.length) : w.frozen? ⟨Q i, o, none⟩ = false := (h.bl i hi).fz o
theorem Lst.bl' {w : World} {lo : Nat} {Q : Nat → Nat} {xs : List Int} (h : Lst w lo Q xs) (i : Nat) (hi : i ≤ xs.length + 1) : Blk w (Q i) := by
  by_cases e : i = xs.length + 1
  · subst e; rw [h.back]; exact h.bl 0 (Nat.zero_le _)
  · exact h.bl i (by omega)
theorem Lst.fz' {w : World} {lo : Nat} {Q : Nat → Nat} {xs : List Int} (h : Lst w lo Q xs) (i o : Nat) (hi : i ≤ xs.length + 1) : w.frozen? ⟨Q i, o, none⟩ = false := by
  by_cases e : i = xs.length + 1
  · subst e; rw [h.back]; exact h.fz 0 o (Nat.zero_le _)
  · exact h.fz i o (by omega)

/-- What changes no block from lo on that it has, keeps the word. -/
theorem Lst.keep {w w' : World} {lo : Nat} {Q : Nat → Nat} {xs : List Int} (h : Lst w lo Q xs) (b : Below w.heap.size w w') : Lst w' lo Q xs where
  back := h.back
  apart := h.apart
  own := fun i hi => ⟨(h.own i hi).1, Nat.lt_of_lt_of_le (h.own i hi).2 b.size⟩
  nx := fun i hi => (b.cell (p := ⟨Q i, 2, none⟩) (h.own i hi).2).trans (h.nx i hi)
  pv := fun i hi => (b.cell (p := ⟨Q (i + 1), 1, none⟩) (h.own' (i + 1) (by omega)).2).trans (h.pv i hi)
  lt := fun i hi => (b.cell (p := ⟨Q (i + 1), 0, none⟩) (h.own' (i + 1) (by omega)).2).trans (h.lt i hi)
  bl := fun i hi => (h.bl i hi).keep b (h.own i hi).2
theorem LW.keep {w w' : World} {lo W : Nat} {Q : Nat → Nat} {xs : List Int} (h : LW w lo W Q xs) (b : Below w.heap.size w w') : LW w' lo W Q xs where
  lst := h.lst.keep b
  c0 := (b.cell (p := ⟨W, 0, none⟩) h.ownW.2).trans h.c0
  c1 := (b.cell (p := ⟨W, 1, none⟩) h.ownW.2).trans h.c1
  fzW := fun o => (b.frozen (p := ⟨W, o, none⟩) h.ownW.2).trans (h.fzW o)
  ownW := ⟨h.ownW.1, Nat.lt_of_lt_of_le h.ownW.2 b.size⟩
  far := h.far

theorem LW.far' {w : World} {lo W : Nat} {Q : Nat → Nat} {xs : List Int} (h : LW w lo W Q xs) (i : Nat) (hi : i ≤ xs.length + 1) : ¬ Q i = W := by
  by_cases e : i = xs.length + 1
  · subst e; rw [h.lst.back]; exact h.far 0 (Nat.zero_le _)
  · exact h.far i (by omega)

/-! ### a letter changed -/
theorem Lst.setL {w : World} {lo : Nat} {Q : Nat → Nat} {xs : List Int} (h : Lst w lo Q xs) (k : Nat) (hk : k < xs.length) (v : Int) : Lst (w.setCell ⟨Q (k + 1), 0, none⟩ (.int .i64 v)) lo Q (xs.set k v) where
  back := by simpa using h.back
  apart := by simpa using h.apart
  own := by simpa using h.own
  nx := fun i hi => by
    rw [World.cell?_setCell_other (h := fun e => by injection e; omega)]
    exact h.nx i (by simpa using hi)
  pv := fun i hi => by
    rw [World.cell?_setCell_other (h := fun e => by injection e; omega)]
    exact h.pv i (by simpa using hi)
  lt := fun i hi => by
    have hi' : i < xs.length := by simpa using hi
    by_cases e : i = k
    · subst e
      rw [World.cell?_setCell_same (h := h.lt i hi')]
      simp [List.getD, hi']
    · rw [World.cell?_setCell_other (h := fun e2 => by
        have e3 : Q (k + 1) = Q (i + 1) := by injection e2
        have := h.apart (k + 1) (i + 1) (by omega) (by omega) e3; omega)]
      rw [h.lt i hi']
      simp [List.getD, show ¬ k = i from fun x => e x.symm]
  bl := fun i hi => (h.bl i (by simpa using hi)).setCell _ _
theorem LW.setL {w : World} {lo W : Nat} {Q : Nat → Nat} {xs : List Int} (h : LW w lo W Q xs) (k : Nat) (hk : k < xs.length) (v : Int) : LW (w.setCell ⟨Q (k + 1), 0, none⟩ (.int .i64 v)) lo W Q (xs.set k v) where
  lst := h.lst.setL k hk v
  c0 := by rw [World.cell?_setCell_other (h := fun e => h.far (k + 1) (by omega) (by injection e))]; exact h.c0
  c1 := by rw [World.cell?_setCell_other (h := fun e => h.far (k + 1) (by omega) (by injection e))]; rw [h.c1]; simp
  fzW := fun o => by rw [World.frozen?_setCell]; exact h.fzW o
  ownW := by simpa using h.ownW
  far := by simpa using h.far

/-! ### a letter removed -/
def remQ (Q : Nat → Nat) (k : Nat) (i : Nat) : Nat := if i ≤ k then Q i else Q (i + 1)
theorem getD_erase (xs : List Int) (k i : Nat) : (xs.eraseIdx k).getD i 0 = if i < k then xs.getD i 0 else xs.getD (i + 1) 0 := by
  rw [List.getD, List.getElem?_eraseIdx, List.getD, List.getD]
  split <;> rfl
theorem len_erase (xs : List Int) (k : Nat) (hk : k < xs.length) : (xs.eraseIdx k).length + 1 = xs.length := by rw [List.length_eraseIdx, if_pos hk]; omega
/-- The world behind the two stores of remove. -/
def remW (w : World) (a b : Nat) : World := (w.setCell ⟨a, 2, none⟩ (ptr b)).setCell ⟨b, 1, none⟩ (ptr a)
theorem remW_cell {w : World} {a b : Nat} (p : Addr) (h1 : ¬ p = ⟨a, 2, none⟩) (h2 : ¬ p = ⟨b, 1, none⟩) : (remW w a b).cell? p = w.cell? p := by
  unfold remW
  rw [World.cell?_setCell_other (h := fun e => h2 e.symm), World.cell?_setCell_other (h := fun e => h1 e.symm)]
theorem addr_ne {a b o p : Nat} (h : ¬ (a = b ∧ o = p)) : ¬ (⟨a, o, none⟩ : Addr) = ⟨b, p, none⟩ := fun e => h (by injection e; constructor <;> assumption)
theorem Lst.rem {w : World} {lo : Nat} {Q : Nat → Nat} {xs : List Int} (h : Lst w lo Q xs) (k : Nat) (hk : k < xs.length) : Lst (remW w (Q k) (Q (k + 2))) lo (remQ Q k) (xs.eraseIdx k) := by
  have hl := len_erase xs k hk
  have hA := h.apart
  obtain ⟨n, hn⟩ : ∃ n, n = xs.length := ⟨_, rfl⟩
  -- the nodes behind removing, up to the end
  have hq : ∀ i, remQ Q k i = if i ≤ k then Q i else Q (i + 1) := fun i => rfl
  refine ⟨?_, ?_, ?_, ?_, ?_, ?_, ?_⟩
  · rw [hq, hq, if_neg (by omega), if_pos (by omega), hl]; exact h.back
  · intro i j hi hj e
    rw [hq, hq] at e
    split at e <;> split at e
    · exact hA i j (by omega) (by omega) e
    · have := hA i (j + 1) (by omega) (by omega) e; omega
    · have := hA (i + 1) j (by omega) (by omega) e; omega
    · have := hA (i + 1) (j + 1) (by omega) (by omega) e; omega
  · intro i hi
    rw [hq]
    have hs : (remW w (Q k) (Q (k + 2))).heap.size = w.heap.size := by unfold remW; simp
    rw [hs]
    split
    · exact h.own i (by omega)
    · exact h.own (i + 1) (by omega)
  · intro i hi
    rw [hq, hq]
    by_cases e : i = k
    · subst e
      rw [if_pos (Nat.le_refl _), if_neg (by omega)]
      unfold remW
      rw [World.cell?_setCell_other (h := fun e => by injection e; omega), World.cell?_setCell_same (h := h.nx i (by omega))]
    · by_cases e2 : i < k
      · rw [if_pos (by omega), if_pos (by omega), remW_cell _ (addr_ne fun e3 => by have := hA i k (by omega) (by omega) e3.1; omega) (addr_ne fun e3 => by omega)]
        exact h.nx i (by omega)
      · rw [if_neg (by omega), if_neg (by omega), remW_cell _ (addr_ne fun e3 => by have := hA (i + 1) k (by omega) (by omega) e3.1; omega) (addr_ne fun e3 => by omega)]
        exact h.nx (i + 1) (by omega)
  · intro i hi
    rw [hq, hq]
    by_cases e : i = k
    · subst e
      rw [if_pos (Nat.le_refl _), if_neg (by omega)]
      unfold remW
      have hp := h.pv (i + 1) (by omega)
      rw [World.cell?_setCell_same (u := ptr (Q (i + 1)))]
      rw [World.cell?_setCell_other (h := fun e => by injection e; omega)]
      exact hp
    · by_cases e2 : i < k
      · rw [if_pos (by omega), if_pos (by omega), remW_cell _ (addr_ne fun e3 => by omega) (addr_ne fun e3 => by
          by_cases e4 : k + 2 = xs.length + 1
          · rw [e4, h.back] at e3; have := hA (i + 1) 0 (by omega) (by omega) e3.1; omega
          · have := hA (i + 1) (k + 2) (by omega) (by omega) e3.1; omega)]
        exact h.pv i (by omega)
      · rw [if_neg (by omega), if_neg (by omega), remW_cell _ (addr_ne fun e3 => by omega) (addr_ne fun e3 => by
          by_cases e4 : i + 2 = xs.length + 1
          · have e5 := e3.1
            rw [show i + 1 + 1 = xs.length + 1 from by omega, h.back] at e5; have := hA 0 (k + 2) (by omega) (by omega) e5; omega
          · have := hA (i + 2) (k + 2) (by omega) (by omega) e3.1; omega)]
        exact h.pv (i + 1) (by omega)
  · intro i hi
    rw [hq, getD_erase]
    by_cases e2 : i < k
    · rw [if_pos (by omega), if_pos e2, remW_cell _ (addr_ne fun e3 => by omega) (addr_ne fun e3 => by omega)]
      exact h.lt i (by omega)
    · rw [if_neg (by omega), if_neg e2, remW_cell _ (addr_ne fun e3 => by omega) (addr_ne fun e3 => by omega)]
      exact h.lt (i + 1) (by omega)
  · intro i hi
    rw [hq]
    unfold remW
    split
    · exact ((h.bl i (by omega)).setCell _ _).setCell _ _
    · exact ((h.bl (i + 1) (by omega)).setCell _ _).setCell _ _

/-! ### a letter inserted -/
def insQ (Q : Nat → Nat) (k X : Nat) (i : Nat) : Nat := if i ≤ k then Q i else if i = k + 1 then X else Q (i - 1)
def insL (xs : List Int) (k : Nat) (v : Int) : List Int := xs.take k ++ v :: xs.drop k
theorem len_ins (xs : List Int) (k : Nat) (v : Int) (hk : k ≤ xs.length) : (insL xs k v).length = xs.length + 1 := by unfold insL; simp; omega
theorem getD_ins (xs : List Int) (k : Nat) (v : Int) (i : Nat) (hk : k ≤ xs.length) : (insL xs k v).getD i 0 = if i < k then xs.getD i 0 else if i = k then v else xs.getD (i - 1) 0 := by
  unfold insL
  have hl : (xs.take k).length = k := by simp; omega
  by_cases h : i < k
  · rw [if_pos h, List.getD, List.getElem?_append_left (by omega), List.getElem?_take_of_lt h, List.getD]
  · rw [if_neg h, List.getD, List.getElem?_append_right (by omega), hl]
    by_cases e : i = k
    · rw [if_pos e]; subst e; simp
    · rw [if_neg e]
      obtain ⟨m, hm⟩ : ∃ m, i - k = m + 1 := ⟨i - k - 1, by omega⟩
      rw [hm, List.getElem?_cons_succ, List.getElem?_drop, List.getD, show k + m = i - 1 from by omega]
/-- The world behind insertBefore's new node and two stores. -/
def insW (w : World) (t : TypeId) (a b : Nat) (v : Int) : World := ((w.alloc (.cells #[.int .i64 v, ptr a, ptr b] t)).setCell ⟨a, 2, none⟩ (ptr w.heap.size)).setCell ⟨b, 1, none⟩ (ptr w.heap.size)
theorem insW_cell {w : World} {t : TypeId} {a b : Nat} {v : Int} (p : Addr) (hp : p.block < w.heap.size) (h1 : ¬ p = ⟨a, 2, none⟩) (h2 : ¬ p = ⟨b, 1, none⟩) : (insW w t a b v).cell? p = w.cell? p := by
  unfold insW
  rw [World.cell?_setCell_other (h := fun e => h2 e.symm), World.cell?_setCell_other (h := fun e => h1 e.symm), World.cell?_alloc_lt (h := hp)]
theorem insW_new {w : World} {t : TypeId} {a b : Nat} {v : Int} (ha : a < w.heap.size) (hb : b < w.heap.size) (o : Nat) : (insW w t a b v).cell? ⟨w.heap.size, o, none⟩ = #[.int .i64 v, ptr a, ptr b][o]? := by
  unfold insW
  rw [World.cell?_setCell_other (h := addr_ne fun e => by omega), World.cell?_setCell_other (h := addr_ne fun e => by omega), World.cell?_alloc_at _ _ _ _ rfl]
theorem Lst.ins {w : World} {lo : Nat} {Q : Nat → Nat} {xs : List Int} (h : Lst w lo Q xs) (hlo : lo ≤ w.heap.size) (t : TypeId) (k : Nat) (hk : k ≤ xs.length) (v : Int) :
    Lst (insW w t (Q k) (Q (k + 1)) v) lo (insQ Q k w.heap.size) (insL xs k v) := by
  have hl := len_ins xs k v hk
  have hA := h.apart
  have ok := (h.own k hk).2
  have ok1 := (h.own' (k + 1) (by omega)).2
  have hq : ∀ i, insQ Q k w.heap.size i = if i ≤ k then Q i else if i = k + 1 then w.heap.size else Q (i - 1) := fun i => rfl
  have hO : ∀ i, i ≤ xs.length + 1 → ¬ Q i = w.heap.size := fun i hi => by have := (h.own' i hi).2; omega
  have hsz : (insW w t (Q k) (Q (k + 1)) v).heap.size = w.heap.size + 1 := by unfold insW; simp
  refine ⟨?_, ?_, ?_, ?_, ?_, ?_, ?_⟩
  · rw [hl, hq, hq, if_neg (by omega), if_neg (by omega), if_pos (by omega)]
    exact h.back
  · intro i j hi hj e
    rw [hq, hq] at e
    rw [hl] at hi hj
    split at e
    · split at e
      · exact hA i j (by omega) (by omega) e
      · split at e
        · exact absurd e (hO i (by omega))
        · have := hA i (j - 1) (by omega) (by omega) e; omega
    · split at e
      · split at e
        · exact absurd e.symm (hO j (by omega))
        · split at e
          · omega
          · exact absurd e.symm (hO (j - 1) (by omega))
      · split at e
        · have := hA (i - 1) j (by omega) (by omega) e; omega
        · split at e
          · exact absurd e (hO (i - 1) (by omega))
          · have := hA (i - 1) (j - 1) (by omega) (by omega) e; omega
  · intro i hi
    rw [hl] at hi
    rw [hq, hsz]
    split
    · have := h.own i (by omega); omega
    · split
      · omega
      · have := h.own (i - 1) (by omega); omega
  · intro i hi
    rw [hl] at hi
    rw [hq, hq]
    by_cases e : i = k
    · subst e
      rw [if_pos (Nat.le_refl _), if_neg (by omega), if_pos rfl]
      unfold insW
      rw [World.cell?_setCell_other (h := addr_ne fun e => by omega), World.cell?_setCell_same (u := ptr (Q (i + 1)))]
      rw [World.cell?_alloc_lt (h := ok)]; exact h.nx i (by omega)
    · by_cases e2 : i < k
      · rw [if_pos (by omega), if_pos (by omega), insW_cell _ (h.own i (by omega)).2 (addr_ne fun e3 => by have := hA i k (by omega) (by omega) e3.1; omega) (addr_ne fun e3 => by omega)]
        exact h.nx i (by omega)
      · by_cases e4 : i = k + 1
        · subst e4
          rw [if_neg (by omega), if_pos rfl, if_neg (by omega), if_neg (by omega), insW_new ok ok1]
          rfl
        · rw [if_neg (by omega), if_neg e4, if_neg (by omega), if_neg (by omega), insW_cell _ (h.own (i - 1) (by omega)).2 (addr_ne fun e3 => by have := hA (i - 1) k (by omega) (by omega) e3.1; omega) (addr_ne fun e3 => by omega)]
          have := h.nx (i - 1) (by omega)
          rwa [show i - 1 + 1 = i + 1 - 1 from by omega] at this
  · intro i hi
    rw [hl] at hi
    rw [hq, hq]
    by_cases e : i = k
    · subst e
      rw [if_neg (by omega), if_pos rfl, if_pos (Nat.le_refl _), insW_new ok ok1]
      rfl
    · by_cases e2 : i < k
      · rw [if_pos (by omega), if_pos (by omega), insW_cell _ (h.own (i + 1) (by omega)).2 (addr_ne fun e3 => by omega) (addr_ne fun e3 => by
          by_cases e4 : k = xs.length
          · rw [e4, h.back] at e3; have := hA (i + 1) 0 (by omega) (by omega) e3.1; omega
          · have := hA (i + 1) (k + 1) (by omega) (by omega) e3.1; omega)]
        exact h.pv i (by omega)
      · by_cases e4 : i = k + 1
        · subst e4
          rw [if_neg (by omega), if_neg (by omega), if_neg (by omega), if_pos rfl]
          show (insW w t (Q k) (Q (k + 1)) v).cell? ⟨Q (k + 1), 1, none⟩ = _
          unfold insW
          rw [World.cell?_setCell_same (u := ptr (Q k))]
          rw [World.cell?_setCell_other (h := addr_ne fun e => by omega), World.cell?_alloc_lt (h := ok1)]
          exact h.pv k (by omega)
        · rw [if_neg (by omega), if_neg (by omega), if_neg (by omega), if_neg e4, insW_cell _ (h.own' (i + 1 - 1) (by omega)).2 (addr_ne fun e3 => by omega) (addr_ne fun e3 => by
            have e5 := e3.1
            by_cases e6 : i = xs.length + 1
            · rw [show i + 1 - 1 = xs.length + 1 from by omega, h.back] at e5; have := hA 0 (k + 1) (by omega) (by omega) e5; omega
            · have := hA (i + 1 - 1) (k + 1) (by omega) (by omega) e5; omega)]
          have := h.pv (i - 1) (by omega)
          rwa [show i - 1 + 1 = i + 1 - 1 from by omega] at this
  · intro i hi
    rw [hl] at hi
    rw [hq, getD_ins xs k v i hk]
    by_cases e2 : i < k
    · rw [if_pos (by omega), if_pos e2, insW_cell _ (h.own (i + 1) (by omega)).2 (addr_ne fun e3 => by omega) (addr_ne fun e3 => by omega)]
      exact h.lt i (by omega)
    · by_cases e4 : i = k
      · subst e4
        rw [if_neg (by omega), if_pos rfl, if_neg (by omega), if_pos rfl, insW_new ok ok1]
        rfl
      · rw [if_neg (by omega), if_neg (by omega), if_neg (by omega), if_neg e4, insW_cell _ (h.own' (i + 1 - 1) (by omega)).2 (addr_ne fun e3 => by omega) (addr_ne fun e3 => by omega)]
        have := h.lt (i - 1) (by omega)
        rwa [show i - 1 + 1 = i + 1 - 1 from by omega] at this
  · intro i hi
    rw [hl] at hi
    rw [hq]
    unfold insW
    split
    · exact (((h.bl i (by omega)).alloc _).setCell _ _).setCell _ _
    · split
      · exact ((Blk.new w _ _).setCell _ _).setCell _ _
      · exact (((h.bl (i - 1) (by omega)).alloc _).setCell _ _).setCell _ _

theorem Lst.setW {w : World} {lo W : Nat} {Q : Nat → Nat} {xs : List Int} (h : Lst w lo Q xs) (o : Nat) (u : Value) (hf : ∀ i, i ≤ xs.length → ¬ Q i = W) : Lst (w.setCell ⟨W, o, none⟩ u) lo Q xs := by
  have hf' : ∀ i, i ≤ xs.length + 1 → ¬ Q i = W := fun i hi => by
    by_cases e : i = xs.length + 1
    · subst e; rw [h.back]; exact hf 0 (Nat.zero_le _)
    · exact hf i (by omega)
  refine ⟨h.back, h.apart, fun i hi => by simpa using h.own i hi, fun i hi => ?_, fun i hi => ?_, fun i hi => ?_, fun i hi => ?_⟩
  · rw [World.cell?_setCell_other (h := addr_ne fun e => hf' i (by omega) e.1.symm)]; exact h.nx i hi
  · rw [World.cell?_setCell_other (h := addr_ne fun e => hf' (i + 1) (by omega) e.1.symm)]; exact h.pv i hi
  · rw [World.cell?_setCell_other (h := addr_ne fun e => hf' (i + 1) (by omega) e.1.symm)]; exact h.lt i hi
  · exact (h.bl i hi).setCell _ _
theorem Lst.drew {w : World} {lo : Nat} {Q : Nat → Nat} {xs : List Int} (h : Lst w lo Q xs) : Lst w.drew lo Q xs := ⟨h.back, h.apart, h.own, h.nx, h.pv, h.lt, h.bl⟩
theorem LW.drew {w : World} {lo W : Nat} {Q : Nat → Nat} {xs : List Int} (h : LW w lo W Q xs) : LW w.drew lo W Q xs := ⟨h.lst.drew, h.c0, h.c1, h.fzW, h.ownW, h.far⟩
/-- Block C belongs to no node among the first n + 1 and is not the word itself. -/
def Away (Q : Nat → Nat) (n W C : Nat) : Prop := ¬ C = W ∧ ∀ i, i ≤ n → ¬ Q i = C
theorem Away.at {w : World} {lo W C : Nat} {Q : Nat → Nat} {xs : List Int} (a : Away Q xs.length W C) (h : LW w lo W Q xs) (i : Nat) (hi : i ≤ xs.length + 1) : ¬ Q i = C := by
  by_cases e : i = xs.length + 1
  · subst e; rw [h.lst.back]; exact a.2 0 (Nat.zero_le _)
  · exact a.2 i (by omega)
theorem LW.ins {w : World} {lo W : Nat} {Q : Nat → Nat} {xs : List Int} (h : LW w lo W Q xs) (hlo : lo ≤ w.heap.size) (t : TypeId) (k : Nat) (hk : k ≤ xs.length) (v : Int) :
    LW ((insW w t (Q k) (Q (k + 1)) v).setCell ⟨W, 1, none⟩ (.int .i64 ((xs.length : Int) + 1))) lo W (insQ Q k w.heap.size) (insL xs k v) ∧ Below lo w ((insW w t (Q k) (Q (k + 1)) v).setCell ⟨W, 1, none⟩ (.int .i64 ((xs.length : Int) + 1))) ∧ ∀ C, C < w.heap.size → Away Q xs.length W C → ((insW w t (Q k) (Q (k + 1)) v).setCell ⟨W, 1, none⟩ (.int .i64 ((xs.length : Int) + 1))).heap[C]? = w.heap[C]? ∧ Away (insQ Q k w.heap.size) (insL xs k v).length W C := by
  have hl := len_ins xs k v hk
  have hW := h.ownW.2
  have far1 : ∀ i, i ≤ (insL xs k v).length → ¬ insQ Q k w.heap.size i = W := fun i hi e => by
    unfold insQ at e
    split at e
    · exact h.far i (by omega) e
    · split at e
      · omega
      · exact h.far (i - 1) (by omega) e
  have hsz : (insW w t (Q k) (Q (k + 1)) v).heap.size = w.heap.size + 1 := by unfold insW; simp
  have hq0 : insQ Q k w.heap.size 0 = Q 0 := by unfold insQ; rw [if_pos (Nat.zero_le _)]
  refine ⟨⟨(h.lst.ins hlo t k hk v).setW _ _ far1, ?_, ?_, fun o => ?_, ?_, far1⟩, ?_, fun C hC hA => ⟨?_, hA.1, fun i hi => ?_⟩⟩
  · rw [World.cell?_setCell_other (h := addr_ne fun e => by omega), insW_cell _ hW (addr_ne fun e => by omega) (addr_ne fun e => by omega), hq0]
    exact h.c0
  · rw [World.cell?_setCell_same (u := .int .i64 xs.length), hl]
    · simp
    · rw [insW_cell _ hW (addr_ne fun e => by omega) (addr_ne fun e => h.far' (k + 1) (by omega) e.1.symm)]; exact h.c1
  · unfold insW; rw [World.frozen?_setCell, World.frozen?_setCell, World.frozen?_setCell, World.frozen?_alloc_old (h := by show ¬ W = _; omega)]; exact h.fzW o
  · have : W < ((insW w t (Q k) (Q (k + 1)) v).setCell ⟨W, 1, none⟩ (.int .i64 ((xs.length : Int) + 1))).heap.size := by
      rw [show ((insW w t (Q k) (Q (k + 1)) v).setCell ⟨W, 1, none⟩ (.int .i64 ((xs.length : Int) + 1))).heap.size = (insW w t (Q k) (Q (k + 1)) v).heap.size from by simp, hsz]; omega
    exact ⟨h.ownW.1, this⟩
  · unfold insW
    exact (((((Below.refl lo w).alloc hlo _).setCell (h.lst.own' k (by omega)).1 _).setCell (h.lst.own' (k + 1) (by omega)).1 _).setCell h.ownW.1 _)
  · unfold insW
    rw [Below.heap_setCell _ _ _ _ hA.1, Below.heap_setCell _ _ _ _ (fun e => hA.at h (k + 1) (by omega) e.symm), Below.heap_setCell _ _ _ _ (fun e => hA.at h k (by omega) e.symm), Below.heap_alloc _ _ _ hC]
  · unfold insQ
    split
    · exact hA.2 i (by omega)
    · split
      · omega
      · exact hA.2 (i - 1) (by omega)
theorem LW.rem {w : World} {lo W : Nat} {Q : Nat → Nat} {xs : List Int} (h : LW w lo W Q xs) (k : Nat) (hk : k < xs.length) :
    LW ((remW w (Q k) (Q (k + 2))).setCell ⟨W, 1, none⟩ (.int .i64 ((xs.length : Int) - 1))) lo W (remQ Q k) (xs.eraseIdx k) ∧ Below lo w ((remW w (Q k) (Q (k + 2))).setCell ⟨W, 1, none⟩ (.int .i64 ((xs.length : Int) - 1))) ∧ ∀ C, C < w.heap.size → Away Q xs.length W C → ((remW w (Q k) (Q (k + 2))).setCell ⟨W, 1, none⟩ (.int .i64 ((xs.length : Int) - 1))).heap[C]? = w.heap[C]? ∧ Away (remQ Q k) (xs.eraseIdx k).length W C := by
  have hl := len_erase xs k hk
  have hW := h.ownW.2
  have far1 : ∀ i, i ≤ (xs.eraseIdx k).length → ¬ remQ Q k i = W := fun i hi e => by
    unfold remQ at e
    split at e
    · exact h.far i (by omega) e
    · exact h.far (i + 1) (by omega) e
  have hq0 : remQ Q k 0 = Q 0 := by unfold remQ; rw [if_pos (Nat.zero_le _)]
  refine ⟨⟨(h.lst.rem k hk).setW _ _ far1, ?_, ?_, fun o => ?_, ?_, far1⟩, ?_, fun C hC hA => ⟨?_, hA.1, fun i hi => ?_⟩⟩
  · rw [World.cell?_setCell_other (h := addr_ne fun e => by omega), remW_cell _ (addr_ne fun e => by omega) (addr_ne fun e => by omega), hq0]
    exact h.c0
  · rw [World.cell?_setCell_same (u := .int .i64 xs.length)]
    · rw [show ((xs.eraseIdx k).length : Int) = (xs.length : Int) - 1 from by omega]
    · rw [remW_cell _ (addr_ne fun e => by omega) (addr_ne fun e => h.far' (k + 2) (by omega) e.1.symm)]; exact h.c1
  · unfold remW; rw [World.frozen?_setCell, World.frozen?_setCell, World.frozen?_setCell]; exact h.fzW o
  · have : W < ((remW w (Q k) (Q (k + 2))).setCell ⟨W, 1, none⟩ (.int .i64 ((xs.length : Int) - 1))).heap.size := by
      unfold remW; simpa using hW
    exact ⟨h.ownW.1, this⟩
  · unfold remW
    exact ((((Below.refl lo w).setCell (h.lst.own' k (by omega)).1 _).setCell (h.lst.own' (k + 2) (by omega)).1 _).setCell h.ownW.1 _)
  · unfold remW
    rw [Below.heap_setCell _ _ _ _ hA.1, Below.heap_setCell _ _ _ _ (fun e => hA.at h (k + 2) (by omega) e.symm), Below.heap_setCell _ _ _ _ (fun e => hA.at h k (by omega) e.symm)]
  · unfold remQ
    split
    · exact hA.2 i (by omega)
    · exact hA.2 (i + 1) (by omega)
end Go.Proofs.Ytedajefapddekaa.hl
