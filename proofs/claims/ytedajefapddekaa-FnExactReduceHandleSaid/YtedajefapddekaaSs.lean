/-
  Slices of slices of int64: what a call reads (Rows), what it owns (ROwn); contracts of the laws' helpers toInt64SS, eqInt64SS, szInt64SS, markInt64SS, heldInt64SS.
-/
import Derived.Test.YtedajefapddekaaBr
import Derived.Deep.Matrix
namespace Go.Proofs.Ytedajefapddekaa.ss
open Go.RowKit Go.Proofs.Ytedajefapddekaa.sl Go.Proofs.Ytedajefapddekaa.br
set_option linter.unusedVariables false

theorem same_at {w : World} {p : Addr} {u v : Value} (h : w.cell? p = some u) : (w.setCell p v).cell? p = some v := World.cell?_setCell_same _ _ _ h
theorem other_at {w : World} {g i j : Nat} {v : Value} (h : ¬ j = i) : (w.setCell ⟨g, i, none⟩ v).cell? ⟨g, j, none⟩ = w.cell? ⟨g, j, none⟩ := World.cell?_setCell_other _ _ _ _ (fun e => h (by injection e with _ e2 _; exact e2.symm))
/-- The value reads as a list of lists; their blocks lie below B. -/
def Rows (w : World) (B : Nat) (v : Value) (rows : List (List Int)) : Prop :=
  (rows = [] ∧ ∃ ao cap, v = .slice ao 0 cap) ∨
  (0 < rows.length ∧ ∃ (b off cap : Nat) (V : Nat → Value), v = .slice (some ⟨b, off, none⟩) rows.length cap ∧ b < B ∧ ∀ j, j < rows.length → w.cell? ⟨b, off + j, none⟩ = some (V j) ∧ Ints w B (V j) (rows.getD j []))

theorem rows_val {w : World} {B : Nat} {v : Value} {rows : List (List Int)} (h : Rows w B v rows) : ∃ ao cap, v = .slice ao rows.length cap := by
  rcases h with ⟨rfl, ao, cap, rfl⟩ | ⟨hp, b, off, cap, V, rfl, hb', hc⟩ <;> exact ⟨_, _, rfl⟩

theorem Rows.chg {w w' : World} {B lo hi : Nat} {v : Value} {rows : List (List Int)} (h : Rows w B v rows) (c : Chg lo hi w w') (h1 : B ≤ lo ∨ hi ≤ lo) : Rows w' B v rows := by
  rcases h with h | ⟨hp, b, off, cap, V, hv, hb, hc⟩
  · exact .inl h
  · refine .inr ⟨hp, b, off, cap, V, hv, hb, fun j hj => ⟨?_, (hc j hj).2.chg c h1⟩⟩
    have hlt := World.block_lt_of_cell? w _ (hc j hj).1
    rw [World.cell?_of_block (w := w) (w' := w') (a := ⟨b, off + j, none⟩) (c.block b hlt (by omega))]
    exact (hc j hj).1
theorem Rows.below {w w' : World} {B : Nat} {v : Value} {rows : List (List Int)} (h : Rows w B v rows) (b : Below w.heap.size w w') : Rows w' B v rows :=
  h.chg (Chg.ofBelow (lo := 0) b) (.inr (Nat.zero_le _))
theorem Rows.al {w : World} {B : Nat} {v : Value} {rows : List (List Int)} (h : Rows w B v rows) (o : Obj) : Rows (w.alloc o) B v rows :=
  h.chg (lo := 0) (hi := 0) ⟨rfl, rfl, rfl, by simp, fun k hk _ => Below.heap_alloc w o k hk⟩ (.inr (Nat.zero_le _))
theorem Rows.mono {w : World} {B B' : Nat} {v : Value} {rows : List (List Int)} (h : Rows w B v rows) (hB : B ≤ B') : Rows w B' v rows := by
  rcases h with h | ⟨hp, b, off, cap, V, hv, hb, hc⟩
  · exact .inl h
  · exact .inr ⟨hp, b, off, cap, V, hv, by omega, fun j hj => ⟨(hc j hj).1, (hc j hj).2.mono hB⟩⟩

/-- The value is a slice of slices of the call's own: no two of them share a block. -/
def ROwn (w : World) (lo hi : Nat) (v : Value) (rows : List (List Int)) : Prop :=
  hi ≤ w.heap.size ∧
  ((rows = [] ∧ ∃ ao cap, v = .slice ao 0 cap) ∨
   (0 < rows.length ∧ ∃ (g off cap : Nat) (V : Nat → Value) (Lo Hi : Nat → Nat), v = .slice (some ⟨g, off, none⟩) rows.length cap ∧ lo ≤ g ∧ g < hi ∧
     ∀ j, j < rows.length → w.cell? ⟨g, off + j, none⟩ = some (V j) ∧ Own w (Lo j) (Hi j) (V j) (rows.getD j []) ∧ lo ≤ Lo j ∧ Hi j ≤ hi ∧ (g < Lo j ∨ Hi j ≤ g) ∧ ∀ i, i < j → Hi i ≤ Lo j ∨ Hi j ≤ Lo i))

theorem rown_val {w : World} {lo hi : Nat} {v : Value} {rows : List (List Int)} (h : ROwn w lo hi v rows) : ∃ ao cap, v = .slice ao rows.length cap := by
  rcases h.2 with ⟨rfl, ao, cap, rfl⟩ | ⟨hp, b, off, cap, V, L, H, rfl, hb', hc⟩ <;> exact ⟨_, _, rfl⟩
theorem ROwn.rows {w : World} {lo hi : Nat} {v : Value} {rows : List (List Int)} (h : ROwn w lo hi v rows) : Rows w hi v rows := by
  rcases h.2 with h | ⟨hp, g, off, cap, V, L, H, hv, h1, h2, h3⟩
  · exact .inl h
  · exact .inr ⟨hp, g, off, cap, V, hv, h2, fun j hj => ⟨(h3 j hj).1, (h3 j hj).2.1.ints.mono (h3 j hj).2.2.2.1⟩⟩
theorem ROwn.chg {w w' : World} {lo hi l h : Nat} {v : Value} {rows : List (List Int)} (o : ROwn w lo hi v rows) (c : Chg l h w w') (h1 : hi ≤ l ∨ h ≤ lo ∨ h ≤ l) : ROwn w' lo hi v rows := by
  obtain ⟨hh, hr⟩ := o
  refine ⟨Nat.le_trans hh c.size, ?_⟩
  rcases hr with hr | ⟨hp, g, off, cap, V, L, H, hv, e1, e2, e3⟩
  · exact .inl hr
  · refine .inr ⟨hp, g, off, cap, V, L, H, hv, e1, e2, fun j hj => ?_⟩
    obtain ⟨a1, a2, a3, a4, a5⟩ := e3 j hj
    refine ⟨?_, a2.chg c (by omega), a3, a4, a5⟩
    rw [World.cell?_of_block (w := w) (w' := w') (a := ⟨g, off + j, none⟩) (c.block g (by omega) (by omega))]
    exact a1
theorem ROwn.lo {w : World} {lo lo' hi : Nat} {v : Value} {rows : List (List Int)} (o : ROwn w lo hi v rows) (h : lo' ≤ lo) : ROwn w lo' hi v rows := by
  obtain ⟨hh, hr⟩ := o
  refine ⟨hh, ?_⟩
  rcases hr with hr | ⟨hp, g, off, cap, V, L, H, hv, e1, e2, e3⟩
  · exact .inl hr
  · exact .inr ⟨hp, g, off, cap, V, L, H, hv, by omega, e2, fun j hj => ⟨(e3 j hj).1, (e3 j hj).2.1, by have := (e3 j hj).2.2.1; omega, (e3 j hj).2.2.2⟩⟩
theorem ROwn.hi {w : World} {lo hi hi' : Nat} {v : Value} {rows : List (List Int)} (o : ROwn w lo hi v rows) (h : hi ≤ hi') (h2 : hi' ≤ w.heap.size) : ROwn w lo hi' v rows := by
  obtain ⟨hh, hr⟩ := o
  refine ⟨h2, ?_⟩
  rcases hr with hr | ⟨hp, g, off, cap, V, L, H, hv, e1, e2, e3⟩
  · exact .inl hr
  · exact .inr ⟨hp, g, off, cap, V, L, H, hv, e1, by omega, fun j hj => ⟨(e3 j hj).1, (e3 j hj).2.1, (e3 j hj).2.2.1, by have := (e3 j hj).2.2.2.1; omega, (e3 j hj).2.2.2.2⟩⟩
theorem ROwn.drewN {w : World} {lo hi : Nat} {v : Value} {rows : List (List Int)} (o : ROwn w lo hi v rows) (n : Nat) : ROwn (w.drewN n) lo hi v rows := o
theorem ROwn.nil (w : World) (lo : Nat) : ROwn w lo w.heap.size (.slice none 0 0) [] := ⟨Nat.le_refl _, .inl ⟨rfl, _, _, rfl⟩⟩

/-! ### toInt64SS -/
theorem infoS : (Try.prog.info? 30).map (fun i => (i.zero, i.size, i.bytes)) = some (some (.slice none 0 0), 1, 24) := by kernel_rfl

/-- So many rows are copied. -/
structure Prt (lo g n k : Nat) (rows : List (List Int)) (wr : World) (V : Nat → Value) (Lo Hi : Nat → Nat) : Prop where
  glo : lo ≤ g
  gsz : g < wr.heap.size
  fr : ∀ j, j < n → wr.frozen? ⟨g, j, none⟩ = false ∧ ∃ u, wr.cell? ⟨g, j, none⟩ = some u
  row : ∀ j, j < k → wr.cell? ⟨g, 0 + j, none⟩ = some (V j) ∧ Own wr (Lo j) (Hi j) (V j) (rows.getD j []) ∧ g < Lo j ∧ Hi j ≤ wr.heap.size ∧ ∀ i, i < j → Hi i ≤ Lo j

theorem Prt.step {lo g n k : Nat} {rows : List (List Int)} {wr w1 : World} {V : Nat → Value} {Lo Hi : Nat → Nat} (p : Prt lo g n k rows wr V Lo Hi) (hk : k < n) (b : Below wr.heap.size wr w1) (v' : Value)
    (o : Own w1 wr.heap.size w1.heap.size v' (rows.getD k [])) :
    Prt lo g n (k + 1) rows (w1.setCell ⟨g, k, none⟩ v') (fun j => if j = k then v' else V j) (fun j => if j = k then wr.heap.size else Lo j) (fun j => if j = k then w1.heap.size else Hi j) := by
  have hg := p.gsz
  have hsz := b.size
  have hcell : ∃ u, w1.cell? ⟨g, k, none⟩ = some u := by
    obtain ⟨u, hu⟩ := (p.fr k hk).2
    exact ⟨u, (b.cell (p := ⟨g, k, none⟩) hg).trans hu⟩
  refine ⟨p.glo, by simpa using Nat.lt_of_lt_of_le hg hsz, fun j hj => ⟨?_, ?_⟩, fun j hj => ?_⟩
  · rw [World.frozen?_setCell]
    exact (b.frozen (p := ⟨g, j, none⟩) hg).trans (p.fr j hj).1
  · obtain ⟨u, hu⟩ := (p.fr j hj).2
    have h1 := (b.cell (p := ⟨g, j, none⟩) hg).trans hu
    by_cases e : j = k
    · subst e
      exact ⟨v', same_at h1⟩
    · exact ⟨u, by rw [other_at e]; exact h1⟩
  · by_cases e : j = k
    · subst e
      simp only [if_true, Nat.zero_add]
      obtain ⟨u, hu⟩ := hcell
      refine ⟨same_at hu, own_other o g j v' (.inl hg), hg, by simp, fun i hi => ?_⟩
      rw [if_neg (by omega)]
      exact (p.row i hi).2.2.2.1
    · have hjk : j < k := by omega
      obtain ⟨a1, a2, a3, a4, a5⟩ := p.row j hjk
      simp only [if_neg e]
      refine ⟨?_, own_other (a2.chg (Chg.ofBelow (lo := 0) b) (.inr (.inr (Nat.zero_le _)))) g k v' (.inl a3), a3, ?_, fun i hi => ?_⟩
      · rw [Nat.zero_add] at a1 ⊢
        rw [other_at e]
        exact (b.cell (p := ⟨g, j, none⟩) hg).trans a1
      · simp; omega
      · rw [if_neg (by omega)]; exact a5 i hi

theorem Prt.done {lo g n : Nat} {rows : List (List Int)} {wr : World} {V : Nat → Value} {Lo Hi : Nat → Nat} (p : Prt lo g n n rows wr V Lo Hi) (hn : n = rows.length) (hp : 0 < n) (cap : Nat) : ROwn wr lo wr.heap.size (.slice (some ⟨g, 0, none⟩) n cap) rows := by
  subst hn
  refine ⟨Nat.le_refl _, .inr ⟨hp, g, 0, cap, V, Lo, Hi, rfl, p.glo, p.gsz, fun j hj => ?_⟩⟩
  obtain ⟨a1, a2, a3, a4, a5⟩ := p.row j hj
  exact ⟨a1, a2, by have := p.glo; omega, a4, .inl a3, fun i hi => .inl (a5 i hi)⟩

/-- Every row is short enough. -/
def Short (rows : List (List Int)) (m : Nat) : Prop := ∀ j, j < rows.length → (rows.getD j []).length ≤ m
def PrtE (lo g n k : Nat) (rows : List (List Int)) (wr : World) : Prop := ∃ V Lo Hi, Prt lo g n k rows wr V Lo Hi

theorem zerosS (n : Nat) : (madeCells (Value.slice none 0 0).cells (n * 1)).toList = List.replicate n (Value.slice none 0 0) := by
  apply List.ext_getElem?
  intro i
  by_cases hi : i < n
  · simp [madeCells, Value.cells, hi, Nat.mod_one]
  · simp [madeCells, Value.cells, hi]

/-! ### eqInt64SS -/
theorem drewN_add (w : World) (a b : Nat) : (w.drewN a).drewN b = w.drewN (a + b) := by simp [World.drewN, Nat.add_assoc]

set_option maxHeartbeats 800000 in
theorem eqIQ (xs ys : List Int) (v u : Value) (B C : Nat) (w : World) (ha : Ints w B v xs) (hb : Ints w C u ys) (hn : xs.length ≤ 1099511627776) (hm : ys.length ≤ 1099511627776) :
    Calls Try.prog 24 #[v, u] w fun e w' => e = .returned (.bool (sameB xs ys)) ∧ ∃ q, w' = w.drewN q := by
  by_cases hl : xs.length = ys.length
  · rcases ha with ⟨rfl, ao, cap, rfl⟩ | ⟨hp, b, off, cap, rfl, hb', hc⟩
    · rcases hb with ⟨rfl, ao', cap', rfl⟩ | ⟨hp', _⟩
      · go_enter Try.func24, Try.ntmps24
        go_wp2
        refine wp_loop_rounds 1 ?_
        rw [rounds_succ]
        go_wp2
        go_ret
        exact ⟨rfl, 0, rfl⟩
      · simp at hl; omega
    · rcases hb with ⟨rfl, ao', cap', rfl⟩ | ⟨hp', b', off', cap', rfl, hb'', hc'⟩
      · simp at hl; subst hl; simp at hp
      · rw [← hl] at hc' ⊢
        obtain ⟨n, hnn⟩ : ∃ n, n = xs.length := ⟨_, rfl⟩
        rw [← hnn] at hp hc hc' hn ⊢
        have HN := hid hnn
        have HL := hid hl
        have HC := hid hc
        have HC' := hid hc'
        clear hnn hl hp' hm hc hc'
        go_enter Try.func24, Try.ntmps24
        go_wp2
        go_loopw [5] (fun i wr => ∃ k : Nat, k ≤ n ∧ i = .int .i64 k ∧ (∀ j, j < k → xs.getD j 0 = ys.getD j 0) ∧ ∃ q, wr = w.drewN q)
          (fun i _ => n - (intOf i).toNat)
        case atStart => exact ⟨0, Nat.zero_le _, rfl, fun j hj => by omega, 0, rfl⟩
        case round =>
          obtain ⟨k, hk, rfl, heq, q, hwr⟩ := hrel
          have HE := hid heq
          have HW := hid hwr
          clear heq hwr
          by_cases hlt : k < n
          · have h1 : wr.cell? ⟨b, off + k, none⟩ = some (.int .i64 (xs.getD k 0)) := by rw [HW.out]; exact HC.out k hlt
            have h2 : wr.cell? ⟨b', off' + k, none⟩ = some (.int .i64 (ys.getD k 0)) := by rw [HW.out]; exact HC'.out k hlt
            obtain ⟨x, hx⟩ : ∃ x, x = xs.getD k 0 := ⟨_, rfl⟩
            obtain ⟨y, hy⟩ : ∃ y, y = ys.getD k 0 := ⟨_, rfl⟩
            rw [← hx] at h1
            rw [← hy] at h2
            have HX := hid hx
            have HY := hid hy
            clear hx hy
            by_cases he : x = y
            · subst he
              go_wp2
              go_quiet (fail)
              go_wp2
              go_roundw
              case rel => exact ⟨k + 1, by omega, by go_num, fun j hj => by
                rcases Nat.lt_or_ge j k with h | h
                · exact HE.out j h
                · obtain rfl : j = k := by omega
                  rw [← HX.out, ← HY.out], _, by rw [HW.out]; exact drewN_add _ _ _⟩
              case measure => simp [intOf]; omega
            · have hb1 : (x == y) = false := by simpa using he
              have hb2 : (x != y) = true := by simpa using he
              have HF : Hid (sameB xs ys = false) := by
                refine hid ?_
                simp only [sameB, decide_eq_false_iff_not]
                rintro rfl
                exact he (HX.out.trans HY.out.symm)
              clear he
              go_wp2
              go_quiet (fail)
              go_wp2
              go_ret
              exact ⟨by rw [HF.out]; rfl, _, by rw [HW.out]; exact drewN_add _ _ _⟩
          · obtain rfl : k = n := by omega
            go_wp2
            go_ret
            have : xs = ys := list_eq_of HL.out (fun j hj => HE.out j (by rw [HN.out]; exact hj))
            exact ⟨by rw [this, sameB_self]; rfl, q, HW.out⟩
  · have hd : (((xs.length : Nat) : Int) == ((ys.length : Nat) : Int)) = false := by simp; omega
    have hd' : (((xs.length : Nat) : Int) != ((ys.length : Nat) : Int)) = true := by simp; omega
    have HF : Hid (sameB xs ys = false) := by
      refine hid ?_
      simp only [sameB, decide_eq_false_iff_not]
      rintro rfl
      exact hl rfl
    obtain ⟨ao, cap, rfl⟩ := ints_val ha
    obtain ⟨ao', cap', rfl⟩ := ints_val hb
    clear ha hb hl
    generalize xs.length = n at *
    generalize ys.length = m at *
    go_enter Try.func24, Try.ntmps24
    go_wp2
    go_ret
    exact ⟨by rw [HF.out]; rfl, 0, rfl⟩

theorem eqIQ' (xs ys : List Int) (r : Bool) (hr : sameB xs ys = r) (v u : Value) (B C : Nat) (w : World) (ha : Ints w B v xs) (hb : Ints w C u ys) (hn : xs.length ≤ 1099511627776) (hm : ys.length ≤ 1099511627776) (q : Nat) :
    Calls Try.prog 24 #[v, u] (w.drewN q) fun e w' => e = .returned (.bool r) ∧ ∃ m, w' = w.drewN m :=
  (eqIQ xs ys v u B C (w.drewN q) ha hb hn hm).mono fun _ _ h => ⟨by rw [h.1, hr], by obtain ⟨m, hm⟩ := h.2; exact ⟨q + m, by rw [hm, drewN_add]⟩⟩

def sameR (a b : List (List Int)) : Bool := decide (a = b)
theorem sameR_self (a : List (List Int)) : sameR a a = true := by simp [sameR]
theorem rows_eq_of {a b : List (List Int)} (hl : a.length = b.length) (h : ∀ j, j < a.length → a.getD j [] = b.getD j []) : a = b := by
  apply List.ext_getElem hl
  intro i h1 h2
  have := h i h1
  simpa [List.getD, List.getElem?_eq_getElem h1, List.getElem?_eq_getElem h2] using this

end Go.Proofs.Ytedajefapddekaa.ss
