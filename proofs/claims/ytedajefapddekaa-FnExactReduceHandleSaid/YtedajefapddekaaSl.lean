/-
  Slices of int64 in memory: what a call reads (Ints), what it owns (Own), what a stretch of the run may have changed (Chg); contracts of the laws' helpers toInt64S, eqInt64S, markInt64S, heldInt64S.
-/
import Derived.Test.YtedajefapddekaaRows
import Derived.WalkKit
import Derived.Deep.QuietTactic
import Derived.BigQuiet
namespace Go.Proofs.Ytedajefapddekaa.sl
open Go.RowKit

theorem hid {p : Prop} (h : p) : Hid p := h
theorem bdrewN {B : Nat} {a w : World} (h : Below B a w) (n : Nat) : Below B a (w.drewN n) := h.trans ⟨rfl, rfl, rfl, Nat.le_refl _, fun _ _ => rfl⟩
theorem info64 : (Try.prog.info? 2).map (fun i => (i.zero, i.size, i.bytes)) = some (some (.int .i64 0), 1, 8) := by kernel_rfl

/-- The value reads as the list; its block, if it has cells, lies below B. -/
def Ints (w : World) (B : Nat) (v : Value) (xs : List Int) : Prop :=
  (xs = [] ∧ ∃ ao cap, v = .slice ao 0 cap) ∨
  (0 < xs.length ∧ ∃ b off cap, v = .slice (some ⟨b, off, none⟩) xs.length cap ∧ b < B ∧ ∀ j, j < xs.length → w.cell? ⟨b, off + j, none⟩ = some (.int .i64 (xs.getD j 0)))

/-- The value is a slice of the call's own, in a block from lo on and below hi. -/
def Own (w : World) (lo hi : Nat) (v : Value) (xs : List Int) : Prop :=
  w.ownsRow lo 2 1 v xs.length (xs.map (Value.int .i64)) ∧ (∀ g, v.ownBlock = some g → g < hi) ∧ hi ≤ w.heap.size

/-- Only blocks from lo on and below hi have changed, and blocks have come. -/
structure Chg (lo hi : Nat) (w w' : World) : Prop where
  os : w'.os = w.os
  tape : w'.tape = w.tape
  output : w'.output = w.output
  size : w.heap.size ≤ w'.heap.size
  block : ∀ k, k < w.heap.size → ¬ (lo ≤ k ∧ k < hi) → w'.heap[k]? = w.heap[k]?

theorem Chg.ofBelow {w w' : World} {lo : Nat} (h : Below w.heap.size w w') : Chg lo lo w w' := ⟨h.os, h.tape, h.output, h.size, fun k hk _ => h.block k hk⟩
theorem Chg.below {w w' : World} {lo hi B : Nat} (h : Chg lo hi w w') (h1 : B ≤ lo) (h2 : B ≤ w.heap.size) : Below B w w' := ⟨h.os, h.tape, h.output, h.size, fun k hk => h.block k (by omega) (by omega)⟩

theorem Ints.chg {w w' : World} {B lo hi : Nat} {v : Value} {xs : List Int} (h : Ints w B v xs) (c : Chg lo hi w w') (h1 : B ≤ lo ∨ hi ≤ lo) : Ints w' B v xs := by
  rcases h with h | ⟨hp, b, off, cap, hv, hb, hc⟩
  · exact .inl h
  · refine .inr ⟨hp, b, off, cap, hv, hb, fun j hj => ?_⟩
    have hlt := World.block_lt_of_cell? w _ (hc j hj)
    rw [World.cell?_of_block (w := w) (w' := w') (a := ⟨b, off + j, none⟩) (c.block b hlt (by omega))]
    exact hc j hj

theorem Own.chg {w w' : World} {lo hi l h : Nat} {v : Value} {xs : List Int} (o : Own w lo hi v xs) (c : Chg l h w w') (h1 : hi ≤ l ∨ h ≤ lo ∨ h ≤ l) : Own w' lo hi v xs := by
  obtain ⟨hown, hlt, hhi⟩ := o
  refine ⟨⟨hown.1, ?_⟩, hlt, Nat.le_trans hhi c.size⟩
  rcases hown.2 with hn | ⟨g, cap, cur, rfl, hb, hg, rest⟩
  · exact .inl hn
  · have hgh := hlt g rfl
    refine .inr ⟨g, cap, cur, rfl, hb, ?_, rest⟩
    rw [c.block g (by omega) (by omega)]
    exact hg

theorem Own.ints {w : World} {lo hi : Nat} {v : Value} {xs : List Int} (o : Own w lo hi v xs) : Ints w hi v xs := by
  obtain ⟨hown, hlt, hhi⟩ := o
  have hown0 := hown
  rcases hown.2 with ⟨hv, hn⟩ | ⟨g, cap, cur, hv, hb, hg, hc, _⟩
  · exact .inl ⟨List.length_eq_zero_iff.1 hn, none, 0, hv⟩
  · subst hv
    by_cases hx : xs = []
    · subst hx; exact .inl ⟨rfl, _, _, rfl⟩
    · have hp : 0 < xs.length := List.length_pos_iff.2 hx
      refine .inr ⟨hp, g, 0, cap, rfl, hlt g rfl, fun j hj => ?_⟩
      rw [Nat.zero_add, hown0.cellAt j (by omega)]
      simp [List.getD, List.getElem?_eq_getElem hj]

theorem Own.mk' {w : World} {lo : Nat} {v : Value} {xs : List Int} (h : w.ownsRow lo 2 1 v xs.length (xs.map (Value.int .i64))) : Own w lo w.heap.size v xs :=
  ⟨h, fun g hg => (h.lt g hg).2, Nat.le_refl _⟩

theorem Own.lo {w : World} {lo lo' hi : Nat} {v : Value} {xs : List Int} (o : Own w lo hi v xs) (h : lo' ≤ lo) : Own w lo' hi v xs := by
  obtain ⟨hown, hlt, hhi⟩ := o
  refine ⟨⟨hown.1, ?_⟩, hlt, hhi⟩
  rcases hown.2 with hn | ⟨g, cap, cur, hv, hb, r⟩
  · exact .inl hn
  · exact .inr ⟨g, cap, cur, hv, Nat.le_trans h hb, r⟩

theorem Ints.mono {w : World} {B B' : Nat} {v : Value} {xs : List Int} (h : Ints w B v xs) (hB : B ≤ B') : Ints w B' v xs := by
  rcases h with h | ⟨hp, b, off, cap, hv, hb, hc⟩
  · exact .inl h
  · exact .inr ⟨hp, b, off, cap, hv, by omega, hc⟩

/-! ### toInt64S -/

/-- k elements are copied, the rest is zero. -/
def part (xs : List Int) (k : Nat) : List Int := xs.take k ++ List.replicate (xs.length - k) 0
theorem part_zero (xs : List Int) : part xs 0 = List.replicate xs.length 0 := by simp [part]
theorem part_all (xs : List Int) : part xs xs.length = xs := by simp [part]
theorem part_len (xs : List Int) (k : Nat) (h : k ≤ xs.length) : (part xs k).length = xs.length := by simp [part]; omega
theorem part_set (xs : List Int) (k : Nat) (h : k < xs.length) : (part xs k).set k (xs.getD k 0) = part xs (k + 1) := by
  unfold part
  rw [List.set_append_right _ _ (by simp; omega)]
  have e1 : k - (xs.take k).length = 0 := by simp; omega
  have e2 : xs.length - k = (xs.length - (k + 1)) + 1 := by omega
  rw [e1, e2, List.replicate_succ, List.set_cons_zero, List.take_succ_eq_append_getElem h, List.append_assoc]
  simp [List.getD, List.getElem?_eq_getElem h]

theorem zeros_list (n : Nat) : (madeCells (Value.int .i64 0).cells (n * 1)).toList = (List.replicate n (0 : Int)).map (Value.int .i64) := by
  apply List.ext_getElem?
  intro i
  by_cases hi : i < n
  · simp [madeCells, Value.cells, hi, Nat.mod_one]
  · simp [madeCells, Value.cells, hi]

/-- toInt64S copies the list into a block of its own. -/
theorem toI (xs : List Int) (v : Value) (B : Nat) (w : World) (ha : Ints w B v xs) (hB : B ≤ w.heap.size) (hn : xs.length ≤ 1099511627776) :
    Calls Try.prog 30 #[v] w fun e w' => ∃ v', e = .returned v' ∧ Own w' w.heap.size w'.heap.size v' xs ∧ Below w.heap.size w w' := by
  obtain ⟨i0, hi, hz0, hz1, hz2⟩ := info_parts info64
  rcases ha with ⟨rfl, ao, cap, rfl⟩ | ⟨hp, b, off, cap, rfl, hb, hc⟩
  · go_enter Try.func30, Try.ntmps30
    go_wp2_with (at_make; refine wpList_make_full _ rfl (.tmp 6) (.tmp 6) 30 rfl w.heap.size 2 i0 (.int .i64 0) 1 Try.underlying30 hi hz0 hz1 .i64 .i64 _ _ 0 rfl rfl (by rfl) (by rfl) (by omega) (by unfold maxLen; omega) (Nat.le_refl _) ?_; intro w1 hown1 hgrow1)
    refine wp_loop_rounds 1 ?_
    rw [rounds_succ]
    go_wp2
    go_ret
    exact ⟨_, rfl, Own.mk' (by simpa [madeCells] using hown1), (Below.refl _ _).grown hgrow1 (Nat.le_refl _) (fun k hk => by cases hk)⟩
  · obtain ⟨n, hnn⟩ : ∃ n, n = xs.length := ⟨_, rfl⟩
    rw [← hnn] at hp hc hn ⊢
    have HN := hid hnn
    clear hnn
    go_enter Try.func30, Try.ntmps30
    go_wp2_with (at_make; refine wpList_make_full _ rfl (.tmp 6) (.tmp 6) 30 rfl w.heap.size 2 i0 (.int .i64 0) 1 Try.underlying30 hi hz0 hz1 .i64 .i64 _ _ n rfl rfl (by omega) (by omega) (by rw [hz2]; omega) (by unfold maxLen; omega) (Nat.le_refl _) ?_; intro w1 hown1 hgrow1)
    rw [zeros_list] at hown1
    have hg := hgrow1.size
    go_loopw [4] (fun i wr => ∃ k : Nat, k ≤ n ∧ i = .int .i64 k ∧ wr.ownsRow w.heap.size 2 1 (.slice (some ⟨w.heap.size, 0, none⟩) n n) n ((part xs k).map (Value.int .i64)) ∧ Below w.heap.size w wr ∧ w.heap.size < wr.heap.size)
      (fun i _ => n - (intOf i).toNat)
    case atStart => exact ⟨0, Nat.zero_le _, rfl, by rw [part_zero, ← HN.out]; exact hown1, (Below.refl _ _).grown hgrow1 (Nat.le_refl _) (fun k hk => by cases hk), (hown1.lt _ rfl).2⟩
    case round =>
      obtain ⟨k, hk, rfl, hown, hbel, hsz⟩ := hrel
      by_cases hlt : k < n
      · have hx : wr.cell? ⟨b, off + k, none⟩ = some (.int .i64 (xs.getD k 0)) := (hbel.cell (p := ⟨b, off + k, none⟩) (by show b < _; omega)).trans (hc k hlt)
        have hcell : wr.cell? ⟨w.heap.size, k, none⟩ = some (.int .i64 ((part xs k).getD k 0)) := by
          rw [hown.cellAt k (by omega)]
          have : k < (part xs k).length := by rw [part_len xs k (by rw [← HN.out]; omega), ← HN.out]; omega
          simp [List.getD, List.getElem?_eq_getElem this]
        have hfr : wr.frozen? ⟨w.heap.size, k, none⟩ = false := hown.frozenAt k
        have hst := (hown.stored k (.int .i64 (xs.getD k 0))).1
        rw [← List.map_set, part_set xs k (by rw [← HN.out]; omega)] at hst
        clear hown
        go_wp2
        go_roundw
        case rel => exact ⟨k + 1, by omega, by go_num, hst, hbel.setCell (by simp) _, by simpa using hsz⟩
        case measure => simp [intOf]; omega
      · obtain rfl : k = n := by omega
        go_wp2
        go_ret
        refine ⟨_, rfl, Own.mk' ?_, hbel⟩
        rw [HN.out] at hown ⊢
        rw [part_all] at hown
        exact hown

/-! ### eqInt64S -/
theorem list_eq_of {xs ys : List Int} (hl : xs.length = ys.length) (h : ∀ j, j < xs.length → xs.getD j 0 = ys.getD j 0) : xs = ys := by
  apply List.ext_getElem hl
  intro i h1 h2
  have := h i h1
  simpa [List.getD, List.getElem?_eq_getElem h1, List.getElem?_eq_getElem h2] using this

def sameB (xs ys : List Int) : Bool := decide (xs = ys)
theorem sameB_self (xs : List Int) : sameB xs xs = true := by simp [sameB]

theorem eqI (xs ys : List Int) (v u : Value) (B C : Nat) (w : World) (ha : Ints w B v xs) (hb : Ints w C u ys) (hn : xs.length ≤ 1099511627776) (hm : ys.length ≤ 1099511627776) :
    Calls Try.prog 24 #[v, u] w fun e w' => e = .returned (.bool (sameB xs ys)) ∧ Below w.heap.size w w' := by
  by_cases hl : xs.length = ys.length
  · rcases ha with ⟨rfl, ao, cap, rfl⟩ | ⟨hp, b, off, cap, rfl, hb', hc⟩
    · rcases hb with ⟨rfl, ao', cap', rfl⟩ | ⟨hp', _⟩
      · go_enter Try.func24, Try.ntmps24
        go_wp2
        refine wp_loop_rounds 1 ?_
        rw [rounds_succ]
        go_wp2
        go_ret
        exact ⟨rfl, Below.refl _ _⟩
      · simp at hl; omega
    · rcases hb with ⟨rfl, ao', cap', rfl⟩ | ⟨hp', b', off', cap', rfl, hb'', hc'⟩
      · simp at hl; subst hl; simp at hp
      · rw [← hl] at hc' ⊢
        obtain ⟨n, hnn⟩ : ∃ n, n = xs.length := ⟨_, rfl⟩
        rw [← hnn] at hp hc hc' hn ⊢
        have HN := hid hnn
        have HL := hid hl
        clear hnn hl hp' hm
        go_enter Try.func24, Try.ntmps24
        go_wp2
        go_loopw [5] (fun i wr => ∃ k : Nat, k ≤ n ∧ i = .int .i64 k ∧ (∀ j, j < k → xs.getD j 0 = ys.getD j 0) ∧ Below w.heap.size w wr ∧ (∀ j, j < n → wr.cell? ⟨b, off + j, none⟩ = some (.int .i64 (xs.getD j 0))) ∧ (∀ j, j < n → wr.cell? ⟨b', off' + j, none⟩ = some (.int .i64 (ys.getD j 0))))
          (fun i _ => n - (intOf i).toNat)
        case atStart => exact ⟨0, Nat.zero_le _, rfl, fun j hj => by omega, Below.refl _ _, hc, hc'⟩
        case round =>
          obtain ⟨k, hk, rfl, heq, hbel, hcr, hcr'⟩ := hrel
          have HE := hid heq
          clear heq
          have HC := hid hcr
          have HC' := hid hcr'
          clear hcr hcr' hc hc'
          by_cases hlt : k < n
          · have h1 := HC.out k hlt
            have h2 := HC'.out k hlt
            obtain ⟨x, hx⟩ : ∃ x, x = xs.getD k 0 := ⟨_, rfl⟩
            obtain ⟨y, hy⟩ : ∃ y, y = ys.getD k 0 := ⟨_, rfl⟩
            rw [← hx] at h1
            rw [← hy] at h2
            have HX := hid hx
            have HY := hid hy
            clear hx hy
            by_cases he : x = y
            · subst he
              go_wp2
              go_quiet (fail)
              go_wp2
              go_roundw
              case rel => exact ⟨k + 1, by omega, by go_num, fun j hj => by
                rcases Nat.lt_or_ge j k with h | h
                · exact HE.out j h
                · obtain rfl : j = k := by omega
                  rw [← HX.out, ← HY.out], by repeat (first | exact hbel | apply Below.drew | (refine bdrewN ?_ _)), HC.out, HC'.out⟩
              case measure => simp [intOf]; omega
            · have hb1 : (x == y) = false := by simpa using he
              have hb2 : (x != y) = true := by simpa using he
              have HF : Hid (sameB xs ys = false) := by
                refine hid ?_
                simp only [sameB, decide_eq_false_iff_not]
                rintro rfl
                exact he (HX.out.trans HY.out.symm)
              clear he
              go_wp2
              go_quiet (fail)
              go_wp2
              go_ret
              exact ⟨by rw [HF.out]; rfl, by repeat (first | exact hbel | apply Below.drew | (refine bdrewN ?_ _))⟩
          · obtain rfl : k = n := by omega
            go_wp2
            go_ret
            have : xs = ys := list_eq_of HL.out (fun j hj => HE.out j (by rw [HN.out]; exact hj))
            exact ⟨by rw [this, sameB_self]; rfl, hbel⟩
  · have hd : (((xs.length : Nat) : Int) == ((ys.length : Nat) : Int)) = false := by simp; omega
    have hd' : (((xs.length : Nat) : Int) != ((ys.length : Nat) : Int)) = true := by simp; omega
    have HF : Hid (sameB xs ys = false) := by
      refine hid ?_
      simp only [sameB, decide_eq_false_iff_not]
      rintro rfl
      exact hl rfl
    obtain ⟨ao, cap, rfl⟩ : ∃ ao cap, v = .slice ao xs.length cap := by
      rcases ha with ⟨rfl, ao, cap, rfl⟩ | ⟨hp, b, off, cap, rfl, hb', hc⟩ <;> exact ⟨_, _, rfl⟩
    obtain ⟨ao', cap', rfl⟩ : ∃ ao cap, u = .slice ao ys.length cap := by
      rcases hb with ⟨rfl, ao, cap, rfl⟩ | ⟨hp, b, off, cap, rfl, hb', hc⟩ <;> exact ⟨_, _, rfl⟩
    clear ha hb hl
    generalize xs.length = n at *
    generalize ys.length = m at *
    go_enter Try.func24, Try.ntmps24
    go_wp2
    go_ret
    exact ⟨by rw [HF.out]; rfl, Below.refl _ _⟩

theorem eqS (xs : List Int) (v u : Value) (B C : Nat) (w : World) (ha : Ints w B v xs) (hb : Ints w C u xs) (hn : xs.length ≤ 1099511627776) :
    Calls Try.prog 24 #[v, u] w fun e w' => e = .returned (.bool true) ∧ Below w.heap.size w w' :=
  (eqI xs xs v u B C w ha hb hn hn).mono fun _ _ h => ⟨by rw [h.1, sameB_self], h.2⟩

/-! ### markInt64S, heldInt64S -/

def marks (k : Int) (n : Nat) : List Int := (List.range n).map fun (j : Nat) => k + (j : Int)
theorem marks_len (k : Int) (n : Nat) : (marks k n).length = n := by simp [marks]
theorem marks_at (k : Int) (n j : Nat) (h : j < n) : (marks k n).getD j 0 = k + (j : Int) := by
  simp [marks, List.getD, h]
def marked (xs : List Int) (k : Int) (j : Nat) : List Int := marks k j ++ xs.drop j
theorem marked_zero (xs : List Int) (k : Int) : marked xs k 0 = xs := by simp [marked, marks]
theorem marked_all (xs : List Int) (k : Int) : marked xs k xs.length = marks k xs.length := by simp [marked]
theorem marked_len (xs : List Int) (k : Int) (j : Nat) (h : j ≤ xs.length) : (marked xs k j).length = xs.length := by simp [marked, marks_len]; omega
theorem marked_set (xs : List Int) (k : Int) (j : Nat) (h : j < xs.length) : (marked xs k j).set j (k + (j : Int)) = marked xs k (j + 1) := by
  unfold marked
  rw [List.set_append_right _ _ (by simp [marks_len])]
  have e1 : j - (marks k j).length = 0 := by simp [marks_len]
  have e3 : marks k (j + 1) = marks k j ++ [k + (j : Int)] := by simp [marks, List.range_succ]
  rw [e1, e3, List.drop_eq_getElem_cons h, List.set_cons_zero, List.append_assoc]
  rfl

theorem markI (xs : List Int) (v : Value) (lo hi : Nat) (k0 : Int) (w : World) (ho : Own w lo hi v xs) (hn : xs.length ≤ 1099511627776) (hk0 : 0 ≤ k0) (hk1 : k0 ≤ 1099511627776) :
    Calls Try.prog 25 #[v, .int .i64 k0] w fun e w' => e = .returned (.int .i64 (k0 + xs.length)) ∧ Own w' lo hi v (marks k0 xs.length) ∧ Chg lo hi w w' := by
  obtain ⟨hown, hlt, hhi⟩ := ho
  by_cases hp : xs = []
  · subst hp
    obtain ⟨ao, cap, rfl⟩ : ∃ ao cap, v = .slice ao 0 cap := by
      rcases hown.2 with ⟨rfl, _⟩ | ⟨g, cap, cur, rfl, _⟩ <;> exact ⟨_, _, rfl⟩
    go_enter Try.func25, Try.ntmps25
    go_wp2
    refine wp_loop_rounds 1 ?_
    rw [rounds_succ]
    go_wp2
    go_ret
    exact ⟨by simp, ⟨hown, hlt, hhi⟩, ⟨rfl, rfl, rfl, Nat.le_refl _, fun _ _ _ => rfl⟩⟩
  · have hp' : 0 < xs.length := List.length_pos_iff.2 hp
    obtain ⟨g, cap, rfl⟩ : ∃ g cap, v = .slice (some ⟨g, 0, none⟩) xs.length cap := by
      rcases hown.2 with ⟨_, h0⟩ | ⟨g, cap, cur, rfl, _⟩
      · omega
      · exact ⟨_, _, rfl⟩
    have hglo := (hown.lt g rfl).1
    have hghi := hlt g rfl
    obtain ⟨n, hnn⟩ : ∃ n, n = xs.length := ⟨_, rfl⟩
    rw [← hnn] at hown hp' hn ⊢
    have HN := hid hnn
    clear hnn hp hlt
    go_enter Try.func25, Try.ntmps25
    go_wp2
    go_loopw [1, 5] (fun q i wr => ∃ k : Nat, k ≤ n ∧ i = .int .i64 k ∧ q = .int .i64 (k0 + k) ∧ wr.ownsRow lo 2 1 (.slice (some ⟨g, 0, none⟩) n cap) n ((marked xs k0 k).map (Value.int .i64)) ∧ Chg lo hi w wr ∧ hi ≤ wr.heap.size)
      (fun _ i _ => n - (intOf i).toNat)
    case atStart => exact ⟨0, Nat.zero_le _, rfl, by simp, by rw [marked_zero]; exact hown, ⟨rfl, rfl, rfl, Nat.le_refl _, fun _ _ _ => rfl⟩, hhi⟩
    case round =>
      obtain ⟨k, hk, rfl, rfl, hownr, hchg, hsz⟩ := hrel
      by_cases hltk : k < n
      · have hcell : wr.cell? ⟨g, k, none⟩ = some (.int .i64 ((marked xs k0 k).getD k 0)) := by
          rw [hownr.cellAt k (by omega)]
          have : k < (marked xs k0 k).length := by rw [marked_len xs k0 k (by rw [← HN.out]; omega), ← HN.out]; omega
          simp [List.getD, List.getElem?_eq_getElem this]
        have hfr : wr.frozen? ⟨g, k, none⟩ = false := hownr.frozenAt k
        have hst := (hownr.stored k (.int .i64 (k0 + k))).1
        rw [← List.map_set, marked_set xs k0 k (by rw [← HN.out]; omega)] at hst
        have hgr := (hownr.stored k (.int .i64 (k0 + k))).2
        have hchg' : Chg lo hi w (wr.setCell ⟨g, k, none⟩ (.int .i64 (k0 + k))) :=
          ⟨hgr.os.trans hchg.os, hgr.tape.trans hchg.tape, hgr.output.trans hchg.output, Nat.le_trans hchg.size hgr.size, fun j hj hj' => by
            rw [hgr.block j (Nat.lt_of_lt_of_le hj hchg.size) (by intro h; cases h; exact hj' ⟨hglo, hghi⟩)]
            exact hchg.block j hj hj'⟩
        have hsz' : hi ≤ (wr.setCell ⟨g, k, none⟩ (.int .i64 (k0 + k))).heap.size := Nat.le_trans hsz hgr.size
        clear hownr hgr hchg hsz
        go_wp2
        go_roundw
        case rel => exact ⟨k + 1, by omega, by go_num, by go_num, hst, hchg', hsz'⟩
        case measure => simp [intOf]; omega
      · obtain rfl : k = n := by omega
        go_wp2
        go_ret
        refine ⟨rfl, ⟨?_, fun g' hg' => by cases hg'; exact hghi, hsz⟩, hchg⟩
        rw [HN.out] at hownr ⊢
        rw [marked_all] at hownr
        rw [marks_len]
        exact hownr

theorem heldI (n : Nat) (v : Value) (B : Nat) (k0 : Int) (w : World) (ha : Ints w B v (marks k0 n)) (hn : n ≤ 1099511627776) (hk0 : 0 ≤ k0) (hk1 : k0 ≤ 1099511627776) :
    Calls Try.prog 26 #[v, .int .i64 k0] w fun e w' => e = .returned (.int .i64 (k0 + n)) ∧ w = w' := by
  rcases ha with ⟨h0, ao, cap, rfl⟩ | ⟨hp, b, off, cap, rfl, hb', hc⟩
  · obtain rfl : n = 0 := by have := congrArg List.length h0; simpa [marks_len] using this
    go_enter Try.func26, Try.ntmps26
    go_wp2
    refine wp_loop_rounds 1 ?_
    rw [rounds_succ]
    go_wp2
    go_ret
    exact ⟨by simp, rfl⟩
  · rw [marks_len] at hp hc ⊢
    have HC : Hid (∀ j, j < n → w.cell? ⟨b, off + j, none⟩ = some (.int .i64 (k0 + j))) := hid fun j hj => by rw [hc j hj, marks_at k0 n j hj]
    clear hc
    go_enter Try.func26, Try.ntmps26
    go_wp2
    go_loop [1, 5] (fun q i => ∃ k : Nat, k ≤ n ∧ i = .int .i64 k ∧ q = .int .i64 (k0 + k)) (fun _ i => n - (intOf i).toNat)
    case atStart => exact ⟨0, Nat.zero_le _, rfl, by simp⟩
    case round =>
      obtain ⟨k, hk, rfl, rfl⟩ := hrel
      by_cases hltk : k < n
      · have h1 := HC.out k hltk
        go_wp2
        go_round
        case rel => exact ⟨k + 1, by omega, by go_num, by go_num⟩
        case measure => simp [intOf]; omega
      · obtain rfl : k = n := by omega
        go_wp2
        go_ret
        exact ⟨rfl, rfl⟩
end Go.Proofs.Ytedajefapddekaa.sl
