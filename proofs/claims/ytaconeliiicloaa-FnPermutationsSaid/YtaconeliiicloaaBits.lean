/-
  Bits of rows: math/bits.OnesCount16 counts the bits of a number below 65536.
-/
import Derived.Test.YtaconeliiicloaaComp
import Derived.Laws.BitsAllLaws
import Derived.Lib.BitFns
import Derived.Laws.Rows
import Derived.Laws.Tables
namespace Go.Proofs.Ytaconeliiicloaa.bt
open Go.RowKit Go.Proofs.Ytaconeliiicloaa.sl Go.Proofs.Ytaconeliiicloaa.pm

/-- How many of the first f bits are set. -/
def cnt (f x : Nat) : Nat := (List.range f).countP fun b => x.testBit b
theorem cnt_succ (f x : Nat) : cnt (f + 1) x = x % 2 + cnt f (x / 2) := by
  unfold cnt
  rw [List.range_succ_eq_map, List.countP_cons, List.countP_map]
  have h1 : (if x.testBit 0 = true then 1 else 0) = x % 2 := by
    rw [Nat.testBit_zero]
    by_cases h : x % 2 = 1
    · simp [h]
    · simp [h]; omega
  have h2 : List.countP ((fun b => x.testBit b) ∘ Nat.succ) (List.range f) = List.countP (fun b => (x / 2).testBit b) (List.range f) := by
    apply List.countP_congr
    intro b _
    simp [Nat.testBit_succ]
  rw [h1, h2]; omega
theorem cnt_pop (f x : Nat) : Lib.popAux f x = cnt f x := by
  induction f generalizing x with
  | zero => rfl
  | succ f ih => rw [Lib.popAux, cnt_succ, ih]
theorem cnt_split (f g x : Nat) : cnt (f + g) x = cnt f x + cnt g (x / 2 ^ f) := by
  induction f generalizing x with
  | zero => simp [cnt]
  | succ f ih =>
    have e : f + 1 + g = (f + g) + 1 := by omega
    rw [e, cnt_succ, cnt_succ, ih, Nat.pow_succ, Nat.mul_comm, Nat.div_div_eq_div_mul]
    omega
theorem cnt_low (f g x : Nat) (h : x < 2 ^ f) : cnt (f + g) x = cnt f x := by
  rw [cnt_split, Nat.div_eq_of_lt h]
  have : cnt g 0 = 0 := by simp [cnt]
  omega
theorem cnt_mod (f x : Nat) : cnt f (x % 2 ^ f) = cnt f x := by
  unfold cnt
  apply List.countP_congr
  intro b hb
  simp only [List.mem_range] at hb
  simp [Nat.testBit_mod_two_pow, hb]
theorem ones_split (x : Nat) (hx : x < 65536) : Lib.onesCount (x / 256) + Lib.onesCount (x % 256) = cnt 16 x := by
  unfold Lib.onesCount
  rw [cnt_pop, cnt_pop]
  have h1 : cnt 64 (x / 256) = cnt 8 (x / 256) := cnt_low 8 56 _ (by omega)
  have h2 : cnt 64 (x % 256) = cnt 8 (x % 256) := cnt_low 8 56 _ (by omega)
  have h3 : cnt 8 (x % 256) = cnt 8 x := cnt_mod 8 x
  have h4 : cnt 16 x = cnt 8 x + cnt 8 (x / 2 ^ 8) := cnt_split 8 8 x
  rw [h1, h2, h3]
  have h5 : (2 : Nat) ^ 8 = 256 := by decide
  rw [h5] at h4
  omega
theorem cnt_le (f x : Nat) : cnt f x ≤ f := by
  unfold cnt
  have := List.countP_le_length (p := fun b => x.testBit b) (l := List.range f)
  simpa using this

theorem pop_nat (n : Nat) (h : n < 256) : Lib.pop8 (n : Int) = (Lib.onesCount n : Int) ∧ Lib.onesCount n ≤ 8 := ⟨Lib.pop8_eq ⟨n, h⟩, Lib.onesCount_le8 ⟨n, h⟩⟩

set_option maxRecDepth 100000 in
theorem ones (x : Nat) (hx : x < 65536) (w : World) :
    Calls Try.prog 70 #[.int .u16 x] w fun e w' => e = .returned (.int .i64 (cnt 16 x)) ∧ Below w.heap.size w w' := by
  have HP1 := hid (pop_nat (x / 256) (by omega))
  have HP2 := hid (pop_nat (x % 256) (by omega))
  have hq : x / 256 < 256 := by omega
  have h2 : (bits .and .u16 (x : Int) 255) = ((x % 256 : Nat) : Int) := by
    have := u16_and_nat x 255 hx (by omega)
    rw [nat_mask8] at this
    exact this
  have hm : x % 256 < 256 := by omega
  have i0 : 0 ≤ (x : Int) / 256 := by omega
  have i1 : (x : Int) / 256 ≤ 255 := by omega
  have j0 : 0 ≤ (x : Int) % 256 := by omega
  have j1 : (x : Int) % 256 ≤ 255 := by omega
  go_enter Try.func70, Try.ntmps70
  go_wp2
  go_region
  all_goals go_wp2
  all_goals go_ret
  all_goals (refine ⟨?_, (Below.refl _ _).drew⟩)
  have e1 : (x : Int) / 256 = ((x / 256 : Nat) : Int) := by omega
  have e2 : (x : Int) % 256 = ((x % 256 : Nat) : Int) := by omega
  have e3 : (Lib.pop8 ((x : Int) / 256) + Lib.pop8 ((x : Int) % 256)) % 256 = (cnt 16 x : Int) := by
    have := ones_split x hx
    have a1 := HP1.out
    have a2 := HP2.out
    rw [e1, e2, a1.1, a2.1]
    omega
  exact congrArg (fun z : Int => Ending.returned (.int .i64 z)) e3

/-! ### rows of pairs -/
/-- Bit k (below j) of row i: thing i stands before thing k and has the greater place. -/
def rowTo (p : List Int) (i : Nat) : Nat → Nat
  | 0 => 0
  | j + 1 => if i < j ∧ p.getD j 0 < p.getD i 0 then rowTo p i j ||| 2 ^ j else rowTo p i j
theorem rowTo_lt (p : List Int) (i j : Nat) : rowTo p i j < 2 ^ j := by
  induction j with
  | zero => simp [rowTo]
  | succ j ih =>
    unfold rowTo
    have h2 : 2 ^ j < 2 ^ (j + 1) := Nat.pow_lt_pow_right (by omega) (by omega)
    split
    · exact Nat.or_lt_two_pow (by omega) h2
    · omega
theorem rowTo_bit (p : List Int) (i j k : Nat) : (rowTo p i j).testBit k = decide (k < j ∧ i < k ∧ p.getD k 0 < p.getD i 0) := by
  induction j with
  | zero => simp [rowTo]
  | succ j ih =>
    unfold rowTo
    split
    · rename_i h
      rw [Nat.testBit_or, ih, Nat.testBit_two_pow]
      by_cases hk : j = k
      · subst hk; simp only [decide_true, Bool.or_true]
        symm; simp only [decide_eq_true_eq]; exact ⟨by omega, h.1, h.2⟩
      · simp only [hk, decide_false, Bool.or_false]
        congr 1
        apply propext
        constructor
        · rintro ⟨a, b⟩; exact ⟨by omega, b⟩
        · rintro ⟨a, b⟩; exact ⟨by omega, b⟩
    · rename_i h
      rw [ih]
      congr 1
      apply propext
      constructor
      · rintro ⟨a, b⟩; exact ⟨by omega, b⟩
      · rintro ⟨a, b, c⟩
        refine ⟨?_, b, c⟩
        rcases Nat.lt_or_ge k j with h1 | h1
        · exact h1
        · obtain rfl : k = j := by omega
          exact absurd ⟨b, c⟩ h
theorem rowTo_start (p : List Int) (i j : Nat) (h : j ≤ i + 1) : rowTo p i j = 0 := by
  induction j with
  | zero => rfl
  | succ j ih =>
    rw [rowTo, if_neg (by omega)]
    exact ih (by omega)
def row (p : List Int) (i : Nat) : Nat := rowTo p i p.length
theorem row_zero (p : List Int) (i : Nat) (h : p.length ≤ i + 1) : row p i = 0 := rowTo_start p i _ h

def arr (f : Nat → Nat) : Array Value := ((List.range 12).map fun i => Value.int .u16 (f i : Int)).toArray
theorem arr_size (f : Nat → Nat) : (arr f).size = 12 := by simp [arr]
theorem arr_same (f g : Nat → Nat) : (arr f).size = (arr g).size := by rw [arr_size, arr_size]
theorem arr_at (f : Nat → Nat) (i : Nat) (h : i < 12) : (arr f)[i]? = some (.int .u16 (f i : Int)) := by simp [arr, h]
theorem arr_set (f g : Nat → Nat) (i x : Nat) (_h : i < 12) (hg : ∀ r, g r = if r = i then x else f r) : (arr f).setIfInBounds i (.int .u16 (x : Int)) = arr g := by
  apply Array.ext_getElem?
  intro j
  by_cases hj : j < 12
  · rw [arr_at g j hj, hg j]
    by_cases hji : j = i
    · subst hji
      rw [Array.getElem?_setIfInBounds_self_of_lt (by rw [arr_size]; exact hj)]; simp
    · rw [Array.getElem?_setIfInBounds_ne (by omega), arr_at f j hj, if_neg hji]
  · rw [Array.getElem?_eq_none (by rw [Array.size_setIfInBounds, arr_size]; omega), Array.getElem?_eq_none (by rw [arr_size]; omega)]
theorem arr_one (f : Nat → Nat) : (arr f).all (·.oneCell') = true := by
  simp [arr, Value.oneCell']

/-- A block that holds twelve rows. -/
def Rows12 (w : World) (b T : Nat) (f : Nat → Nat) : Prop := w.heap[b]? = some (.cells (arr f) T (0, 0))
theorem Rows12.at' {w : World} {b T : Nat} {f : Nat → Nat} (h : Rows12 w b T f) (i : Nat) (hi : i < 12) : w.cell? ⟨b, i, none⟩ = some (.int .u16 (f i : Int)) ∧ w.frozen? ⟨b, i, none⟩ = false :=
  ⟨by rw [cell_of_row w b i (arr f) T (0, 0) h, arr_at f i hi], frozen_of_row w b i (arr f) T h⟩
theorem Rows12.set {w : World} {b T : Nat} {f g : Nat → Nat} (h : Rows12 w b T f) (i x : Nat) (hi : i < 12) (hg : ∀ r, g r = if r = i then x else f r) : Rows12 (w.setCell ⟨b, i, none⟩ (.int .u16 (x : Int))) b T g := by
  have := heap_setCell_same w b i (arr f) T (.int .u16 (x : Int)) h
  rw [arr_set f g i x hi hg] at this
  exact this
theorem Rows12.lt {w : World} {b T : Nat} {f : Nat → Nat} (h : Rows12 w b T f) : b < w.heap.size := (Array.getElem?_eq_some_iff.1 h).1
theorem Rows12.chg {w w' : World} {b T lo hi : Nat} {f : Nat → Nat} (h : Rows12 w b T f) (c : Chg lo hi w w') (hb : ¬ (lo ≤ b ∧ b < hi)) : Rows12 w' b T f := by
  unfold Rows12
  rw [c.block b h.lt hb]
  exact h
theorem Rows12.drewN {w : World} {b T : Nat} {f : Nat → Nat} (h : Rows12 w b T f) (n : Nat) : Rows12 (w.drewN n) b T f := h

/-- The rows while row i is written up to j. -/
def st (p : List Int) (i j r : Nat) : Nat := if r < i then row p r else if r = i then rowTo p i j else 0
theorem st_zero (p : List Int) (r : Nat) : st p 0 0 r = 0 := by
  unfold st
  split
  · omega
  · split
    · rename_i h; rfl
    · rfl
theorem st_start (p : List Int) (i : Nat) : st p i (i + 1) = st p i 0 := by
  funext r
  unfold st
  split
  · rfl
  · split
    · rw [rowTo_start p i (i + 1) (by omega)]; rfl
    · rfl
theorem st_next (p : List Int) (i : Nat) : st p i p.length = st p (i + 1) 0 := by
  funext r
  unfold st
  by_cases h1 : r < i
  · rw [if_pos h1, if_pos (by omega)]
  · rw [if_neg h1]
    by_cases h2 : r = i
    · subst h2; rw [if_pos rfl, if_pos (by omega)]; rfl
    · rw [if_neg h2, if_neg (by omega)]
      split
      · rfl
      · rfl
theorem st_all (p : List Int) : st p p.length 0 = row p := by
  funext r
  unfold st
  split
  · rfl
  · split
    · rename_i h _; rw [row_zero p r (by omega)]; rfl
    · rw [row_zero p r (by omega)]
theorem st_yes (p : List Int) (i j : Nat) (h1 : i < j) (h2 : p.getD j 0 < p.getD i 0) (r : Nat) : st p i (j + 1) r = if r = i then rowTo p i j ||| 2 ^ j else st p i j r := by
  unfold st
  by_cases h : r = i
  · subst h; rw [if_neg (by omega), if_pos rfl, if_pos rfl, rowTo, if_pos ⟨h1, h2⟩]
  · rw [if_neg h]
    split
    · rfl
    · rfl
theorem st_no (p : List Int) (i j : Nat) (h2 : ¬ p.getD j 0 < p.getD i 0) : st p i (j + 1) = st p i j := by
  funext r
  unfold st
  split
  · rfl
  · split
    · rw [rowTo, if_neg (by rintro ⟨_, h⟩; exact h2 h)]
    · rfl
theorem st_at (p : List Int) (i j : Nat) : st p i j i = rowTo p i j := by
  unfold st
  rw [if_neg (by omega), if_pos rfl]
theorem arr_zero : arr (fun _ => 0) = #[.int .u16 0, .int .u16 0, .int .u16 0, .int .u16 0, .int .u16 0, .int .u16 0, .int .u16 0, .int .u16 0, .int .u16 0, .int .u16 0, .int .u16 0, .int .u16 0] := rfl
theorem or_val (x j : Nat) (hx : x < 2 ^ j) (hj : j < 12) : bits .or .u16 (x : Int) ((2 ^ j : Nat) : Int) = ((x ||| 2 ^ j : Nat) : Int) := by
  have h1 : 2 ^ j ≤ 2 ^ 11 := Nat.pow_le_pow_right (by omega) (by omega)
  have h2 : (2 : Nat) ^ 11 = 2048 := by decide
  exact u16_or_nat x (2 ^ j) (by omega) (by omega)

theorem or_row (x j : Nat) (hx : x < 2 ^ j) (hj : j < 12) : bits .or .u16 (x : Int) (IntKind.u16.wrap ((2 : Int) ^ j)) = ((x ||| 2 ^ j : Nat) : Int) := by
  have h1 : 2 ^ j ≤ 2 ^ 11 := Nat.pow_le_pow_right (by omega) (by omega)
  have h2 : (2 : Nat) ^ 11 = 2048 := by decide
  have h3 : ((2 : Int) ^ j) = ((2 ^ j : Nat) : Int) := by rw [Int.natCast_pow]; rfl
  have h4 : IntKind.u16.wrap ((2 : Int) ^ j) = ((2 ^ j : Nat) : Int) := by
    rw [h3, IntKind.wrap_u16]; omega
  rw [h4]
  exact or_val x j hx hj
theorem infoP : (Try.prog.info? 79).map (·.size) = some 12 := by kernel_rfl
theorem infoP' (f : Nat → Nat) : (Try.prog.info? 79).map (·.size) = some (arr f).size := by rw [arr_size]; exact infoP

set_option maxHeartbeats 800000 in
theorem pairs (p : List Int) (v : Value) (B : Nat) (w : World) (ha : Ints w B v p) (hB : B ≤ w.heap.size) (hn : p.length ≤ 12) :
    Calls Try.prog 66 #[v] w fun e w' => e = .returned (.agg (arr (row p))) ∧ Below w.heap.size w w' := by
  rcases ha with ⟨rfl, ao, cap, rfl⟩ | ⟨hp, b, off, cap, rfl, hb', hc⟩
  · have HR0 : Hid (Rows12 ((w.alloc (.cells (arr fun _ => 0) 79)).alloc (.cells (arr fun _ => 0) 79)) w.heap.size 79 (fun _ => 0) ∧ Rows12 ((w.alloc (.cells (arr fun _ => 0) 79)).alloc (.cells (arr fun _ => 0) 79)) (w.heap.size + 1) 79 (fun _ => 0)) := hid ⟨heap_alloc2_old _ _ _, heap_alloc2_new _ _ _⟩
    rw [arr_zero] at HR0
    go_enter Try.func66, Try.ntmps66
    go_wp2
    go_loopw [8] (fun iv wr => iv = .int .i64 0 ∧ Rows12 wr w.heap.size 79 (fun _ => 0) ∧ Rows12 wr (w.heap.size + 1) 79 (fun _ => 0) ∧ Below w.heap.size w wr) (fun _ _ => 0)
    case atStart => exact ⟨rfl, HR0.out.1, HR0.out.2, ((Below.refl _ _).alloc (Nat.le_refl _) _).alloc (by simp) _⟩
    case round =>
      obtain ⟨rfl, hr1, hr2, hbel⟩ := hrel
      obtain ⟨z, hz⟩ : ∃ z : Nat → Nat, z = (fun _ => 0) := ⟨_, rfl⟩
      rw [← hz] at hr1 hr2
      have HZ := hid hz
      have HR1 := hid hr1
      have HR2 := hid hr2
      have HB := hid hbel
      clear hr1 hr2 hbel HR0 hz
      go_wp2_with (first | (refine wpList_load_row rfl 79 _ rfl (w.heap.size + 1) rfl 79 (arr z) (0, 0) _ HR2.out Try.underlying79 rfl (infoP' _) ?_) | (refine wpList_store_row rfl 79 _ _ rfl w.heap.size (arr z) rfl rfl 79 _ HR1.out (infoP' _) (arr_same _ _) (arr_one _) ?_))
      refine bodyPost_ret (v := .agg (arr z)) (results_cell_row rfl _ _ w.heap.size 79 (arr z) (0, 0) _ rfl (setRow_heap _ _ _ _ _ _ HR1.out) Try.underlying79 rfl (infoP' _)) rfl ⟨?_, ?_⟩
      · rw [show row [] = z from by rw [HZ.out]; rfl]
      · exact HB.out.trans ⟨rfl, rfl, rfl, by simp, fun k hk => setRow_other _ _ _ _ (by omega)⟩
  · have HC : Hid (∀ j, j < p.length → w.cell? ⟨b, off + j, none⟩ = some (.int .i64 (p.getD j 0))) := hid hc
    obtain ⟨n, hnn⟩ : ∃ n, n = p.length := ⟨_, rfl⟩
    rw [← hnn] at hp hn ⊢
    have HN := hid hnn
    clear hc hnn
    have HR0 : Hid (Rows12 ((w.alloc (.cells (arr fun _ => 0) 79)).alloc (.cells (arr fun _ => 0) 79)) w.heap.size 79 (fun _ => 0) ∧ Rows12 ((w.alloc (.cells (arr fun _ => 0) 79)).alloc (.cells (arr fun _ => 0) 79)) (w.heap.size + 1) 79 (fun _ => 0)) := hid ⟨heap_alloc2_old _ _ _, heap_alloc2_new _ _ _⟩
    rw [arr_zero] at HR0
    go_enter Try.func66, Try.ntmps66
    go_wp2
    go_loopw [8] (fun iv wr => ∃ i : Nat, i ≤ n ∧ iv = .int .i64 i ∧ Rows12 wr w.heap.size 79 (fun _ => 0) ∧ Rows12 wr (w.heap.size + 1) 79 (st p i 0) ∧ Below w.heap.size w wr)
      (fun iv _ => n - (intOf iv).toNat)
    case atStart =>
      refine ⟨0, Nat.zero_le _, rfl, HR0.out.1, ?_, ((Below.refl _ _).alloc (Nat.le_refl _) _).alloc (by simp) _⟩
      rw [show st p 0 0 = (fun _ => 0) from funext (st_zero p)]
      exact HR0.out.2
    case round =>
      obtain ⟨i, hi, rfl, hr1, hr2, hbel⟩ := hrel
      obtain ⟨wo, hwo⟩ : ∃ wo : World, wo = wr := ⟨_, rfl⟩
      subst hwo
      have HR1 := hid hr1
      have HR2 := hid hr2
      have HB := hid hbel
      have z2 : w.heap.size + 1 < wo.heap.size := hr2.lt
      clear hr1 hr2 hbel HR0
      by_cases hlt : i < n
      · go_wp2
        go_loopw [5] (fun jv wx => ∃ j : Nat, i + 1 ≤ j ∧ j ≤ n ∧ jv = .int .i64 j ∧ Rows12 wx w.heap.size 79 (fun _ => 0) ∧ Rows12 wx (w.heap.size + 1) 79 (st p i j) ∧ Below w.heap.size w wx)
          (fun jv _ => n - (intOf jv).toNat)
        case atStart => exact ⟨i + 1, Nat.le_refl _, by omega, by go_num, HR1.out, by rw [st_start]; exact HR2.out, HB.out⟩
        case round =>
          obtain ⟨j, hj1, hj2, rfl, hq1, hq2, hqb⟩ := hrel
          have HQ1 := hid hq1
          have HQ2 := hid hq2
          have HQB := hid hqb
          clear hq1 hq2 hqb HR1 HR2 HB
          by_cases hjl : j < n
          · obtain ⟨x, hx⟩ : ∃ x, x = p.getD i 0 := ⟨_, rfl⟩
            obtain ⟨y, hy⟩ : ∃ y, y = p.getD j 0 := ⟨_, rfl⟩
            have h1 : wr.cell? ⟨b, off + i, none⟩ = some (.int .i64 x) := by rw [hx]; exact (HQB.out.cell (p := ⟨b, off + i, none⟩) (by show b < _; omega)).trans (HC.out i (by rw [← HN.out]; omega))
            have h2 : wr.cell? ⟨b, off + j, none⟩ = some (.int .i64 y) := by rw [hy]; exact (HQB.out.cell (p := ⟨b, off + j, none⟩) (by show b < _; omega)).trans (HC.out j (by rw [← HN.out]; omega))
            have HX := hid hx
            have HY := hid hy
            clear hx hy
            by_cases hd : y < x
            · have c1 : wr.cell? ⟨w.heap.size + 1, i, none⟩ = some (.int .u16 (rowTo p i j : Int)) := by have := (HQ2.out.at' i (by omega)).1; rwa [st_at] at this
              have f1 : wr.frozen? ⟨w.heap.size + 1, i, none⟩ = false := (HQ2.out.at' i (by omega)).2
              go_wp2
              go_quiet (fail)
              go_wp2
              go_region
              have HS := hid ((HQ2.out.drewN (nq + 1)).set i (rowTo p i j ||| 2 ^ j) (by omega) (st_yes p i j (by omega) (by rw [← HX.out, ← HY.out]; exact hd)))
              have HE := hid (or_row (rowTo p i j) j (rowTo_lt p i j) (by omega))
              have HQ3 := hid ((HQ1.out.drewN (nq + 1)).chg (lo := w.heap.size + 1) (hi := w.heap.size + 2) (w' := (wr.drewN (nq + 1)).setCell ⟨w.heap.size + 1, i, none⟩ (.int .u16 ((rowTo p i j ||| 2 ^ j : Nat) : Int))) ⟨rfl, rfl, rfl, by simp, fun k hk hk' => heap_setCell_other _ _ _ _ (by intro e; simp at e; omega)⟩ (by omega))
              go_wp2
              go_roundw
              case rel => exact ⟨j + 1, by omega, by omega, by go_num, by rw [HE.out]; exact HQ3.out, by rw [HE.out]; exact HS.out, (bdrewN HQB.out _).setCell (by simp) _⟩
              case measure => simp [intOf]; omega
            · have HD := hid (st_no p i j (by rw [← HX.out, ← HY.out]; exact hd))
              go_wp2
              go_quiet (fail)
              go_wp2
              go_roundw
              case rel => exact ⟨j + 1, by omega, by omega, by go_num, HQ1.out.drewN _, by rw [HD.out]; exact HQ2.out.drewN _, bdrewN HQB.out _⟩
              case measure => simp [intOf]; omega
          · have hje : j = n := by omega
            subst hje
            have HNX : Hid (st p i j = st p (i + 1) 0) := hid (by rw [HN.out]; exact st_next p i)
            go_wp2
            go_roundw
            case rel => exact ⟨i + 1, by omega, by go_num, HQ1.out, by rw [← HNX.out]; exact HQ2.out, HQB.out⟩
            case measure => simp [intOf]; omega
      · have hie : i = n := by omega
        subst hie
        rw [HN.out, st_all] at HR2
        go_wp2_with (first | (refine wpList_load_row rfl 79 _ rfl (w.heap.size + 1) rfl 79 (arr (row p)) (0, 0) _ HR2.out Try.underlying79 rfl (infoP' _) ?_) | (refine wpList_store_row rfl 79 _ _ rfl w.heap.size (arr (row p)) rfl rfl 79 _ HR1.out (infoP' _) (arr_same _ _) (arr_one _) ?_))
        refine bodyPost_ret (v := .agg (arr (row p))) (results_cell_row rfl _ _ w.heap.size 79 (arr (row p)) (0, 0) _ rfl (setRow_heap _ _ _ _ _ _ HR1.out) Try.underlying79 rfl (infoP' _)) rfl ⟨rfl, ?_⟩
        exact HB.out.trans ⟨rfl, rfl, rfl, by simp, fun k hk => setRow_other _ _ _ _ (by omega)⟩
end Go.Proofs.Ytaconeliiicloaa.bt
