/-
  Pair sets: contracts of cmp.Compare, has, compare and of the closure that sorts by it.
-/
import Derived.Test.YtnnbhgiaaelkiabBits
import Derived.Test.YtnnbhgiaaelkiabLat2
import Derived.Test.YtnnbhgiaaelkiabRvs
import Derived.Shelf.SlSortCmp.QuietGrown
namespace Go.Proofs.Ytnnbhgiaaelkiab.mj
open Go.RowKit Go.Proofs.Ytnnbhgiaaelkiab.sl Go.Proofs.Ytnnbhgiaaelkiab.bt Go.Proofs.Ytnnbhgiaaelkiab.la

def cmpI (x y : Int) : Int := if x < y then -1 else if y < x then 1 else 0

theorem nanI (x : Int) (w : World) : Calls Try.prog 104 #[.int .i64 x] w fun e w' => e = .returned (.bool false) ∧ w' = w := by
  have h : (x != x) = false := by simp
  go_enter Try.func104, Try.ntmps104
  go_wp2
  go_ret
  exact ⟨rfl, rfl⟩

theorem cmpC (x y : Int) (w : World) : Calls Try.prog 93 #[.int .i64 x, .int .i64 y] w fun e w' => e = .returned (.int .i64 (cmpI x y)) ∧ w' = w := by
  by_cases h1 : x < y
  · have HF : Hid (cmpI x y = -1) := hid (by rw [cmpI, if_pos h1])
    go_enter Try.func93, Try.ntmps93
    go_wp2_with (go_at_call 104; refine (nanI _ _).mono ?_; rintro e w' ⟨rfl, rfl⟩)
    go_ret
    exact ⟨by rw [HF.out]; rfl, rfl⟩
  · by_cases h2 : y < x
    · have HF : Hid (cmpI x y = 1) := hid (by rw [cmpI, if_neg h1, if_pos h2])
      go_enter Try.func93, Try.ntmps93
      go_wp2_with (go_at_call 104; refine (nanI _ _).mono ?_; rintro e w' ⟨rfl, rfl⟩)
      go_ret
      exact ⟨by rw [HF.out]; rfl, rfl⟩
    · have HF : Hid (cmpI x y = 0) := hid (by rw [cmpI, if_neg h1, if_neg h2])
      go_enter Try.func93, Try.ntmps93
      go_wp2_with (go_at_call 104; refine (nanI _ _).mono ?_; rintro e w' ⟨rfl, rfl⟩)
      go_ret
      exact ⟨by rw [HF.out]; rfl, rfl⟩

theorem rows_new (w : World) (f : Nat → Nat) : Rows12 (w.alloc (.cells (arr f) 86)) w.heap.size 86 f := heap_alloc_new _ _

theorem bit_has (x j : Nat) (hx : x < 65536) : (bits .and .u16 ((x : Int) / 2 ^ j) 1 == 1) = x.testBit j := by
  have e0 : ((2 : Int) ^ j) = ((2 ^ j : Nat) : Int) := by rw [Int.natCast_pow]; rfl
  have hd : x / 2 ^ j < 65536 := Nat.lt_of_le_of_lt (Nat.div_le_self _ _) hx
  have e1 : ((x : Int) / 2 ^ j) = ((x / 2 ^ j : Nat) : Int) := by rw [e0]; exact (Int.natCast_ediv _ _).symm
  have e2 : bits .and .u16 ((x / 2 ^ j : Nat) : Int) 1 = ((x / 2 ^ j &&& 1 : Nat) : Int) := u16_and_nat (x / 2 ^ j) 1 hd (by omega)
  rw [e1, e2, Nat.and_one_is_mod, Nat.testBit_eq_decide_div_mod_eq]
  by_cases h : x / 2 ^ j % 2 = 1
  · rw [h]; rfl
  · have : x / 2 ^ j % 2 = 0 := by omega
    rw [this]; rfl

theorem has (f : Nat → Nat) (i j : Nat) (hi : i < 12) (hj : j < 12) (hf : f i < 65536) (w : World) :
    Calls Try.prog 87 #[.agg (arr f), .int .i64 i, .int .i64 j] w fun e w' => e = .returned (.bool ((f i).testBit j)) ∧ w' = w.alloc (.cells (arr f) 86) := by
  have h1 := ((rows_new w f).at' i hi).1
  have HB := hid (bit_has (f i) j hf)
  go_enter Try.func87, Try.ntmps87
  go_wp2
  go_ret
  refine ⟨?_, rfl⟩
  rw [← HB.out]; rfl

/-- How things are compared: those that are a pair the other way round. -/
def cf (f : Nat → Nat) (x y : Nat) : Int := if (f (min x y)).testBit (max x y) = true then cmpI y x else cmpI x y

theorem comp1 (f : Nat → Nat) (x y m n : Nat) (hxy : (x < y ∧ m = x ∧ n = y) ∨ (x = y ∧ m = x ∧ n = x) ∨ (y < x ∧ m = y ∧ n = x)) (hn : n < 12) (q : Bool) (hq : (f m).testBit n = q) (hf : f m < 65536) (w : World) :
    Calls Try.prog 90 #[.agg (arr f), .int .i64 x, .int .i64 y] w fun e w' => e = .returned (.int .i64 (if q = true then cmpI y x else cmpI x y)) ∧ w' = (w.alloc (.cells (arr f) 86)).alloc (.cells (arr f) 86) := by
  have HG := hid (rows_new w f)
  have HH := hid (has f m n (by omega) hn hf (w.alloc (.cells (arr f) 86)))
  rw [hq] at HH
  clear hq hf
  rcases hxy with ⟨h, rfl, rfl⟩ | ⟨rfl, rfl, rfl⟩ | ⟨h, rfl, rfl⟩
  · have h1 : (m : Int) < (n : Int) := by omega
    have h2 : ¬ (n : Int) < (m : Int) := by omega
    have h3 : ((m : Int) == (n : Int)) = false := by simp; omega
    have h4 : (m : Int) ≤ (n : Int) := by omega
    cases q
    all_goals
      go_enter Try.func90, Try.ntmps90
      go_wp2_with (first | (refine wpList_load_row rfl 86 _ rfl w.heap.size rfl 86 (arr f) (0, 0) _ HG.out Try.underlying86 rfl (infoP' _) ?_) | (go_at_call 87; refine HH.out.mono ?_; rintro e w' ⟨rfl, rfl⟩) | (go_at_call 93; refine (cmpC _ _ _).mono ?_; rintro e w' ⟨rfl, rfl⟩))
      all_goals (first | (exfalso; omega) | skip)
      go_ret
      exact ⟨by simp, rfl⟩
  · cases q
    all_goals
      go_enter Try.func90, Try.ntmps90
      go_wp2_with (first | (refine wpList_load_row rfl 86 _ rfl w.heap.size rfl 86 (arr f) (0, 0) _ HG.out Try.underlying86 rfl (infoP' _) ?_) | (go_at_call 87; refine HH.out.mono ?_; rintro e w' ⟨rfl, rfl⟩) | (go_at_call 93; refine (cmpC _ _ _).mono ?_; rintro e w' ⟨rfl, rfl⟩))
      all_goals (first | (exfalso; omega) | skip)
      go_ret
      exact ⟨by simp, rfl⟩
  · have h1 : (m : Int) < (n : Int) := by omega
    have h2 : ¬ (n : Int) < (m : Int) := by omega
    have h3 : ((n : Int) == (m : Int)) = false := by simp; omega
    have h4 : (m : Int) ≤ (n : Int) := by omega
    cases q
    all_goals
      go_enter Try.func90, Try.ntmps90
      go_wp2_with (first | (refine wpList_load_row rfl 86 _ rfl w.heap.size rfl 86 (arr f) (0, 0) _ HG.out Try.underlying86 rfl (infoP' _) ?_) | (go_at_call 87; refine HH.out.mono ?_; rintro e w' ⟨rfl, rfl⟩) | (go_at_call 93; refine (cmpC _ _ _).mono ?_; rintro e w' ⟨rfl, rfl⟩))
      all_goals (first | (exfalso; omega) | skip)
      go_ret
      exact ⟨by simp, rfl⟩

theorem comp (f : Nat → Nat) (x y : Nat) (hx : x < 12) (hy : y < 12) (hf : ∀ i, i < 12 → f i < 65536) (w : World) :
    Calls Try.prog 90 #[.agg (arr f), .int .i64 x, .int .i64 y] w fun e w' => e = .returned (.int .i64 (cf f x y)) ∧ w' = (w.alloc (.cells (arr f) 86)).alloc (.cells (arr f) 86) :=
  comp1 f x y (min x y) (max x y) (by omega) (by omega) _ rfl (hf _ (by omega)) w

set_option maxRecDepth 100000 in
theorem clos (f : Nat → Nat) (c x y : Nat) (hx : x < 12) (hy : y < 12) (hf : ∀ i, i < 12 → f i < 65536) (w : World) (hr : Rows12 w c 86 f) :
    Calls Try.prog 89 #[.int .i64 x, .int .i64 y, .pointer (some ⟨c, 0, none⟩)] w fun e w' => e = .returned (.int .i64 (cf f x y)) ∧ ∃ q os, w' = Go.Sort.grow (w.drewN q) os := by
  have HG := hid hr
  have HF := hid hf
  clear hr hf
  go_enter Try.func89, Try.ntmps89
  go_wp2_with (first | (refine wpList_load_row rfl 86 _ rfl c rfl 86 (arr f) (0, 0) _ HG.out Try.underlying86 rfl (infoP' _) ?_) | (go_at_call 90; refine (comp f x y hx hy HF.out _).mono ?_; rintro e w' ⟨rfl, rfl⟩))
  go_ret
  refine ⟨rfl, 0, #[.cells (arr f) 86, .cells (arr f) 86], ?_⟩
  rw [Go.Sort.alloc_eq_grow, Go.Sort.alloc_eq_grow, Go.Sort.grow_grow]
  rfl

end Go.Proofs.Ytnnbhgiaaelkiab.mj
