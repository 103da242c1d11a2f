/-
  Valid normal forms: the plain test; contracts of the small helpers of both sides.
-/
import Derived.Test.YtjnanldaihidlaaKy
import Derived.Test.YtjnanldaihidlaaSn
import Derived.Test.YtjnanldaihidlaaH5
import Derived.Test.YtjnanldaihidlaaAi
namespace Go.Proofs.Ytjnanldaihidlaa.vn
open Go.RowKit Go.Proofs.Ytjnanldaihidlaa.sl Go.Proofs.Ytjnanldaihidlaa.pm Go.Proofs.Ytjnanldaihidlaa.fn Go.Proofs.Ytjnanldaihidlaa.br Go.Proofs.Ytjnanldaihidlaa.ss Go.Proofs.Ytjnanldaihidlaa.nb Go.Proofs.Ytjnanldaihidlaa.ai
set_option linter.unusedVariables false

/-! ### the plain test -/
def idB (r : List Int) : Bool := decide (r = ids r.length)
def htB (r : List Int) : Bool := decide (r = halfL r.length)
def rowB (s : Int) (r : List Int) : Bool := decide ((r.length : Int) = s) && (permB r && (!idB r && !htB r))
def pairB (rows : List (List Int)) (i : Nat) : Bool := decide (i = 0) || lwB (rows.getD (i - 1) []) (rows.getD i [])
def stepB (s : Int) (rows : List (List Int)) (i : Nat) : Bool := rowB s (rows.getD i []) && pairB rows i
def allB (s : Int) (rows : List (List Int)) : Bool := (List.range rows.length).all (stepB s rows)
def headB (s p : Int) (rows : List (List Int)) : Bool := decide (0 ≤ s ∧ s ≤ 12) && (decide (-100 ≤ p ∧ p ≤ 100) && decide (rows.length ≤ 100))
def nvB (s p : Int) (rows : List (List Int)) : Bool := headB s p rows && (if s < 2 then decide (p = 0) && decide (rows.length = 0) else allB s rows)
theorem nv_head {s p : Int} {rows : List (List Int)} (h : headB s p rows = false) : nvB s p rows = false := by rw [nvB, h]; rfl
theorem nv_small {s p : Int} {rows : List (List Int)} (h : headB s p rows = true) (h2 : s < 2) : nvB s p rows = (decide (p = 0) && decide (rows.length = 0)) := by rw [nvB, h, if_pos h2]; rfl
theorem nv_big {s p : Int} {rows : List (List Int)} (h : headB s p rows = true) (h2 : ¬ s < 2) : nvB s p rows = allB s rows := by rw [nvB, h, if_neg h2]; rfl
theorem all_bad {s : Int} {rows : List (List Int)} (k : Nat) (hk : k < rows.length) (h : stepB s rows k = false) : allB s rows = false := by
  rw [allB, List.all_eq_false]
  exact ⟨k, List.mem_range.2 hk, by rw [h]; simp⟩
theorem all_good {s : Int} {rows : List (List Int)} (h : ∀ k, k < rows.length → stepB s rows k = true) : allB s rows = true := by
  rw [allB, List.all_eq_true]
  exact fun k hk => h k (List.mem_range.1 hk)
theorem step_row {s : Int} {rows : List (List Int)} {k : Nat} (h : rowB s (rows.getD k []) = false) : stepB s rows k = false := by rw [stepB, h]; rfl
theorem step_pair {s : Int} {rows : List (List Int)} {k : Nat} (h : pairB rows k = false) : stepB s rows k = false := by rw [stepB, h]; simp
theorem step_yes {s : Int} {rows : List (List Int)} {k : Nat} (h : stepB s rows k = true) : rowB s (rows.getD k []) = true := by
  rw [stepB, Bool.and_eq_true] at h; exact h.1
theorem row_parts {s : Int} {r : List Int} (h : rowB s r = true) : (r.length : Int) = s ∧ permB r = true ∧ idB r = false ∧ htB r = false := by
  simp only [rowB, Bool.and_eq_true, decide_eq_true_eq, Bool.not_eq_true'] at h
  exact ⟨h.1, h.2.1, h.2.2.1, h.2.2.2⟩

/-! ### the helpers -/
theorem specIdent (n : Nat) (w : World) (hn : n ≤ 1099511627776) :
    Calls Try.prog 166 #[.int .i64 n] w fun e w' => ∃ v', e = .returned v' ∧ sl.Own w' w.heap.size w'.heap.size v' (ids n) ∧ Below w.heap.size w w' := by
  go_enter Try.func166, Try.ntmps166
  go_wp2
  go_loopw [3, 4] (fun v i wr => ∃ k : Nat, k ≤ n ∧ i = .int .i64 k ∧ sl.Own wr w.heap.size wr.heap.size v (ids k) ∧ Below w.heap.size w wr)
    (fun _ i _ => n - (intOf i).toNat)
  case atStart => exact ⟨0, Nat.zero_le _, rfl, sl.Own.built w _ rfl, (Below.refl _ _).alloc (Nat.le_refl _) _⟩
  case round =>
    obtain ⟨k, hk, rfl, hown, hbel⟩ := hrel
    have HO := hid hown
    have HB := hid hbel
    have hsz := hbel.size
    clear hown hbel
    by_cases hlt : k < n
    · go_wp2_with (at_builtin; refine wp_append rfl _ _ rfl w.heap.size wr.heap.size _ (ids k) k HO.out rfl rfl hsz (by rw [ids_len]; omega) ?_; intro v' w1 hown1 hchg1 hsz1)
      have HO1 := hid hown1
      have HB1 := hid (HB.out.trans (hchg1.below (Nat.le_refl _) hsz))
      clear hown1 hchg1
      go_wp2
      go_roundw
      case rel => exact ⟨k + 1, by omega, by go_num, by rw [ids_succ]; exact HO1.out, HB1.out⟩
      case measure => simp [intOf]; omega
    · obtain rfl : k = n := by omega
      go_wp2
      go_ret
      exact ⟨_, rfl, HO.out, HB.out⟩

theorem specIsQ (a b : List Int) (r : Bool) (hr : sameB a b = r) (v u : Value) (B C : Nat) (w : World) (ha : Ints w B v a) (hb : Ints w C u b) (hn : a.length ≤ 1099511627776) (hm : b.length ≤ 1099511627776) :
    Calls Try.prog 165 #[v, u] w fun e w' => e = .returned (.bool r) ∧ ∃ q, w' = w.drewN q := by
  have HS := hid (sameQ' a b r hr v u B C w ha hb hn hm 0)
  obtain ⟨ao, cap, rfl⟩ := br.ints_val ha
  obtain ⟨ao', cap', rfl⟩ := br.ints_val hb
  clear ha hb hr
  generalize a.length = n at *
  generalize b.length = m at *
  go_enter Try.func165, Try.ntmps165
  go_wp2_with fail
  refine HS.out.mono ?_
  rintro e w1 ⟨rfl, q, rfl⟩
  go_wp2
  go_ret
  exact ⟨rfl, q, rfl⟩

theorem isId (xs : List Int) (r : Bool) (hr : idB xs = r) (v : Value) (B : Nat) (w : World) (ha : Ints w B v xs) (hB : B ≤ w.heap.size) (hn : xs.length ≤ 12) :
    Calls Try.prog 125 #[v] w fun e w' => e = .returned (.bool r) ∧ Below w.heap.size w w' := by
  have HK := hid (ky.keyOf xs v B w ha hB hn)
  have HI := hid (fun w => implIds xs.length w (by omega))
  have HK2 := hid (fun v' B' w' (h : Ints w' B' v' (ids xs.length)) (hB' : B' ≤ w'.heap.size) => ky.keyOf (ids xs.length) v' B' w' h hB' (by rw [ids_len]; exact hn))
  have HE : ∀ w : World, (Op.equalIn 10000 159 (.agg (ky.keyA xs)) (.agg (ky.keyA (ids xs.length)))).run Try.prog w = .ok r w := fun w => by
    rw [ky.eqlK xs (ids xs.length) hn (ids_len _) w, ← hr]; rfl
  obtain ⟨ao, cap, rfl⟩ := br.ints_val ha
  clear ha hr
  generalize ky.keyA xs = A at *
  generalize ky.keyA (ids xs.length) = A2 at *
  generalize xs.length = n at *
  go_enter Try.func125, Try.ntmps125
  go_wp2_with fail
  refine HK.out.mono ?_
  rintro e w1 ⟨rfl, b1⟩
  have HB1 := hid b1
  clear b1
  go_wp2_with fail
  refine (HI.out w1).mono ?_
  rintro e w2 ⟨v2, rfl, o2, b2⟩
  have HO2 := hid o2
  have HB2 := hid (HB1.out.trans (b2.mono HB1.out.size))
  clear o2 b2
  go_wp2_with fail
  refine (HK2.out v2 _ w2 HO2.out.ints (Nat.le_refl _)).mono ?_
  rintro e w3 ⟨rfl, b3⟩
  have HB3 := hid (HB2.out.trans (b3.mono HB2.out.size))
  clear b3
  go_wp2
  go_ret
  exact ⟨rfl, HB3.out⟩

theorem isHt (xs : List Int) (r : Bool) (hr : htB xs = r) (v : Value) (B : Nat) (w : World) (ha : Ints w B v xs) (hB : B ≤ w.heap.size) (hn : xs.length ≤ 12) :
    Calls Try.prog 126 #[v] w fun e w' => e = .returned (.bool r) ∧ Below w.heap.size w w' := by
  have HK := hid (ky.keyOf xs v B w ha hB hn)
  have HI := hid (fun w => implIds xs.length w (by omega))
  have HR := hid (fun v' B' w' (h : Ints w' B' v' (ids xs.length)) (hB' : B' ≤ w'.heap.size) => implRev (ids xs.length) v' B' w' h hB' (by rw [ids_len]; omega) (by rw [ids_len]; exact ids_places xs.length))
  have HK2 := hid (fun v' B' w' (h : Ints w' B' v' (halfL xs.length)) (hB' : B' ≤ w'.heap.size) => ky.keyOf (halfL xs.length) v' B' w' h hB' (by rw [halfL_len]; exact hn))
  have HE : ∀ w : World, (Op.equalIn 10000 159 (.agg (ky.keyA xs)) (.agg (ky.keyA (halfL xs.length)))).run Try.prog w = .ok r w := fun w => by
    rw [ky.eqlK xs (halfL xs.length) hn (halfL_len _) w, ← hr]; rfl
  obtain ⟨ao, cap, rfl⟩ := br.ints_val ha
  clear ha hr
  generalize ky.keyA xs = A at *
  generalize ky.keyA (halfL xs.length) = A2 at *
  generalize xs.length = n at *
  go_enter Try.func126, Try.ntmps126
  go_wp2_with fail
  refine HK.out.mono ?_
  rintro e w1 ⟨rfl, b1⟩
  have HB1 := hid b1
  clear b1
  go_wp2_with fail
  refine (HI.out w1).mono ?_
  rintro e w2 ⟨v2, rfl, o2, b2⟩
  have HO2 := hid o2
  have HB2 := hid (HB1.out.trans (b2.mono HB1.out.size))
  clear o2 b2
  go_wp2_with fail
  refine (HR.out v2 _ w2 HO2.out.ints (Nat.le_refl _)).mono ?_
  rintro e w3 ⟨v3, rfl, o3, b3⟩
  have HO3 := hid o3
  have HB3 := hid (HB2.out.trans (b3.mono HB2.out.size))
  clear o3 b3
  go_wp2_with fail
  refine (HK2.out v3 _ w3 HO3.out.ints (Nat.le_refl _)).mono ?_
  rintro e w4 ⟨rfl, b4⟩
  have HB4 := hid (HB3.out.trans (b4.mono HB3.out.size))
  clear b4
  go_wp2
  go_ret
  exact ⟨rfl, HB4.out⟩

def szB (p : Int) (n : Nat) : Bool := decide (-100 ≤ p ∧ p ≤ 100) && decide (n ≤ 100)
theorem hasSize (s p : Int) (ao : Option Addr) (n cap : Nat) (w : World) :
    Calls Try.prog 124 #[.agg #[.int .i64 s, .int .i64 p, .slice ao n cap]] w fun e w' => e = .returned (.bool (szB p n)) ∧ Below w.heap.size w w' := by
  have HB := hid ((Below.refl w.heap.size w).alloc (Nat.le_refl _) (.cells #[.int .i64 s, .int .i64 p, .slice ao n cap] 72))
  have HW := hid (fun w => within64 p (-100) 100 w)
  by_cases h1 : -100 ≤ p ∧ p ≤ 100
  · have hd : decide (-100 ≤ p ∧ p ≤ 100) = true := decide_eq_true h1
    rw [hd] at HW
    by_cases h2 : n ≤ 100
    · have HF : Hid (szB p n = true) := hid (by simp [szB, h1, h2])
      have hd2 : decide ((n : Int) ≤ 100) = true := by simp; omega
      clear hd h1
      go_enter Try.func124, Try.ntmps124
      go_wp2_with (go_at_call 91; refine (HW.out _).mono ?_; rintro e w' ⟨rfl, rfl⟩)
      go_ret
      exact ⟨by rw [HF.out]; rfl, HB.out⟩
    · have HF : Hid (szB p n = false) := hid (by simp [szB, h2])
      have hd2 : decide ((n : Int) ≤ 100) = false := by simp; omega
      clear hd h1
      go_enter Try.func124, Try.ntmps124
      go_wp2_with (go_at_call 91; refine (HW.out _).mono ?_; rintro e w' ⟨rfl, rfl⟩)
      go_ret
      exact ⟨by rw [HF.out]; rfl, HB.out⟩
  · have hd : decide (-100 ≤ p ∧ p ≤ 100) = false := decide_eq_false h1
    have HF : Hid (szB p n = false) := hid (by rw [szB, hd]; rfl)
    rw [hd] at HW
    clear hd h1
    go_enter Try.func124, Try.ntmps124
    go_wp2_with (go_at_call 91; refine (HW.out _).mono ?_; rintro e w' ⟨rfl, rfl⟩)
    go_ret
    exact ⟨by rw [HF.out]; rfl, HB.out⟩
end Go.Proofs.Ytjnanldaihidlaa.vn
