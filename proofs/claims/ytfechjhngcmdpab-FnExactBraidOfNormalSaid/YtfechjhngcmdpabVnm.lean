/-
  In one file: Vn, Vn2, Vn3.
-/
import Derived.Test.YtfechjhngcmdpabKy
import Derived.Test.YtfechjhngcmdpabSn
import Derived.Test.YtfechjhngcmdpabH5
import Derived.Test.YtfechjhngcmdpabAi
/- Valid normal forms: the plain test; contracts of the small helpers of both sides. -/
namespace Go.Proofs.Ytfechjhngcmdpab.vn
open Go.RowKit Go.Proofs.Ytfechjhngcmdpab.sl Go.Proofs.Ytfechjhngcmdpab.pm Go.Proofs.Ytfechjhngcmdpab.fn Go.Proofs.Ytfechjhngcmdpab.br Go.Proofs.Ytfechjhngcmdpab.ss Go.Proofs.Ytfechjhngcmdpab.nb Go.Proofs.Ytfechjhngcmdpab.ai
set_option linter.unusedVariables false

/-! ### the plain test -/
def idB (r : List Int) : Bool := decide (r = ids r.length)
def htB (r : List Int) : Bool := decide (r = halfL r.length)
def rowB (s : Int) (r : List Int) : Bool := decide ((r.length : Int) = s) && (permB r && (!idB r && !htB r))
def pairB (rows : List (List Int)) (i : Nat) : Bool := decide (i = 0) || lwB (rows.getD (i - 1) []) (rows.getD i [])
def stepB (s : Int) (rows : List (List Int)) (i : Nat) : Bool := rowB s (rows.getD i []) && pairB rows i
def allB (s : Int) (rows : List (List Int)) : Bool := (List.range rows.length).all (stepB s rows)
def headB (s p : Int) (rows : List (List Int)) : Bool := decide (0 ≤ s ∧ s ≤ 12) && (decide (-100 ≤ p ∧ p ≤ 100) && decide (rows.length ≤ 100))
def nvB (s p : Int) (rows : List (List Int)) : Bool := headB s p rows && (if s < 2 then decide (p = 0) && decide (rows.length = 0) else allB s rows)
theorem nv_head {s p : Int} {rows : List (List Int)} (h : headB s p rows = false) : nvB s p rows = false := by rw [nvB, h]; rfl
theorem nv_small {s p : Int} {rows : List (List Int)} (h : headB s p rows = true) (h2 : s < 2) : nvB s p rows = (decide (p = 0) && decide (rows.length = 0)) := by rw [nvB, h, if_pos h2]; rfl
theorem nv_big {s p : Int} {rows : List (List Int)} (h : headB s p rows = true) (h2 : ¬ s < 2) : nvB s p rows = allB s rows := by rw [nvB, h, if_neg h2]; rfl
theorem all_bad {s : Int} {rows : List (List Int)} (k : Nat) (hk : k < rows.length) (h : stepB s rows k = false) : allB s rows = false := by
  rw [allB, List.all_eq_false]
  exact ⟨k, List.mem_range.2 hk, by rw [h]; simp⟩
theorem all_good {s : Int} {rows : List (List Int)} (h : ∀ k, k < rows.length → stepB s rows k = true) : allB s rows = true := by
  rw [allB, List.all_eq_true]
  exact fun k hk => h k (List.mem_range.1 hk)
theorem step_row {s : Int} {rows : List (List Int)} {k : Nat} (h : rowB s (rows.getD k []) = false) : stepB s rows k = false := by rw [stepB, h]; rfl
theorem step_pair {s : Int} {rows : List (List Int)} {k : Nat} (h : pairB rows k = false) : stepB s rows k = false := by rw [stepB, h]; simp
theorem step_yes {s : Int} {rows : List (List Int)} {k : Nat} (h : stepB s rows k = true) : rowB s (rows.getD k []) = true := by
  rw [stepB, Bool.and_eq_true] at h; exact h.1
theorem row_parts {s : Int} {r : List Int} (h : rowB s r = true) : (r.length : Int) = s ∧ permB r = true ∧ idB r = false ∧ htB r = false := by
  simp only [rowB, Bool.and_eq_true, decide_eq_true_eq, Bool.not_eq_true'] at h
  exact ⟨h.1, h.2.1, h.2.2.1, h.2.2.2⟩

/-! ### the helpers -/
theorem specIdent (n : Nat) (w : World) (hn : n ≤ 1099511627776) :
    Calls Try.prog 71 #[.int .i64 n] w fun e w' => ∃ v', e = .returned v' ∧ sl.Own w' w.heap.size w'.heap.size v' (ids n) ∧ Below w.heap.size w w' := by
  go_enter Try.func71, Try.ntmps71
  go_wp2
  go_loopw [3, 4] (fun v i wr => ∃ k : Nat, k ≤ n ∧ i = .int .i64 k ∧ sl.Own wr w.heap.size wr.heap.size v (ids k) ∧ Below w.heap.size w wr)
    (fun _ i _ => n - (intOf i).toNat)
  case atStart => exact ⟨0, Nat.zero_le _, rfl, sl.Own.built w _ rfl, (Below.refl _ _).alloc (Nat.le_refl _) _⟩
  case round =>
    obtain ⟨k, hk, rfl, hown, hbel⟩ := hrel
    have HO := hid hown
    have HB := hid hbel
    have hsz := hbel.size
    clear hown hbel
    by_cases hlt : k < n
    · go_wp2_with (at_builtin; refine wp_append rfl _ _ rfl w.heap.size wr.heap.size _ (ids k) k HO.out rfl rfl hsz (by rw [ids_len]; omega) ?_; intro v' w1 hown1 hchg1 hsz1)
      have HO1 := hid hown1
      have HB1 := hid (HB.out.trans (hchg1.below (Nat.le_refl _) hsz))
      clear hown1 hchg1
      go_wp2
      go_roundw
      case rel => exact ⟨k + 1, by omega, by go_num, by rw [ids_succ]; exact HO1.out, HB1.out⟩
      case measure => simp [intOf]; omega
    · obtain rfl : k = n := by omega
      go_wp2
      go_ret
      exact ⟨_, rfl, HO.out, HB.out⟩

theorem specIsQ (a b : List Int) (r : Bool) (hr : sameB a b = r) (v u : Value) (B C : Nat) (w : World) (ha : Ints w B v a) (hb : Ints w C u b) (hn : a.length ≤ 1099511627776) (hm : b.length ≤ 1099511627776) :
    Calls Try.prog 70 #[v, u] w fun e w' => e = .returned (.bool r) ∧ ∃ q, w' = w.drewN q := by
  have HS := hid (sameQ' a b r hr v u B C w ha hb hn hm 0)
  obtain ⟨ao, cap, rfl⟩ := br.ints_val ha
  obtain ⟨ao', cap', rfl⟩ := br.ints_val hb
  clear ha hb hr
  generalize a.length = n at *
  generalize b.length = m at *
  go_enter Try.func70, Try.ntmps70
  go_wp2_with fail
  refine HS.out.mono ?_
  rintro e w1 ⟨rfl, q, rfl⟩
  go_wp2
  go_ret
  exact ⟨rfl, q, rfl⟩

theorem isId (xs : List Int) (r : Bool) (hr : idB xs = r) (v : Value) (B : Nat) (w : World) (ha : Ints w B v xs) (hB : B ≤ w.heap.size) (hn : xs.length ≤ 12) :
    Calls Try.prog 78 #[v] w fun e w' => e = .returned (.bool r) ∧ Below w.heap.size w w' := by
  have HK := hid (ky.keyOf xs v B w ha hB hn)
  have HI := hid (fun w => implIds xs.length w (by omega))
  have HK2 := hid (fun v' B' w' (h : Ints w' B' v' (ids xs.length)) (hB' : B' ≤ w'.heap.size) => ky.keyOf (ids xs.length) v' B' w' h hB' (by rw [ids_len]; exact hn))
  have HE : ∀ w : World, (Op.equalIn 10000 104 (.agg (ky.keyA xs)) (.agg (ky.keyA (ids xs.length)))).run Try.prog w = .ok r w := fun w => by
    rw [ky.eqlK xs (ids xs.length) hn (ids_len _) w, ← hr]; rfl
  obtain ⟨ao, cap, rfl⟩ := br.ints_val ha
  clear ha hr
  generalize ky.keyA xs = A at *
  generalize ky.keyA (ids xs.length) = A2 at *
  generalize xs.length = n at *
  go_enter Try.func78, Try.ntmps78
  go_wp2_with fail
  refine HK.out.mono ?_
  rintro e w1 ⟨rfl, b1⟩
  have HB1 := hid b1
  clear b1
  go_wp2_with fail
  refine (HI.out w1).mono ?_
  rintro e w2 ⟨v2, rfl, o2, b2⟩
  have HO2 := hid o2
  have HB2 := hid (HB1.out.trans (b2.mono HB1.out.size))
  clear o2 b2
  go_wp2_with fail
  refine (HK2.out v2 _ w2 HO2.out.ints (Nat.le_refl _)).mono ?_
  rintro e w3 ⟨rfl, b3⟩
  have HB3 := hid (HB2.out.trans (b3.mono HB2.out.size))
  clear b3
  go_wp2
  go_ret
  exact ⟨rfl, HB3.out⟩

theorem isHt (xs : List Int) (r : Bool) (hr : htB xs = r) (v : Value) (B : Nat) (w : World) (ha : Ints w B v xs) (hB : B ≤ w.heap.size) (hn : xs.length ≤ 12) :
    Calls Try.prog 79 #[v] w fun e w' => e = .returned (.bool r) ∧ Below w.heap.size w w' := by
  have HK := hid (ky.keyOf xs v B w ha hB hn)
  have HI := hid (fun w => implIds xs.length w (by omega))
  have HR := hid (fun v' B' w' (h : Ints w' B' v' (ids xs.length)) (hB' : B' ≤ w'.heap.size) => implRev (ids xs.length) v' B' w' h hB' (by rw [ids_len]; omega) (by rw [ids_len]; exact ids_places xs.length))
  have HK2 := hid (fun v' B' w' (h : Ints w' B' v' (halfL xs.length)) (hB' : B' ≤ w'.heap.size) => ky.keyOf (halfL xs.length) v' B' w' h hB' (by rw [halfL_len]; exact hn))
  have HE : ∀ w : World, (Op.equalIn 10000 104 (.agg (ky.keyA xs)) (.agg (ky.keyA (halfL xs.length)))).run Try.prog w = .ok r w := fun w => by
    rw [ky.eqlK xs (halfL xs.length) hn (halfL_len _) w, ← hr]; rfl
  obtain ⟨ao, cap, rfl⟩ := br.ints_val ha
  clear ha hr
  generalize ky.keyA xs = A at *
  generalize ky.keyA (halfL xs.length) = A2 at *
  generalize xs.length = n at *
  go_enter Try.func79, Try.ntmps79
  go_wp2_with fail
  refine HK.out.mono ?_
  rintro e w1 ⟨rfl, b1⟩
  have HB1 := hid b1
  clear b1
  go_wp2_with fail
  refine (HI.out w1).mono ?_
  rintro e w2 ⟨v2, rfl, o2, b2⟩
  have HO2 := hid o2
  have HB2 := hid (HB1.out.trans (b2.mono HB1.out.size))
  clear o2 b2
  go_wp2_with fail
  refine (HR.out v2 _ w2 HO2.out.ints (Nat.le_refl _)).mono ?_
  rintro e w3 ⟨v3, rfl, o3, b3⟩
  have HO3 := hid o3
  have HB3 := hid (HB2.out.trans (b3.mono HB2.out.size))
  clear o3 b3
  go_wp2_with fail
  refine (HK2.out v3 _ w3 HO3.out.ints (Nat.le_refl _)).mono ?_
  rintro e w4 ⟨rfl, b4⟩
  have HB4 := hid (HB3.out.trans (b4.mono HB3.out.size))
  clear b4
  go_wp2
  go_ret
  exact ⟨rfl, HB4.out⟩

def szB (p : Int) (n : Nat) : Bool := decide (-100 ≤ p ∧ p ≤ 100) && decide (n ≤ 100)
theorem hasSize (s p : Int) (ao : Option Addr) (n cap : Nat) (w : World) :
    Calls Try.prog 76 #[.agg #[.int .i64 s, .int .i64 p, .slice ao n cap]] w fun e w' => e = .returned (.bool (szB p n)) ∧ Below w.heap.size w w' := by
  have HB := hid ((Below.refl w.heap.size w).alloc (Nat.le_refl _) (.cells #[.int .i64 s, .int .i64 p, .slice ao n cap] 40))
  have HW := hid (fun w => within64 p (-100) 100 w)
  by_cases h1 : -100 ≤ p ∧ p ≤ 100
  · have hd : decide (-100 ≤ p ∧ p ≤ 100) = true := decide_eq_true h1
    rw [hd] at HW
    by_cases h2 : n ≤ 100
    · have HF : Hid (szB p n = true) := hid (by simp [szB, h1, h2])
      have hd2 : decide ((n : Int) ≤ 100) = true := by simp; omega
      clear hd h1
      go_enter Try.func76, Try.ntmps76
      go_wp2_with (go_at_call 54; refine (HW.out _).mono ?_; rintro e w' ⟨rfl, rfl⟩)
      go_ret
      exact ⟨by rw [HF.out]; rfl, HB.out⟩
    · have HF : Hid (szB p n = false) := hid (by simp [szB, h2])
      have hd2 : decide ((n : Int) ≤ 100) = false := by simp; omega
      clear hd h1
      go_enter Try.func76, Try.ntmps76
      go_wp2_with (go_at_call 54; refine (HW.out _).mono ?_; rintro e w' ⟨rfl, rfl⟩)
      go_ret
      exact ⟨by rw [HF.out]; rfl, HB.out⟩
  · have hd : decide (-100 ≤ p ∧ p ≤ 100) = false := decide_eq_false h1
    have HF : Hid (szB p n = false) := hid (by rw [szB, hd]; rfl)
    rw [hd] at HW
    clear hd h1
    go_enter Try.func76, Try.ntmps76
    go_wp2_with (go_at_call 54; refine (HW.out _).mono ?_; rintro e w' ⟨rfl, rfl⟩)
    go_ret
    exact ⟨by rw [HF.out]; rfl, HB.out⟩
end Go.Proofs.Ytfechjhngcmdpab.vn

/- ValidNormal: both sides. -/
namespace Go.Proofs.Ytfechjhngcmdpab.vn
open Go.RowKit Go.Proofs.Ytfechjhngcmdpab.sl Go.Proofs.Ytfechjhngcmdpab.pm Go.Proofs.Ytfechjhngcmdpab.fn Go.Proofs.Ytfechjhngcmdpab.br Go.Proofs.Ytfechjhngcmdpab.ss Go.Proofs.Ytfechjhngcmdpab.nb Go.Proofs.Ytfechjhngcmdpab.ai
set_option linter.unusedVariables false

theorem head_eq (s p : Int) (rows : List (List Int)) : headB s p rows = (decide (0 ≤ s ∧ s ≤ 12) && szB p rows.length) := rfl
theorem row_len {s : Int} {r : List Int} (h : ¬ (r.length : Int) = s) : rowB s r = false := by simp [rowB, h]
theorem row_perm {s : Int} {r : List Int} (h : permB r = false) : rowB s r = false := by simp [rowB, h]
theorem row_id {s : Int} {r : List Int} (h : idB r = true) : rowB s r = false := by simp [rowB, h]
theorem row_ht {s : Int} {r : List Int} (h : htB r = true) : rowB s r = false := by simp [rowB, h]
theorem row_ok {s : Int} {r : List Int} (h1 : (r.length : Int) = s) (h2 : permB r = true) (h3 : idB r = false) (h4 : htB r = false) : rowB s r = true := by simp [rowB, h1, h2, h3, h4]
theorem pair_zero (rows : List (List Int)) : pairB rows 0 = true := rfl
theorem pair_pos (rows : List (List Int)) (k : Nat) (h : 0 < k) : pairB rows k = lwB (rows.getD (k - 1) []) (rows.getD k []) := by
  rw [pairB, decide_eq_false (by omega)]; rfl
theorem step_ok {s : Int} {rows : List (List Int)} {k : Nat} (h : rowB s (rows.getD k []) = true) (h2 : pairB rows k = true) : stepB s rows k = true := by rw [stepB, h, h2]; rfl

set_option maxRecDepth 100000 in
set_option maxHeartbeats 4000000 in
theorem implVN (s p : Int) (rows : List (List Int)) (f : Value) (B : Nat) (w : World) (ha : RowsC w B f rows) (hB : B ≤ w.heap.size) (hq : Small rows) :
    Calls Try.prog 42 #[.agg #[.int .i64 s, .int .i64 p, f]] w fun e w' => e = .returned (.bool (nvB s p rows)) ∧ Below w.heap.size w w' := by
  obtain ⟨ao, cap, hv⟩ := rows_val ha.rows
  obtain ⟨n, hnn⟩ : ∃ n, n = rows.length := ⟨_, rfl⟩
  have hn := hq.len
  rw [← hnn] at hv hn
  have HN := hid hnn
  subst hv
  have HR : Hid (RowsC (w.alloc (.cells #[.int .i64 s, .int .i64 p, .slice ao n cap] 40)) B (.slice ao n cap) rows) := hid (ha.chg (br.chg_alloc 0 0 w (.cells #[.int .i64 s, .int .i64 p, .slice ao n cap] 40)) (.inr (Nat.zero_le _)))
  have HSh := hid hq.short
  have HB0 := hid ((Below.refl w.heap.size w).alloc (Nat.le_refl _) (.cells #[.int .i64 s, .int .i64 p, .slice ao n cap] 40))
  have HZ := hid (fun W => hasSize s p ao n cap W)
  have HHd := hid (head_eq s p rows)
  rw [← hnn] at HHd
  clear ha hq hnn
  by_cases hs : 0 ≤ s ∧ s ≤ 12
  · have hsd : decide (0 ≤ s ∧ s ≤ 12) = true := decide_eq_true hs
    have HW := hid (fun W => within64 s 0 12 W)
    rw [hsd] at HW HHd
    have hs1 := hs.1
    have hs2 := hs.2
    clear hsd hs
    cases hz : szB p n
    · rw [hz] at HZ HHd
      have HF := hid (nv_head (s := s) (p := p) (rows := rows) HHd.out)
      clear hz
      go_enter Try.func42, Try.ntmps42
      go_wp2_with (first | (go_at_call 54; refine (HW.out _).mono ?_; rintro e w' ⟨rfl, rfl⟩) | (go_at_call 76; refine (HZ.out _).mono ?_; rintro e w1 ⟨rfl, b1⟩; have HB1 := hid (HB0.out.trans (b1.mono (by simp))); clear b1))
      go_ret
      exact ⟨by rw [HF.out]; rfl, HB1.out⟩
    · rw [hz] at HZ HHd
      have hh : headB s p rows = true := HHd.out
      clear hz HHd
      by_cases h2 : s < 2
      · have HF := hid (nv_small hh h2)
        rw [← HN.out] at HF
        clear hh
        have key : ∀ q : Bool, Hid (nvB s p rows = q) → Hid (q = (decide (p = 0) && decide (n = 0))) := fun q h => hid (h.out.symm.trans HF.out)
        by_cases hp : p = 0
        · subst hp
          by_cases hn0 : n = 0
          · have HF2 : Hid (nvB s 0 rows = true) := hid (by rw [HF.out]; simp [hn0])
            have hd : ((n : Int) == 0) = true := by simp [hn0]
            subst hn0
            clear key
            go_enter Try.func42, Try.ntmps42
            go_wp2_with (first | (go_at_call 54; refine (HW.out _).mono ?_; rintro e w' ⟨rfl, rfl⟩) | (go_at_call 76; refine (HZ.out _).mono ?_; rintro e w1 ⟨rfl, b1⟩; have HB1 := hid (HB0.out.trans (b1.mono (by simp))); obtain ⟨hc, _⟩ := bcell b1; have k0 := (hc w.heap.size 0 (by simp)).trans (World.cell?_alloc_at _ _ _ _ rfl); have k1 := (hc w.heap.size 1 (by simp)).trans (World.cell?_alloc_at _ _ _ _ rfl); have k2 := (hc w.heap.size 2 (by simp)).trans (World.cell?_alloc_at _ _ _ _ rfl); clear b1 hc))
            go_ret
            exact ⟨by rw [HF2.out]; rfl, HB1.out⟩
          · have HF2 : Hid (nvB s 0 rows = false) := hid (by rw [HF.out]; simp [hn0])
            have hd : ((n : Int) == 0) = false := by simp; omega
            clear key
            go_enter Try.func42, Try.ntmps42
            go_wp2_with (first | (go_at_call 54; refine (HW.out _).mono ?_; rintro e w' ⟨rfl, rfl⟩) | (go_at_call 76; refine (HZ.out _).mono ?_; rintro e w1 ⟨rfl, b1⟩; have HB1 := hid (HB0.out.trans (b1.mono (by simp))); obtain ⟨hc, _⟩ := bcell b1; have k0 := (hc w.heap.size 0 (by simp)).trans (World.cell?_alloc_at _ _ _ _ rfl); have k1 := (hc w.heap.size 1 (by simp)).trans (World.cell?_alloc_at _ _ _ _ rfl); have k2 := (hc w.heap.size 2 (by simp)).trans (World.cell?_alloc_at _ _ _ _ rfl); clear b1 hc))
            go_ret
            exact ⟨by rw [HF2.out]; rfl, HB1.out⟩
        · have HF2 : Hid (nvB s p rows = false) := hid (by rw [HF.out]; simp [hp])
          have hd : (p == 0) = false := by simpa using hp
          clear key hp
          go_enter Try.func42, Try.ntmps42
          go_wp2_with (first | (go_at_call 54; refine (HW.out _).mono ?_; rintro e w' ⟨rfl, rfl⟩) | (go_at_call 76; refine (HZ.out _).mono ?_; rintro e w1 ⟨rfl, b1⟩; have HB1 := hid (HB0.out.trans (b1.mono (by simp))); obtain ⟨hc, _⟩ := bcell b1; have k0 := (hc w.heap.size 0 (by simp)).trans (World.cell?_alloc_at _ _ _ _ rfl); have k1 := (hc w.heap.size 1 (by simp)).trans (World.cell?_alloc_at _ _ _ _ rfl); have k2 := (hc w.heap.size 2 (by simp)).trans (World.cell?_alloc_at _ _ _ _ rfl); clear b1 hc))
          go_ret
          exact ⟨by rw [HF2.out]; rfl, HB1.out⟩
      · have HF := hid (nv_big hh h2)
        have h2d : decide (s < 2) = false := decide_eq_false h2
        have HBad := hid (fun k => @all_bad s rows k)
        have HGood := hid (@all_good s rows)
        rw [← HN.out] at HBad HGood
        clear hh h2
        go_enter Try.func42, Try.ntmps42
        go_wp2_with (first | (go_at_call 54; refine (HW.out _).mono ?_; rintro e w' ⟨rfl, rfl⟩) | (go_at_call 76; refine (HZ.out _).mono ?_; rintro e w1 ⟨rfl, b1⟩; have HB1 := hid (HB0.out.trans (b1.mono (by simp))); have HBx := hid b1; obtain ⟨hc, _⟩ := bcell b1; have k0 := (hc w.heap.size 0 (by simp)).trans (World.cell?_alloc_at _ _ _ _ rfl); have k1 := (hc w.heap.size 1 (by simp)).trans (World.cell?_alloc_at _ _ _ _ rfl); have k2 := (hc w.heap.size 2 (by simp)).trans (World.cell?_alloc_at _ _ _ _ rfl); clear b1 hc))
        have hz1 : w.heap.size + 1 ≤ w1.heap.size := by have := HBx.out.size; simp at this; omega
        have HR1 := hid (HR.out.chg (Chg.ofBelow (lo := 0) HBx.out) (.inr (Nat.zero_le _)))
        have HK : Hid (w1.cell? ⟨w.heap.size, 0, none⟩ = some (.int .i64 s) ∧ w1.cell? ⟨w.heap.size, 2, none⟩ = some (.slice ao n cap)) := hid ⟨k0, k2⟩
        clear k0 k1 k2 HBx HR HZ HW
        go_loopw [29] (fun i wr => ∃ k : Nat, k ≤ n ∧ i = .int .i64 k ∧ (∀ j, j < k → stepB s rows j = true) ∧ Below w1.heap.size w1 wr) (fun i _ => n - (intOf i).toNat)
        case atStart => exact ⟨0, Nat.zero_le _, rfl, fun j hj => by omega, Below.refl _ _⟩
        case round =>
          obtain ⟨k, hk, rfl, hg, hbel⟩ := hrel
          have HG := hid hg
          have HBr := hid hbel
          have hzr := hbel.size
          have k0 : wr.cell? ⟨w.heap.size, 0, none⟩ = some (.int .i64 s) := (hbel.cell (p := ⟨w.heap.size, 0, none⟩) (by show w.heap.size < _; omega)).trans HK.out.1
          have HBw := hid (HB1.out.trans (hbel.mono (by omega)))
          have HRr := hid (HR1.out.chg (Chg.ofBelow (lo := 0) hbel) (.inr (Nat.zero_le _)))
          clear hg hbel
          by_cases hlt : k < n
          · have hx : ∃ b off x, ao = some ⟨b, off, none⟩ ∧ b < B ∧ wr.cell? ⟨b, off + k, none⟩ = some x ∧ Ints wr B x (rows.getD k []) ∧ (0 < k → ∃ y, wr.cell? ⟨b, off + (k - 1), none⟩ = some y ∧ Ints wr B y (rows.getD (k - 1) [])) := by
              rcases HRr.out with ⟨h, _⟩ | ⟨_, b, off, c, V, he, hb, hc⟩
              · have := HN.out; rw [h] at this; simp at this; omega
              · simp only [Value.slice.injEq] at he
                have h1 := hc k (by rw [← HN.out]; exact hlt)
                have h2 := hc (k - 1) (by rw [← HN.out]; omega)
                exact ⟨b, off, V k, he.1, hb, h1.1, h1.2.1, fun _ => ⟨V (k - 1), h2.1, h2.2.1⟩⟩
            obtain ⟨b, off, x, rfl, hbB, hx1, hx2, hx3⟩ := hx
            have HX2 := hid hx2
            have HX3 := hid hx3
            have hsh := HSh.out k (by rw [← HN.out]; exact hlt)
            obtain ⟨ax, cx, hxv⟩ := br.ints_val hx2
            have HBd := hid (HBad.out k hlt)
            have HRow := hid (fun h => step_row (s := s) (rows := rows) (k := k) h)
            clear hx2 hx3
            generalize hr : rows.getD k [] = row at *
            have HRo := hid hr
            obtain ⟨l, hl⟩ : ∃ l, l = row.length := ⟨_, rfl⟩
            rw [← hl] at hxv hsh
            have HLn := hid hl
            have HLr := hid (fun h => row_len (s := s) (r := row) h)
            rw [← hl] at HLr
            clear hr hl
            subst hxv
            by_cases hls : (l : Int) = s
            · have hls2 : ((l : Int) == s) = true := by simpa using hls
              have hls3 : ((l : Int) != s) = false := by simpa using hls
              have HLs := hid hls
              clear hls
              have HV := hid (implOk row _ B wr HX2.out (by omega) (by rw [← HLn.out]; exact hsh))
              cases hpm : permB row
              · rw [hpm] at HV
                have HF2 := hid (HBd.out (HRow.out (row_perm hpm)))
                clear hpm
                go_wp2_with (go_at_call 77; refine HV.out.mono ?_; rintro e w3 ⟨rfl, b3⟩; have HB3 := hid (HBw.out.trans (b3.mono (by omega))); clear b3)
                go_ret
                exact ⟨by rw [HF.out, HF2.out]; rfl, HB3.out⟩
              · rw [hpm] at HV
                have HPm := hid hpm
                clear hpm
                go_wp2_with fail
                refine HV.out.mono ?_
                rintro e w3 ⟨rfl, b3⟩
                have hz3 := b3.size
                have HBw3 := hid (HBw.out.trans (b3.mono (by omega)))
                have HQ3 := hid b3
                have HBr3 := hid (HBr.out.trans (b3.mono hzr))
                have HX3a := hid (HX2.out.chg (Chg.ofBelow (lo := 0) b3) (.inr (Nat.zero_le _)))
                clear b3 HV
                have l12 : row.length ≤ 12 := by rw [← HLn.out]; have := HLs.out; omega
                cases hid1 : idB row
                case' true =>
                  have HI := hid (isId row true hid1 _ B w3 HX3a.out (by omega) l12)
                  have HF2 := hid (HBd.out (HRow.out (row_id hid1)))
                  clear hid1
                  go_wp2_with (go_at_call 78; refine HI.out.mono ?_; rintro e w4 ⟨rfl, b4⟩; have HB4 := hid (HBw3.out.trans (b4.mono (by omega))); clear b4)
                  go_ret
                  exact ⟨by rw [HF.out, HF2.out]; rfl, HB4.out⟩
                have HI := hid (isId row false hid1 _ B w3 HX3a.out (by omega) l12)
                have HId := hid hid1
                clear hid1
                go_wp2_with fail
                refine HI.out.mono ?_
                rintro e w4 ⟨rfl, b4⟩
                have hz4 := b4.size
                have HBw4 := hid (HBw3.out.trans (b4.mono (by omega)))
                have HQ4 := hid (HQ3.out.trans (b4.mono hz3))
                have HBr4 := hid (HBr3.out.trans (b4.mono (by omega)))
                have HX4a := hid (HX3a.out.chg (Chg.ofBelow (lo := 0) b4) (.inr (Nat.zero_le _)))
                clear b4 HI
                cases ht1 : htB row
                case' true =>
                  have HT := hid (isHt row true ht1 _ B w4 HX4a.out (by omega) l12)
                  have HF2 := hid (HBd.out (HRow.out (row_ht ht1)))
                  clear ht1
                  go_wp2_with (go_at_call 79; refine HT.out.mono ?_; rintro e w5 ⟨rfl, b5⟩; have HB5 := hid (HBw4.out.trans (b5.mono (by omega))); clear b5)
                  go_ret
                  exact ⟨by rw [HF.out, HF2.out]; rfl, HB5.out⟩
                have HT := hid (isHt row false ht1 _ B w4 HX4a.out (by omega) l12)
                have HHt := hid ht1
                clear ht1
                go_wp2_with fail
                refine HT.out.mono ?_
                rintro e w5 ⟨rfl, b5⟩
                have hz5 := b5.size
                have HBw5 := hid (HBw4.out.trans (b5.mono (by omega)))
                have HQ5 := hid (HQ4.out.trans (b5.mono (by omega)))
                have HBr5 := hid (HBr4.out.trans (b5.mono (by omega)))
                have HX5a := hid (HX4a.out.chg (Chg.ofBelow (lo := 0) b5) (.inr (Nat.zero_le _)))
                clear b5 HT
                have HRk := hid (row_ok (s := s) (by rw [← HLn.out]; exact HLs.out) HPm.out HId.out HHt.out)
                by_cases hk0 : k = 0
                · subst hk0
                  have HSt : Hid (stepB s rows 0 = true) := hid (step_ok (by rw [HRo.out]; exact HRk.out) (pair_zero rows))
                  clear HX3 HX5a
                  go_wp2
                  go_roundw
                  case rel => exact ⟨1, by omega, by go_num, (fun j hj => by
                    have h0 : j = 0 := by omega
                    subst h0
                    exact HSt.out), HBr5.out⟩
                  case measure => simp [intOf]; omega
                · obtain ⟨y, hy1, hy2⟩ := HX3.out (by omega)
                  obtain ⟨m, rfl⟩ : ∃ m, k = m + 1 := ⟨k - 1, by omega⟩
                  rw [Nat.add_sub_cancel] at hy1 hy2
                  have hP := row_parts (step_yes (HG.out m (by omega)))
                  have hy3 : w5.cell? ⟨b, off + m, none⟩ = some y := (HQ5.out.cell (p := ⟨b, off + m, none⟩) (by show b < _; omega)).trans hy1
                  have kk2 : w5.cell? ⟨w.heap.size, 2, none⟩ = some (.slice (some ⟨b, off, none⟩) n cap) := (HBr5.out.cell (p := ⟨w.heap.size, 2, none⟩) (by show w.heap.size < _; omega)).trans HK.out.2
                  have hlp : (rows.getD m []).length = row.length := by have := hP.1; have := HLs.out; have := HLn.out; omega
                  have HL := hid (implIsLeft (rows.getD m []) row y _ B B w5 (hy2.chg (Chg.ofBelow (lo := 0) HQ5.out) (.inr (Nat.zero_le _))) HX5a.out (by omega) (by omega) (by omega) (by omega) (perm_places hP.2.1) hlp)
                  have HPr : Hid (pairB rows (m + 1) = lwB (rows.getD m []) row) := hid (by rw [pair_pos rows (m + 1) (by omega), HRo.out]; rfl)
                  have HStep := hid (fun h => step_pair (s := s) (rows := rows) (k := m + 1) h)
                  obtain ⟨ay, cy, hyv⟩ := br.ints_val hy2
                  generalize (rows.getD m []).length = ly at *
                  subst hyv
                  clear HX3 HX5a hy1 hy2 hP hlp
                  cases hlw : lwB (rows.getD m []) row
                  · rw [hlw] at HL HPr
                    have HF2 := hid (HBd.out (HStep.out HPr.out))
                    clear hlw
                    go_wp2_with (go_at_call 80; refine HL.out.mono ?_; rintro e w6 ⟨rfl, b6⟩; have HB6 := hid (HBw5.out.trans (b6.mono (by omega))); clear b6)
                    go_ret
                    exact ⟨by rw [HF.out, HF2.out]; rfl, HB6.out⟩
                  · rw [hlw] at HL HPr
                    have HSt : Hid (stepB s rows (m + 1) = true) := hid (step_ok (by rw [HRo.out]; exact HRk.out) HPr.out)
                    clear hlw
                    go_wp2_with (go_at_call 80; refine HL.out.mono ?_; rintro e w6 ⟨rfl, b6⟩; have HB6 := hid (HBr5.out.trans (b6.mono (by omega))); clear b6)
                    go_roundw
                    case rel => exact ⟨m + 1 + 1, by omega, by go_num, fun j hj => by
                      rcases Nat.lt_or_ge j (m + 1) with h | h
                      · exact HG.out j h
                      · obtain rfl : j = m + 1 := by omega
                        exact HSt.out, HB6.out⟩
                    case measure => simp [intOf]; omega
            · have hls2 : ((l : Int) == s) = false := by simpa using hls
              have hls3 : ((l : Int) != s) = true := by simpa using hls
              have HF2 := hid (HBd.out (HRow.out (HLr.out hls)))
              clear hls
              go_wp2
              go_ret
              exact ⟨by rw [HF.out, HF2.out]; rfl, HBw.out⟩
          · obtain rfl : k = n := by omega
            have HF2 := hid (HGood.out HG.out)
            go_wp2
            go_ret
            exact ⟨by rw [HF.out, HF2.out]; rfl, HBw.out⟩
  · have hsd : decide (0 ≤ s ∧ s ≤ 12) = false := decide_eq_false hs
    have HW := hid (fun W => within64 s 0 12 W)
    rw [hsd] at HW HHd
    have HF := hid (nv_head (s := s) (p := p) (rows := rows) HHd.out)
    clear hsd hs
    go_enter Try.func42, Try.ntmps42
    go_wp2_with (go_at_call 54; refine (HW.out _).mono ?_; rintro e w' ⟨rfl, rfl⟩)
    go_ret
    exact ⟨by rw [HF.out]; rfl, HB0.out⟩
end Go.Proofs.Ytfechjhngcmdpab.vn

/- ValidNormal: the model. -/
namespace Go.Proofs.Ytfechjhngcmdpab.vn
open Go.RowKit Go.Proofs.Ytfechjhngcmdpab.sl Go.Proofs.Ytfechjhngcmdpab.pm Go.Proofs.Ytfechjhngcmdpab.fn Go.Proofs.Ytfechjhngcmdpab.br Go.Proofs.Ytfechjhngcmdpab.ss Go.Proofs.Ytfechjhngcmdpab.nb Go.Proofs.Ytfechjhngcmdpab.ai
set_option linter.unusedVariables false

theorem is_id (r : List Int) (l : Nat) (h : l = r.length) : sameB r (ids l) = idB r := by subst h; rfl
theorem is_ht (r : List Int) (l : Nat) (h : l = r.length) : sameB r (halfL l) = htB r := by subst h; rfl
theorem head_1 {s p : Int} {rows : List (List Int)} (h : ¬ (0 ≤ s ∧ s ≤ 12)) : nvB s p rows = false := nv_head (by rw [headB, decide_eq_false h]; rfl)
theorem head_2 {s p : Int} {rows : List (List Int)} (h : ¬ (-100 ≤ p ∧ p ≤ 100)) : nvB s p rows = false := nv_head (by simp [headB, h])
theorem head_3 {s p : Int} {rows : List (List Int)} (h : ¬ rows.length ≤ 100) : nvB s p rows = false := nv_head (by simp [headB, h])
theorem head_4 {s p : Int} {rows : List (List Int)} (h1 : 0 ≤ s ∧ s ≤ 12) (h2 : -100 ≤ p ∧ p ≤ 100) (h3 : rows.length ≤ 100) : headB s p rows = true := by simp [headB, h1, h2, h3]

set_option maxRecDepth 100000 in
set_option maxHeartbeats 4000000 in
theorem specOkN (s p : Int) (rows : List (List Int)) (g : Nat) (f : Value) (B : Nat) (w : World) (ha : RowsC w B f rows) (hB : B ≤ w.heap.size) (hg : g < w.heap.size) (c0 : w.cell? ⟨g, 0, none⟩ = some (.int .i64 s)) (c1 : w.cell? ⟨g, 1, none⟩ = some (.int .i64 p)) (c2 : w.cell? ⟨g, 2, none⟩ = some f) (hq : Small rows) :
    Calls Try.prog 38 #[.pointer (some ⟨g, 0, none⟩)] w fun e w' => e = .returned (.bool (nvB s p rows)) ∧ Below w.heap.size w w' := by
  obtain ⟨ao, cap, hv⟩ := rows_val ha.rows
  obtain ⟨n, hnn⟩ : ∃ n, n = rows.length := ⟨_, rfl⟩
  have hn := hq.len
  rw [← hnn] at hv hn
  have HN := hid hnn
  subst hv
  have HR := hid ha
  have HSh := hid hq.short
  have H3 := hid (@head_3 s p rows)
  have H4 := hid (@head_4 s p rows)
  rw [← hnn] at H3 H4
  have HCs := hid (And.intro c0 (And.intro c1 c2))
  clear ha hq hnn
  by_cases hs : 0 ≤ s ∧ s ≤ 12
  · have HI1 := hid (fun W => specIn s 0 12 W)
    rw [decide_eq_true hs] at HI1
    have hs1 := hs.1
    have hs2 := hs.2
    by_cases hp : -100 ≤ p ∧ p ≤ 100
    · have HI2 := hid (fun W => specIn p (-100) 100 W)
      rw [decide_eq_true hp] at HI2
      by_cases h100 : n ≤ 100
      · have hh := H4.out hs hp h100
        have hd100 : decide ((100 : Int) < (n : Int)) = false := by simp; omega
        clear hs hp h100 H3 H4
        by_cases h2 : s < 2
        · have HF := hid (nv_small hh h2)
          rw [← HN.out] at HF
          by_cases hp0 : p = 0
          · by_cases hn0 : n = 0
            · have HF2 : Hid (nvB s p rows = true) := hid (by rw [HF.out]; simp [hn0, hp0])
              subst hn0 hp0
              clear hh
              go_enter Try.func38, Try.ntmps38
              go_wp2_with (go_at_call 49; first | (with_reducible refine (HI1.out _).mono ?_; rintro e w' ⟨rfl, rfl⟩) | (with_reducible refine (HI2.out _).mono ?_; rintro e w' ⟨rfl, rfl⟩))
              refine wp_loop_rounds 1 ?_
              rw [rounds_succ]
              go_wp2
              go_ret
              exact ⟨by rw [HF2.out]; rfl, Below.refl _ _⟩
            · have HF2 : Hid (nvB s p rows = false) := hid (by rw [HF.out]; simp [hn0])
              have hd0 : decide ((0 : Int) < (n : Int)) = true := by simp; omega
              subst hp0
              clear hh
              go_enter Try.func38, Try.ntmps38
              go_wp2_with (go_at_call 49; first | (with_reducible refine (HI1.out _).mono ?_; rintro e w' ⟨rfl, rfl⟩) | (with_reducible refine (HI2.out _).mono ?_; rintro e w' ⟨rfl, rfl⟩))
              go_ret
              exact ⟨by rw [HF2.out]; rfl, Below.refl _ _⟩
          · have HF2 : Hid (nvB s p rows = false) := hid (by rw [HF.out]; simp [hp0])
            have hd0 : (p == 0) = false := by simpa using hp0
            have hd1 : (p != 0) = true := by simpa using hp0
            clear hh hp0
            go_enter Try.func38, Try.ntmps38
            go_wp2_with (go_at_call 49; first | (with_reducible refine (HI1.out _).mono ?_; rintro e w' ⟨rfl, rfl⟩) | (with_reducible refine (HI2.out _).mono ?_; rintro e w' ⟨rfl, rfl⟩))
            go_ret
            exact ⟨by rw [HF2.out]; rfl, Below.refl _ _⟩
        · have HF := hid (nv_big hh h2)
          have h2d : decide (s < 2) = false := decide_eq_false h2
          have HBad := hid (fun k => @all_bad s rows k)
          have HGood := hid (@all_good s rows)
          rw [← HN.out] at HBad HGood
          clear hh h2
          go_enter Try.func38, Try.ntmps38
          go_wp2_with (go_at_call 49; first | (with_reducible refine (HI1.out _).mono ?_; rintro e w' ⟨rfl, rfl⟩) | (with_reducible refine (HI2.out _).mono ?_; rintro e w' ⟨rfl, rfl⟩))
          clear c0 c1 c2 HI1 HI2
          go_loopw [3] (fun i wr => ∃ k : Nat, k ≤ n ∧ i = .int .i64 k ∧ (∀ j, j < k → stepB s rows j = true) ∧ Below w.heap.size w wr) (fun i _ => n - (intOf i).toNat)
          case atStart => exact ⟨0, Nat.zero_le _, rfl, fun j hj => by omega, Below.refl _ _⟩
          case round =>
            obtain ⟨k, hk, rfl, hgd, hbel⟩ := hrel
            have HG := hid hgd
            have HBw := hid hbel
            have hzr := hbel.size
            have k0 : wr.cell? ⟨g, 0, none⟩ = some (.int .i64 s) := (hbel.cell (p := ⟨g, 0, none⟩) hg).trans HCs.out.1
            have k2 : wr.cell? ⟨g, 2, none⟩ = some (.slice ao n cap) := (hbel.cell (p := ⟨g, 2, none⟩) hg).trans HCs.out.2.2
            have HRr := hid (HR.out.chg (Chg.ofBelow (lo := 0) hbel) (.inr (Nat.zero_le _)))
            clear hgd hbel
            by_cases hlt : k < n
            · have hx : ∃ b off x, ao = some ⟨b, off, none⟩ ∧ b < B ∧ wr.cell? ⟨b, off + k, none⟩ = some x ∧ Ints wr B x (rows.getD k []) ∧ CapOk x ∧ (0 < k → ∃ y, wr.cell? ⟨b, off + (k - 1), none⟩ = some y ∧ Ints wr B y (rows.getD (k - 1) [])) := by
                rcases HRr.out with ⟨h, _⟩ | ⟨_, b, off, c, V, he, hb, hc⟩
                · have := HN.out; rw [h] at this; simp at this; omega
                · simp only [Value.slice.injEq] at he
                  have h1 := hc k (by rw [← HN.out]; exact hlt)
                  have h2 := hc (k - 1) (by rw [← HN.out]; omega)
                  exact ⟨b, off, V k, he.1, hb, h1.1, h1.2.1, h1.2.2, fun _ => ⟨V (k - 1), h2.1, h2.2.1⟩⟩
              obtain ⟨b, off, x, rfl, hbB, hx1, hx2, hx4, hx3⟩ := hx
              have HX2 := hid hx2
              have HX3 := hid hx3
              have HX4 := hid hx4
              have hsh := HSh.out k (by rw [← HN.out]; exact hlt)
              obtain ⟨ax, cx, hxv⟩ := br.ints_val hx2
              have HBd := hid (HBad.out k hlt)
              have HRow := hid (fun h => step_row (s := s) (rows := rows) (k := k) h)
              clear hx2 hx3 hx4
              generalize hr : rows.getD k [] = row at *
              have HRo := hid hr
              obtain ⟨l, hl⟩ : ∃ l, l = row.length := ⟨_, rfl⟩
              rw [← hl] at hxv hsh
              have HLn := hid hl
              have HLr := hid (fun h => row_len (s := s) (r := row) h)
              rw [← hl] at HLr
              clear hr hl
              subst hxv
              by_cases hls : (l : Int) = s
              · have HLs := hid hls
                have hls2 : ((l : Int) == s) = true := by simpa using hls
                have hls3 : ((l : Int) != s) = false := by simpa using hls
                clear hls
                have HV := hid (specPerm4 row _ B wr HX2.out (by rw [← HLn.out]; exact hsh) HX4.out)
                cases hpm : permB row
                · rw [hpm] at HV
                  have HF2 := hid (HBd.out (HRow.out (row_perm hpm)))
                  clear hpm
                  go_wp2_with (go_at_call 69; refine HV.out.mono ?_; rintro e w3 ⟨rfl, b3⟩; have HB3 := hid (HBw.out.trans (b3.mono (by omega))); clear b3)
                  go_ret
                  exact ⟨by rw [HF.out, HF2.out]; rfl, HB3.out⟩
                · rw [hpm] at HV
                  have HPm := hid hpm
                  clear hpm
                  go_wp2_with (go_at_call 69; refine HV.out.mono ?_; rintro e w3 ⟨rfl, b3⟩; have hz3 := b3.size; have HQ3 := hid b3; have k03 := (b3.cell (p := ⟨g, 0, none⟩) (by show g < _; omega)).trans k0; clear b3)
                  have HBw3 := hid (HBw.out.trans (HQ3.out.mono (by omega)))
                  have HX3a := hid (HX2.out.chg (Chg.ofBelow (lo := 0) HQ3.out) (.inr (Nat.zero_le _)))
                  have hl12 : l ≤ 12 := by have := HLs.out; omega
                  have HIt := hid (specIdent l w3 (by omega))
                  rw [HLs.out] at HIt
                  refine HIt.out.mono ?_
                  rintro e w4 ⟨v4, rfl, o4, b4⟩
                  have hz4 := b4.size
                  have HQ4 := hid (HQ3.out.trans (b4.mono hz3))
                  have HX4a := hid (HX3a.out.chg (Chg.ofBelow (lo := 0) b4) (.inr (Nat.zero_le _)))
                  have k04 := (b4.cell (p := ⟨g, 0, none⟩) (by show g < _; omega)).trans k03
                  have HO4 := hid o4
                  clear o4 b4 HIt HV
                  have HIs := hid (fun r hr => specIsQ row (ids l) r hr _ v4 B w4.heap.size w4 HX4a.out HO4.out.ints (by rw [← HLn.out]; omega) (by rw [ids_len]; omega))
                  cases hid1 : idB row
                  case' true =>
                    have HI := hid (HIs.out true ((is_id row l HLn.out).trans hid1))
                    have HF2 := hid (HBd.out (HRow.out (row_id hid1)))
                    have HB4 := hid (HBw.out.trans (HQ4.out.mono (by omega)))
                    clear hid1 HIs
                    go_wp2_with (go_at_call 70; refine HI.out.mono ?_; rintro e w5 ⟨rfl, q5, rfl⟩)
                    go_ret
                    exact ⟨by rw [HF.out, HF2.out]; rfl, bdrewN HB4.out _⟩
                  have HI := hid (HIs.out false ((is_id row l HLn.out).trans hid1))
                  have HId := hid hid1
                  clear hid1 HIs
                  go_wp2_with (go_at_call 70; refine HI.out.mono ?_; rintro e w5 ⟨rfl, q5, rfl⟩; have k05 : (w4.drewN q5).cell? ⟨g, 0, none⟩ = some (.int .i64 s) := k04)
                  have HHf := hid (specHalf l (w4.drewN q5) (by omega))
                  rw [HLs.out] at HHf
                  refine HHf.out.mono ?_
                  rintro e w6 ⟨v6, rfl, o6, b6⟩
                  have hz6 : w4.heap.size ≤ w6.heap.size := b6.size
                  have HQ6 : Hid (Below wr.heap.size wr w6) := hid ((bdrewN HQ4.out q5).trans (b6.mono (by show wr.heap.size ≤ w4.heap.size; omega)))
                  have HX6a : Hid (Ints w6 B (.slice ax l cx) row) := hid (HX2.out.chg (Chg.ofBelow (lo := 0) HQ6.out) (.inr (Nat.zero_le _)))
                  have HO6 := hid o6
                  clear o6 b6 HHf HI HO4
                  have HIs2 := hid (fun r hr => specIsQ row (halfL l) r hr _ v6 B w6.heap.size w6 HX6a.out HO6.out.ints (by rw [← HLn.out]; omega) (by rw [halfL_len]; omega))
                  cases ht1 : htB row
                  case' true =>
                    have HT := hid (HIs2.out true ((is_ht row l HLn.out).trans ht1))
                    have HF2 := hid (HBd.out (HRow.out (row_ht ht1)))
                    have HB6 := hid (HBw.out.trans (HQ6.out.mono (by omega)))
                    clear ht1 HIs2
                    go_wp2_with (go_at_call 70; refine HT.out.mono ?_; rintro e w7 ⟨rfl, q7, rfl⟩)
                    go_ret
                    exact ⟨by rw [HF.out, HF2.out]; rfl, bdrewN HB6.out _⟩
                  have HT := hid (HIs2.out false ((is_ht row l HLn.out).trans ht1))
                  have HHt := hid ht1
                  clear ht1 HIs2
                  have HRk := hid (row_ok (s := s) (by rw [← HLn.out]; exact HLs.out) HPm.out HId.out HHt.out)
                  have HB6 := hid (HBw.out.trans (HQ6.out.mono (by omega)))
                  by_cases hk0 : k = 0
                  · subst hk0
                    have HSt : Hid (stepB s rows 0 = true) := hid (step_ok (by rw [HRo.out]; exact HRk.out) (pair_zero rows))
                    clear HX3
                    go_wp2_with (go_at_call 70; refine HT.out.mono ?_; rintro e w7 ⟨rfl, q7, rfl⟩)
                    go_roundw
                    case rel => exact ⟨1, by omega, by go_num, (fun j hj => by
                      have h0 : j = 0 := by omega
                      subst h0
                      exact HSt.out), bdrewN HB6.out _⟩
                    case measure => simp [intOf]; omega
                  · obtain ⟨y, hy1, hy2⟩ := HX3.out (by omega)
                    obtain ⟨m, rfl⟩ : ∃ m, k = m + 1 := ⟨k - 1, by omega⟩
                    rw [Nat.add_sub_cancel] at hy1 hy2
                    have hP := row_parts (step_yes (HG.out m (by omega)))
                    have HY3 : Hid (w6.cell? ⟨b, off + m, none⟩ = some y) := hid ((HQ6.out.cell (p := ⟨b, off + m, none⟩) (by show b < _; omega)).trans hy1)
                    have HK2 : Hid (w6.cell? ⟨g, 2, none⟩ = some (.slice (some ⟨b, off, none⟩) n cap)) := hid ((HQ6.out.cell (p := ⟨g, 2, none⟩) (by show g < _; omega)).trans k2)
                    have hlp : (rows.getD m []).length = row.length := by have := hP.1; have := HLs.out; have := HLn.out; omega
                    have HYi : Ints w6 B y (rows.getD m []) := hy2.chg (Chg.ofBelow (lo := 0) HQ6.out) (.inr (Nat.zero_le _))
                    have HEx := hid (fun q => specExtra (rows.getD m []) row y (.slice ax l cx) B B (w6.drewN q) HYi HX6a.out (by show B ≤ w6.heap.size; omega) (by show B ≤ w6.heap.size; omega) (by omega) (by omega) (perm_places hP.2.1))
                    have HLw := hid (ex_lw (p := rows.getD m []) (q := row) (by rw [bothB, hP.2.1, HPm.out, decide_eq_true hlp]; rfl))
                    have HPr : Hid (pairB rows (m + 1) = lwB (rows.getD m []) row) := hid (by rw [pair_pos rows (m + 1) (by omega), HRo.out]; rfl)
                    have HStep := hid (fun h => step_pair (s := s) (rows := rows) (k := m + 1) h)
                    obtain ⟨ay, cy, hyv⟩ := br.ints_val hy2
                    generalize (rows.getD m []).length = ly at *
                    subst hyv
                    clear HX3 hy1 hy2 hP hlp HYi
                    generalize exL (rows.getD m []) row = z at *
                    by_cases hz : z = 0
                    · have HSt : Hid (stepB s rows (m + 1) = true) := hid (step_ok (by rw [HRo.out]; exact HRk.out) (by rw [HPr.out, ← HLw.out]; simpa using hz))
                      subst hz
                      go_wp2_with (first | (go_at_call 70; refine HT.out.mono ?_; rintro e w7 ⟨rfl, q7, rfl⟩; have kk2 : (w6.drewN q7).cell? ⟨g, 2, none⟩ = some (.slice (some ⟨b, off, none⟩) n cap) := HK2.out; have kky : (w6.drewN q7).cell? ⟨b, off + m, none⟩ = some (.slice ay ly cy) := HY3.out) | (go_at_call 72; refine (HEx.out _).mono ?_; rintro e w8 ⟨rfl, b8⟩; have HB8 := hid ((bdrewN HB6.out _).trans (b8.mono (by show w.heap.size ≤ w6.heap.size; omega))); clear b8))
                      go_roundw
                      case rel => exact ⟨m + 1 + 1, by omega, by go_num, (fun j hj => by
                        rcases Nat.lt_or_ge j (m + 1) with h | h
                        · exact HG.out j h
                        · have h0 : j = m + 1 := by omega
                          subst h0
                          exact HSt.out), HB8.out⟩
                      case measure => simp [intOf]; omega
                    · have HF2 := hid (HBd.out (HStep.out (by rw [HPr.out, ← HLw.out]; simpa using hz)))
                      have hd0 : (z == 0) = false := by simpa using hz
                      have hd1 : (z != 0) = true := by simpa using hz
                      clear hz
                      go_wp2_with (first | (go_at_call 70; refine HT.out.mono ?_; rintro e w7 ⟨rfl, q7, rfl⟩; have kk2 : (w6.drewN q7).cell? ⟨g, 2, none⟩ = some (.slice (some ⟨b, off, none⟩) n cap) := HK2.out; have kky : (w6.drewN q7).cell? ⟨b, off + m, none⟩ = some (.slice ay ly cy) := HY3.out) | (go_at_call 72; refine (HEx.out _).mono ?_; rintro e w8 ⟨rfl, b8⟩; have HB8 := hid ((bdrewN HB6.out _).trans (b8.mono (by show w.heap.size ≤ w6.heap.size; omega))); clear b8))
                      go_ret
                      exact ⟨by rw [HF.out, HF2.out]; rfl, HB8.out⟩
              · have hls2 : ((l : Int) == s) = false := by simpa using hls
                have hls3 : ((l : Int) != s) = true := by simpa using hls
                have HF2 := hid (HBd.out (HRow.out (HLr.out hls)))
                clear hls
                go_wp2
                go_ret
                exact ⟨by rw [HF.out, HF2.out]; rfl, HBw.out⟩
            · obtain rfl : k = n := by omega
              have HF2 := hid (HGood.out HG.out)
              go_wp2
              go_ret
              exact ⟨by rw [HF.out, HF2.out]; rfl, HBw.out⟩
      · have HF := hid (H3.out h100)
        have hd100 : decide ((100 : Int) < (n : Int)) = true := by simp; omega
        clear hs hp h100 H3 H4
        go_enter Try.func38, Try.ntmps38
        go_wp2_with (go_at_call 49; first | (with_reducible refine (HI1.out _).mono ?_; rintro e w' ⟨rfl, rfl⟩) | (with_reducible refine (HI2.out _).mono ?_; rintro e w' ⟨rfl, rfl⟩))
        go_ret
        exact ⟨by rw [HF.out]; rfl, Below.refl _ _⟩
    · have HF := hid (head_2 (s := s) (rows := rows) hp)
      have HI2 := hid (fun W => specIn p (-100) 100 W)
      rw [decide_eq_false hp] at HI2
      clear hs hp H3 H4
      go_enter Try.func38, Try.ntmps38
      go_wp2_with (go_at_call 49; first | (with_reducible refine (HI1.out _).mono ?_; rintro e w' ⟨rfl, rfl⟩) | (with_reducible refine (HI2.out _).mono ?_; rintro e w' ⟨rfl, rfl⟩))
      go_ret
      exact ⟨by rw [HF.out]; rfl, Below.refl _ _⟩
  · have HF := hid (head_1 (p := p) (rows := rows) hs)
    have HI1 := hid (fun W => specIn s 0 12 W)
    rw [decide_eq_false hs] at HI1
    clear hs H3 H4
    go_enter Try.func38, Try.ntmps38
    go_wp2_with (go_at_call 49; refine (HI1.out _).mono ?_; rintro e w' ⟨rfl, rfl⟩)
    go_ret
    exact ⟨by rw [HF.out]; rfl, Below.refl _ _⟩

end Go.Proofs.Ytfechjhngcmdpab.vn
