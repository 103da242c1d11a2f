/-
  Columns that stitches take and make: mathematics; the model's lists of them.
-/
import Derived.Test.YtbbnheiibkcgiaaDoorRl2
import Derived.Test.YtbbnheiibkcgiaaDoorSrx
namespace Go.Proofs.YtbbnheiibkcgiaaDoor.la
open Go.RowKit Go.Proofs.YtbbnheiibkcgiaaDoor.sl Go.Proofs.YtbbnheiibkcgiaaDoor.pm Go.Proofs.YtbbnheiibkcgiaaDoor.br Go.Proofs.YtbbnheiibkcgiaaDoor.bw Go.Proofs.YtbbnheiibkcgiaaDoor.st Go.Proofs.YtbbnheiibkcgiaaDoor.wk Go.Proofs.YtbbnheiibkcgiaaDoor.rl
set_option linter.unusedVariables false
set_option maxRecDepth 100000

/-- The columns of the first k stitches, numbered from left to right. -/
def numL (f : Int → Int) (xs : List Int) (k : Nat) : List (List Int) := (List.range k).map fun i => sl.marks (sF f xs i) (f (xs.getD i 0)).toNat
theorem numL_zero (f : Int → Int) (xs : List Int) : numL f xs 0 = [] := rfl
theorem numL_succ (f : Int → Int) (xs : List Int) (k : Nat) : numL f xs (k + 1) = numL f xs k ++ [sl.marks (sF f xs k) (f (xs.getD k 0)).toNat] := by simp [numL, List.range_succ]
theorem numL_len (f : Int → Int) (xs : List Int) (k : Nat) : (numL f xs k).length = k := by simp [numL]
theorem numL_at (f : Int → Int) (xs : List Int) (k j : Nat) (h : j < k) : (numL f xs k).getD j [] = sl.marks (sF f xs j) (f (xs.getD j 0)).toNat := by simp [numL, List.getD, h]
theorem marks_succ (t : Int) (j : Nat) : sl.marks t (j + 1) = sl.marks t j ++ [t + (j : Int)] := by simp [sl.marks, List.range_succ]
theorem la_pos {xs : List Int} (h : laQ xs = true) : 0 < xs.length := by
  rcases Nat.eq_zero_or_pos xs.length with h0 | h0
  · obtain rfl := List.length_eq_zero_iff.1 h0
    exact absurd h (by decide)
  · exact h0

theorem specCount (t : Int) (n : Nat) (ht : 0 ≤ t ∧ t ≤ 1000) (hn : n ≤ 1000) (w : World) :
    Calls Tryd.prog 59 #[.int .i64 t, .int .i64 n] w fun e w' => ∃ v', e = .returned v' ∧ Own w' w.heap.size w'.heap.size v' (sl.marks t n) ∧ Below w.heap.size w w' := by
  have HS0 := hid (Own.built w #[] rfl)
  go_enter Tryd.func59, Tryd.ntmps59
  go_wp2
  go_loopw [5, 6] (fun s i wr => ∃ (k : Nat) (z : Value), k ≤ n ∧ s = z ∧ i = .int .i64 k ∧ Own wr w.heap.size wr.heap.size z (sl.marks t k) ∧ Below w.heap.size w wr) (fun _ i _ => n - (intOf i).toNat)
  case atStart => exact ⟨0, _, Nat.zero_le _, rfl, rfl, HS0.out, (Below.refl w.heap.size w).alloc (Nat.le_refl _) _⟩
  case round =>
    obtain ⟨k, z, hk, rfl, rfl, hown, hbel⟩ := hrel
    have HO := hid hown
    have HB := hid hbel
    have hsz := hbel.size
    clear hown hbel
    by_cases hlt : k < n
    · have HX := hid (marks_succ t k)
      have hml := sl.marks_len t k
      generalize sl.marks t k = L at *
      have e1 : IntKind.i64.wrap (t + (k : Int)) = t + (k : Int) := IntWalk.i64_in _ (by omega)
      have hd : decide ((k : Int) < (n : Int)) = true := decide_eq_true (by omega)
      go_wp2_with (at_builtin; refine wp_append rfl _ _ rfl w.heap.size _ _ L (t + (k : Int)) HO.out rfl rfl hsz (by omega) ?_; intro v9 w9 hown1 hchg1 hsz1; have HO1 := hid hown1; have HB1 := hid (HB.out.trans (hchg1.below (Nat.le_refl _) hsz)); clear hown1 hchg1)
      go_roundw
      case rel => exact ⟨k + 1, _, by omega, rfl, by go_num, by rw [HX.out]; exact HO1.out, HB1.out⟩
      case measure => simp [intOf]; omega
    · obtain rfl : k = n := by omega
      go_wp2
      go_ret
      exact ⟨_, rfl, HO.out, HB.out⟩

set_option maxHeartbeats 4000000 in
theorem specSrc (xs : List Int) (v : Value) (B p : Nat) (w : World) (hp2 : w.cell? ⟨p, 2, none⟩ = some v) (hpl : p < w.heap.size) (ha : Ints w B v xs) (hB : B ≤ w.heap.size) (hp0 : 0 < xs.length) (hl : lst xs = true) :
    Calls Tryd.prog 44 #[.pointer (some ⟨p, 0, none⟩)] w fun e w' => ∃ v' vals, e = .returned v' ∧ SR w' w.heap.size v' vals (numL tk xs xs.length) ∧ Below w.heap.size w w' := by
  have hn16 := (lst_parts hl).1
  have HK := hid (fun j h => (lst_parts hl).2 j h)
  have HSs := hid (fun k h => sF_succ tk xs k h)
  have HSb := hid (fun k h => sF_bound tk xs (fun j hj => by have := tk_bound ((lst_parts hl).2 j hj); omega) k h)
  rcases ha with ⟨rfl, ao, cap, rfl⟩ | ⟨hp, b, off, cap, rfl, hbb, hc⟩
  · simp at hp0
  · obtain ⟨n, hnn⟩ : ∃ n, n = xs.length := ⟨_, rfl⟩
    rw [← hnn] at hp hc hn16 HK HSs HSb hp2 ⊢
    have HN := hid hnn
    have HC := hid hc
    clear hnn hc hl hp0
    have HS0 := hid (SR.made w w.heap.size (Nat.le_refl _))
    go_enter Tryd.func44, Tryd.ntmps44
    go_wp2
    go_loopw [3, 4, 5] (fun s t i wr => ∃ (k : Nat) (z : Value) (vals : List Value), k ≤ n ∧ s = z ∧ i = .int .i64 k ∧ t = .int .i64 (sF tk xs k) ∧ SR wr w.heap.size z vals (numL tk xs k) ∧ Below w.heap.size w wr) (fun _ _ i _ => n - (intOf i).toNat)
    case atStart => exact ⟨0, _, _, Nat.zero_le _, rfl, rfl, rfl, HS0.out, (Below.refl w.heap.size w).alloc (Nat.le_refl _) _⟩
    case round =>
      obtain ⟨k, z, vals, hk, rfl, rfl, rfl, hown, hbel⟩ := hrel
      have HO := hid hown
      have HB := hid hbel
      have hsz := hbel.size
      have r2 := (hbel.cell (p := ⟨p, 2, none⟩) hpl).trans hp2
      clear hown hbel
      by_cases hlt : k < n
      · have h1 : wr.cell? ⟨b, off + k, none⟩ = some (.int .i64 (xs.getD k 0)) := (HB.out.cell (p := ⟨b, off + k, none⟩) (by show b < _; omega)).trans (HC.out k hlt)
        have hkx := HK.out k hlt
        have HX := hid (numL_succ tk xs k)
        have HS1 := hid (HSs.out k hlt)
        have hsb := HSb.out k hk
        have HTa := hid (fun W => specTaken (xs.getD k 0) W)
        have htb := tk_bound hkx
        have hLl := numL_len tk xs k
        obtain ⟨m, hm⟩ : ∃ m : Nat, tk (xs.getD k 0) = (m : Int) := ⟨(tk (xs.getD k 0)).toNat, by omega⟩
        rw [hm] at HTa HS1 htb HX
        have hmm : ((m : Nat) : Int).toNat = m := by omega
        rw [hmm] at HX
        clear hm hmm hkx
        generalize sF tk xs k = t at *
        generalize numL tk xs k = L at *
        generalize xs.getD k 0 = x at *
        have HCt := hid (specCount t m ⟨by omega, by omega⟩ (by omega))
        have e1 : IntKind.i64.wrap (t + (m : Int)) = t + (m : Int) := IntWalk.i64_in _ (by omega)
        go_wp2_with fail
        refine (HTa.out _).mono ?_
        rintro e w2 ⟨rfl, b2⟩
        have HB2 := hid (HB.out.trans (b2.mono hsz))
        have HO2 := hid (HO.out.below b2)
        have hz2 := HB2.out.size
        clear b2
        go_wp2_with fail
        refine (HCt.out _).mono ?_
        rintro e w3 ⟨y, rfl, oy, b3⟩
        obtain ⟨ya, yc, hyv⟩ := br.own_val oy
        have HOy := hid oy
        have HB3 := hid b3
        obtain ⟨ml, hml⟩ : ∃ ml, ml = (sl.marks t m).length := ⟨_, rfl⟩
        rw [← hml] at hyv
        clear oy b3 hml
        subst hyv
        go_wp2_with (at_builtin; refine wp_appR rfl _ _ rfl w.heap.size _ _ _ L (sl.marks t m) HO2.out HB3.out HOy.out rfl rfl rfl hz2 (by omega) ?_; intro v4 w4 s4 b4 g4 _; have HS4 := hid s4; have HB4 := hid (HB2.out.trans ((HB3.out.mono hz2).trans b4)); clear s4 b4 g4)
        go_roundw
        case rel => exact ⟨k + 1, _, _, by omega, rfl, by go_num, by rw [HS1.out], by rw [HX.out]; exact HS4.out, HB4.out⟩
        case measure => simp [intOf]; omega
      · obtain rfl : k = n := by omega
        go_wp2
        go_ret
        exact ⟨_, _, rfl, HO.out, HB.out⟩

set_option maxHeartbeats 4000000 in
theorem specRes (xs : List Int) (v : Value) (B p : Nat) (w : World) (hp2 : w.cell? ⟨p, 2, none⟩ = some v) (hpl : p < w.heap.size) (ha : Ints w B v xs) (hB : B ≤ w.heap.size) (hp0 : 0 < xs.length) (hl : lst xs = true) :
    Calls Tryd.prog 45 #[.pointer (some ⟨p, 0, none⟩)] w fun e w' => ∃ v' vals, e = .returned v' ∧ SR w' w.heap.size v' vals (numL md xs xs.length) ∧ Below w.heap.size w w' := by
  have hn16 := (lst_parts hl).1
  have HK := hid (fun j h => (lst_parts hl).2 j h)
  have HSs := hid (fun k h => sF_succ md xs k h)
  have HSb := hid (fun k h => sF_bound md xs (fun j hj => by have := md_bound ((lst_parts hl).2 j hj); omega) k h)
  rcases ha with ⟨rfl, ao, cap, rfl⟩ | ⟨hp, b, off, cap, rfl, hbb, hc⟩
  · simp at hp0
  · obtain ⟨n, hnn⟩ : ∃ n, n = xs.length := ⟨_, rfl⟩
    rw [← hnn] at hp hc hn16 HK HSs HSb hp2 ⊢
    have HN := hid hnn
    have HC := hid hc
    clear hnn hc hl hp0
    have HS0 := hid (SR.made w w.heap.size (Nat.le_refl _))
    go_enter Tryd.func45, Tryd.ntmps45
    go_wp2
    go_loopw [3, 4, 5] (fun s t i wr => ∃ (k : Nat) (z : Value) (vals : List Value), k ≤ n ∧ s = z ∧ i = .int .i64 k ∧ t = .int .i64 (sF md xs k) ∧ SR wr w.heap.size z vals (numL md xs k) ∧ Below w.heap.size w wr) (fun _ _ i _ => n - (intOf i).toNat)
    case atStart => exact ⟨0, _, _, Nat.zero_le _, rfl, rfl, rfl, HS0.out, (Below.refl w.heap.size w).alloc (Nat.le_refl _) _⟩
    case round =>
      obtain ⟨k, z, vals, hk, rfl, rfl, rfl, hown, hbel⟩ := hrel
      have HO := hid hown
      have HB := hid hbel
      have hsz := hbel.size
      have r2 := (hbel.cell (p := ⟨p, 2, none⟩) hpl).trans hp2
      clear hown hbel
      by_cases hlt : k < n
      · have h1 : wr.cell? ⟨b, off + k, none⟩ = some (.int .i64 (xs.getD k 0)) := (HB.out.cell (p := ⟨b, off + k, none⟩) (by show b < _; omega)).trans (HC.out k hlt)
        have hkx := HK.out k hlt
        have HX := hid (numL_succ md xs k)
        have HS1 := hid (HSs.out k hlt)
        have hsb := HSb.out k hk
        have HTa := hid (fun W => specMade (xs.getD k 0) W)
        have htb := md_bound hkx
        have hLl := numL_len md xs k
        obtain ⟨m, hm⟩ : ∃ m : Nat, md (xs.getD k 0) = (m : Int) := ⟨(md (xs.getD k 0)).toNat, by omega⟩
        rw [hm] at HTa HS1 htb HX
        have hmm : ((m : Nat) : Int).toNat = m := by omega
        rw [hmm] at HX
        clear hm hmm hkx
        generalize sF md xs k = t at *
        generalize numL md xs k = L at *
        generalize xs.getD k 0 = x at *
        have HCt := hid (specCount t m ⟨by omega, by omega⟩ (by omega))
        have e1 : IntKind.i64.wrap (t + (m : Int)) = t + (m : Int) := IntWalk.i64_in _ (by omega)
        go_wp2_with fail
        refine (HTa.out _).mono ?_
        rintro e w2 ⟨rfl, b2⟩
        have HB2 := hid (HB.out.trans (b2.mono hsz))
        have HO2 := hid (HO.out.below b2)
        have hz2 := HB2.out.size
        clear b2
        go_wp2_with fail
        refine (HCt.out _).mono ?_
        rintro e w3 ⟨y, rfl, oy, b3⟩
        obtain ⟨ya, yc, hyv⟩ := br.own_val oy
        have HOy := hid oy
        have HB3 := hid b3
        obtain ⟨ml, hml⟩ : ∃ ml, ml = (sl.marks t m).length := ⟨_, rfl⟩
        rw [← hml] at hyv
        clear oy b3 hml
        subst hyv
        go_wp2_with (at_builtin; refine wp_appR rfl _ _ rfl w.heap.size _ _ _ L (sl.marks t m) HO2.out HB3.out HOy.out rfl rfl rfl hz2 (by omega) ?_; intro v4 w4 s4 b4 g4 _; have HS4 := hid s4; have HB4 := hid (HB2.out.trans ((HB3.out.mono hz2).trans b4)); clear s4 b4 g4)
        go_roundw
        case rel => exact ⟨k + 1, _, _, by omega, rfl, by go_num, by rw [HS1.out], by rw [HX.out]; exact HS4.out, HB4.out⟩
        case measure => simp [intOf]; omega
      · obtain rfl : k = n := by omega
        go_wp2
        go_ret
        exact ⟨_, _, rfl, HO.out, HB.out⟩
end Go.Proofs.YtbbnheiibkcgiaaDoor.la
