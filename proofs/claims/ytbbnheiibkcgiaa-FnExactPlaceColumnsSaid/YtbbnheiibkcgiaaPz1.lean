/-
  PlaceColumns of both sides.
-/
import Derived.Test.YtbbnheiibkcgiaaPz0
import Derived.Test.YtbbnheiibkcgiaaL5
import Derived.Laws.EntriesVeiled
import Derived.Deep.RegionWith
import Derived.Deep.RegionHeld3
import Derived.Deep.CutRange
namespace Go.Proofs.Ytbbnheiibkcgiaa.mo
open Go.RowKit Go.Sort Go.Proofs.Ytbbnheiibkcgiaa.sl Go.Proofs.Ytbbnheiibkcgiaa.pm
set_option linter.unusedVariables false
set_option maxRecDepth 100000

def opIn (c : Int) : qo.V := ⟨8, 1, 0, 0, 0, 0, c, 0⟩
def opKn (c a : Int) : qo.V := ⟨1, 1, 1, a, 0, 0, c, 0⟩
def pcB (xs : List Int) (c : Int) : Bool := plB xs && decide (1 ≤ c ∧ c ≤ 4)
def pcL (c : Int) (xs : List Int) : List qo.V := opIn c :: xs.map (opKn c)
def pcW (xs : List Int) (c : Int) : List qo.V := if pcB xs c = true then pcL c xs else []
def pcC (xs : List Int) (c : Int) : Int := if pcB xs c = true then 0 else 1
theorem pcW_len (xs : List Int) (c : Int) : (pcW xs c).length ≤ 20000 := by
  unfold pcW
  split
  · rename_i h
    simp only [pcB, Bool.and_eq_true] at h
    have := pl_len h.1
    simp [pcL]; omega
  · simp
theorem carI (c : Int) (q : Bool) (hq : decide (1 ≤ c ∧ c ≤ 4) = q) (w : World) : Calls Try.prog 54 #[.int .i64 c] w fun e w' => e = .returned (.bool q) ∧ w = w' := by
  have HW := hid (within64R c 1 4 q hq)
  go_enter Try.func54, Try.ntmps54
  go_wp2_with (go_at_call 37; refine (HW.out _).mono ?_; rintro e w' ⟨rfl, rfl⟩)
  go_ret
  exact ⟨rfl, rfl⟩
theorem carS (c : Int) (q : Bool) (hq : decide (1 ≤ c ∧ c ≤ 4) = q) (w : World) : Calls Try.prog 52 #[.int .i64 c] w fun e w' => e = .returned (.bool q) ∧ w = w' := by
  have HW := hid (specInR c 1 4 q hq)
  go_enter Try.func52, Try.ntmps52
  go_wp2_with (go_at_call 35; refine (HW.out _).mono ?_; rintro e w' ⟨rfl, rfl⟩)
  go_ret
  exact ⟨rfl, rfl⟩

def knL (c : Int) (xs : List Int) (k : Nat) : List qo.V := (xs.take k).map (opKn c)
theorem knL_succ (c : Int) (xs : List Int) (k : Nat) (h : k < xs.length) : knL c xs (k + 1) = knL c xs k ++ [opKn c (xs.getD k 0)] := by
  unfold knL
  rw [List.take_succ_eq_append_getElem h, List.map_append]
  simp [List.getD, List.getElem?_eq_getElem h]
theorem knL_all (c : Int) (xs : List Int) : knL c xs xs.length = xs.map (opKn c) := by rw [knL, List.take_length]
theorem knL_len (c : Int) (xs : List Int) (k : Nat) (h : k ≤ xs.length) : (knL c xs k).length = k := by simp [knL]; omega
theorem pcL_all (c : Int) (xs : List Int) : [opIn c] ++ knL c xs xs.length = pcL c xs := by rw [knL_all]; rfl

theorem inMade (c : Int) (w : World) (lo g : Nat) (hlo : lo ≤ w.heap.size) (hg : g = w.heap.size) :
    qo.ROwn (w.alloc (.cells #[.int .i64 8, .int .i64 1, .int .i64 0, .int .i64 0, .int .i64 0, .int .i64 0, .int .i64 c, .int .i64 0] 65)) lo (w.alloc (.cells #[.int .i64 8, .int .i64 1, .int .i64 0, .int .i64 0, .int .i64 0, .int .i64 0, .int .i64 c, .int .i64 0] 65)).heap.size (.slice (some ⟨g, 0, none⟩) 1 1) [opIn c] := by
  subst hg
  exact made w lo hlo [opIn c] _ (by rw [cells1]; rfl) (by simp)

set_option maxHeartbeats 2000000 in
theorem specKn (c : Int) (xs : List Int) (v : Value) (B : Nat) (w : World) (ha : Ints w B v xs) (hB : B ≤ w.heap.size) (hn : xs.length ≤ 8) :
    Calls Try.prog 53 #[v, .int .i64 c] w fun e w' => ∃ v', e = .returned v' ∧ qo.ROwn w' w.heap.size w'.heap.size v' (pcL c xs) ∧ Below w.heap.size w w' := by
  have HI := hid (inMade c w w.heap.size w.heap.size (Nat.le_refl _) rfl)
  have HBI := hid ((Below.refl w.heap.size w).alloc (Nat.le_refl _) (.cells #[.int .i64 8, .int .i64 1, .int .i64 0, .int .i64 0, .int .i64 0, .int .i64 0, .int .i64 c, .int .i64 0] 65))
  have HKs := hid (fun k h => knL_succ c xs k h)
  have HKl := hid (fun k h => knL_len c xs k h)
  have HKa := hid (pcL_all c xs)
  have HA := hid ha
  obtain ⟨ao, cap, hv⟩ : ∃ ao cap, v = .slice ao xs.length cap := by
    rcases ha with ⟨rfl, ao, cap, rfl⟩ | ⟨hp, b, off, cap, rfl, hb', hc⟩ <;> exact ⟨_, _, rfl⟩
  obtain ⟨n, hnn⟩ : ∃ n, n = xs.length := ⟨_, rfl⟩
  rw [← hnn] at hv hn HKs HKl HKa
  have HN := hid hnn
  clear hnn ha
  generalize pcL c xs = r at *
  subst hv
  go_enter Try.func53, Try.ntmps53
  go_wp2
  go_loopw [5, 6] (fun s i wr => ∃ (k : Nat) (z : Value), k ≤ n ∧ s = z ∧ i = .int .i64 k ∧ qo.ROwn wr w.heap.size wr.heap.size z ([opIn c] ++ knL c xs k) ∧ Below w.heap.size w wr) (fun _ i _ => n - (intOf i).toNat)
  case atStart => exact ⟨0, _, Nat.zero_le _, rfl, rfl, HI.out, HBI.out⟩
  case round =>
    obtain ⟨k, z, hk, rfl, rfl, hown, hbel⟩ := hrel
    have HO := hid hown
    have HB := hid hbel
    have hsz := hbel.size
    clear hown hbel HI HBI
    by_cases hlt : k < n
    · rcases HA.out with ⟨hx, _⟩ | ⟨hp, b, off, cap', hv, hb, hc⟩
      · have := HN.out; rw [hx] at this; simp at this; omega
      · simp only [Value.slice.injEq] at hv
        obtain ⟨rfl, hlen, rfl⟩ := hv
        have h1 : wr.cell? ⟨b, off + k, none⟩ = some (.int .i64 (xs.getD k 0)) := (HB.out.cell (p := ⟨b, off + k, none⟩) (by show b < _; omega)).trans (hc k (by rw [← HN.out]; exact hlt))
        have HX := hid (HKs.out k hlt)
        have hkl : ([opIn c] ++ knL c xs k).length ≤ 1048576 := by have := HKl.out k hk; simp; omega
        clear hlen hp hc
        generalize xs.getD k 0 = x at *
        have HXX : Hid ([opIn c] ++ knL c xs (k + 1) = [opIn c] ++ knL c xs k ++ [opKn c x]) := hid (by rw [HX.out, List.append_assoc])
        clear HX
        generalize [opIn c] ++ knL c xs k = Z at *
        go_wp2_with (at_builtin; refine qo.wp_append1 rfl _ _ rfl w.heap.size wr.heap.size _ Z (opKn c x) HO.out rfl rfl hsz hkl ?_; intro v9 w9 h9 c9 _; have H9 := hid h9; have HB9 := hid (HB.out.trans (c9.below (Nat.le_refl _) hsz)); clear h9 c9)
        go_roundw
        case rel => exact ⟨k + 1, _, by omega, rfl, by go_num, by rw [HXX.out]; exact H9.out, HB9.out⟩
        case measure => simp [intOf]; omega
    · obtain rfl : k = n := by omega
      go_wp2
      go_ret
      exact ⟨_, rfl, by rw [← HKa.out]; exact HO.out, HB.out⟩

set_option maxHeartbeats 2000000 in
theorem specPC (xs : List Int) (c : Int) (v : Value) (B : Nat) (w : World) (ha : Ints w B v xs) (hB : B ≤ w.heap.size) (hq : l5.Small xs) :
    Calls Try.prog 28 #[v, .int .i64 c] w fun e w' => ∃ v', e = .returned (.tuple #[v', .int .i64 (pcC xs c)]) ∧ qo.OOwn w' w.heap.size w'.heap.size v' (pcW xs c) ∧ Below w.heap.size w w' := by
  have HP := hid (specPl1 xs v B w ha (by have := hq.len; omega))
  have HA := hid ha
  obtain ⟨ao, cap, hv⟩ : ∃ ao cap, v = .slice ao xs.length cap := by
    rcases ha with ⟨rfl, ao, cap, rfl⟩ | ⟨hp, b, off, cap, rfl, hb', hc⟩ <;> exact ⟨_, _, rfl⟩
  cases hp : plB xs
  · have HW : Hid (pcW xs c = []) := hid (by rw [pcW, pcB, hp]; rfl)
    have HC : Hid (pcC xs c = 1) := hid (by rw [pcC, pcB, hp]; rfl)
    rw [hp] at HP
    clear hp ha HA hq
    generalize xs.length = n at *
    subst hv
    go_enter Try.func28, Try.ntmps28
    go_wp2_with fail
    refine HP.out.mono ?_
    rintro e w1 ⟨rfl, q1, h1⟩
    have HW1 : Hid (Below w.heap.size w w1) := hid (by rw [h1]; exact bdrewN (Below.refl _ _) _)
    clear h1
    go_wp2
    go_ret2
    exact ⟨.slice none 0 0, by rw [HC.out]; rfl, by rw [HW.out]; exact (qo.ROwn.nil _ _).oown, HW1.out⟩
  · obtain ⟨q, hqq⟩ : ∃ q, decide (1 ≤ c ∧ c ≤ 4) = q := ⟨_, rfl⟩
    have HCa := hid (carS c q hqq)
    rw [hp] at HP
    cases q
    · have HW : Hid (pcW xs c = []) := hid (by rw [pcW, pcB, hp, hqq]; rfl)
      have HC : Hid (pcC xs c = 1) := hid (by rw [pcC, pcB, hp, hqq]; rfl)
      clear hp ha HA hq hqq
      generalize xs.length = n at *
      subst hv
      go_enter Try.func28, Try.ntmps28
      go_wp2_with fail
      refine HP.out.mono ?_
      rintro e w1 ⟨rfl, q1, h1⟩
      have HW1 : Hid (Below w.heap.size w w1) := hid (by rw [h1]; exact bdrewN (Below.refl _ _) _)
      clear h1
      go_wp2_with fail
      refine (HCa.out _).mono ?_
      rintro e w2 ⟨rfl, rfl⟩
      go_wp2
      go_ret2
      exact ⟨.slice none 0 0, by rw [HC.out]; rfl, by rw [HW.out]; exact (qo.ROwn.nil _ _).oown, HW1.out⟩
    · have HW : Hid (pcW xs c = pcL c xs) := hid (by rw [pcW, pcB, hp, hqq]; rfl)
      have HC : Hid (pcC xs c = 0) := hid (by rw [pcC, pcB, hp, hqq]; rfl)
      have HK := hid (fun W (b : Below w.heap.size w W) => specKn c xs v B W (ha.chg (Chg.ofBelow (lo := 0) b) (.inr (Nat.zero_le _))) (Nat.le_trans hB b.size) (pl_len hp))
      clear hp ha HA hq hqq
      generalize pcL c xs = r at *
      generalize xs.length = n at *
      subst hv
      go_enter Try.func28, Try.ntmps28
      go_wp2_with fail
      refine HP.out.mono ?_
      rintro e w1 ⟨rfl, q1, h1⟩
      have HW1 : Hid (Below w.heap.size w w1) := hid (by rw [h1]; exact bdrewN (Below.refl _ _) _)
      clear h1
      go_wp2_with fail
      refine (HCa.out _).mono ?_
      rintro e w2 ⟨rfl, rfl⟩
      go_wp2_with fail
      refine (HK.out _ HW1.out).mono ?_
      rintro e w2 ⟨v2, rfl, o2, b2⟩
      have HO2 := hid ((o2.lo HW1.out.size).oown)
      have HB2 := hid (HW1.out.trans (b2.mono HW1.out.size))
      clear o2 b2
      go_wp2
      go_ret2
      exact ⟨v2, by rw [HC.out]; rfl, by rw [HW.out]; exact HO2.out, HB2.out⟩

/-! ### The program -/
theorem knC (c a : Int) (cb : Nat) (W : World) (h0 : W.cell? ⟨cb, 0, none⟩ = some (.int .i64 c)) :
    Calls Try.prog 55 #[.int .i64 a, .pointer (some ⟨cb, 0, none⟩)] W fun e w' => e = .returned (.agg #[.int .i64 1, .int .i64 1, .int .i64 1, .int .i64 a, .int .i64 0, .int .i64 0, .int .i64 c, .int .i64 0]) ∧ Below W.heap.size W w' := by
  have hcb := World.block_lt_of_cell? W _ h0
  have h1 : (W.alloc (.cells #[.int .i64 0, .int .i64 0, .int .i64 0, .int .i64 0, .int .i64 0, .int .i64 0, .int .i64 0, .int .i64 0] 65)).cell? ⟨cb, 0, none⟩ = some (.int .i64 c) := (World.cell?_alloc_past _ _ _ hcb).trans h0
  go_enter Try.func55, Try.ntmps55
  go_wp2
  refine bodyPost_ret (v := .agg #[.int .i64 1, .int .i64 1, .int .i64 1, .int .i64 a, .int .i64 0, .int .i64 0, .int .i64 c, .int .i64 0]) (by simp [results, Try.results55, go_sem]) rfl ⟨rfl, ?_⟩
  repeat (first | exact Below.refl _ _ | refine Below.setCell ?_ (by simp) _ | refine Below.alloc ?_ (by simp; try omega) _)

set_option maxHeartbeats 2000000 in
theorem mapKn (c : Int) (cb : Nat) (xs : List Int) (v : Value) (B : Nat) (w : World) (ha : Ints w B v xs) (hB : B ≤ w.heap.size) (hn : xs.length ≤ 8) (hcb : cb < w.heap.size) (h0 : w.cell? ⟨cb, 0, none⟩ = some (.int .i64 c)) :
    Calls Try.prog 57 #[.func (.func 55) #[] #[.pointer (some ⟨cb, 0, none⟩)], v] w fun e w' => ∃ v', e = .returned v' ∧ qo.ROwn w' w.heap.size w'.heap.size v' (knL c xs xs.length) ∧ Below w.heap.size w w' := by
  obtain ⟨i0, hi, hz0, hz1, hz2⟩ := info_parts qo.infoO
  have HKs := hid (fun k h => knL_succ c xs k h)
  have HKl := hid (fun k h => knL_len c xs k h)
  have HA := hid ha
  obtain ⟨ao, cap, hv⟩ : ∃ ao cap, v = .slice ao xs.length cap := by
    rcases ha with ⟨rfl, ao, cap, rfl⟩ | ⟨hp, b, off, cap, rfl, hb', hc⟩ <;> exact ⟨_, _, rfl⟩
  obtain ⟨n, hnn⟩ : ∃ n, n = xs.length := ⟨_, rfl⟩
  rw [← hnn] at hv hn HKs HKl ⊢
  have HN := hid hnn
  clear hnn ha
  subst hv
  go_enter Try.func57, Try.ntmps57
  go_wp2_with (at_make; refine wpList_make_own _ rfl _ _ 37 rfl w.heap.size 65 i0 _ 8 Try.underlying37 hi hz0 hz1 .i64 .i64 _ n rfl rfl (by omega) (by rw [hz2]; omega) (by unfold maxLen; omega) (Nat.le_refl _) ?_; intro W3 hown3 hgrow3; have HS3 : Hid (qo.ROwn W3 w.heap.size W3.heap.size (.slice (some ⟨w.heap.size, 0, none⟩) 0 n) []) := hid (qo.ROwn.mk' (by rw [qo.cellsL_nil]; exact hown3)); have HB3 : Hid (Below w.heap.size w W3) := hid ⟨hgrow3.os, hgrow3.tape, hgrow3.output, hgrow3.size, fun q hq => hgrow3.block q hq (by simp)⟩; clear hown3 hgrow3)
  go_loopw [5, 13] (fun s i wr => ∃ (k : Nat) (z : Value), k ≤ n ∧ s = z ∧ i = .int .i64 k ∧ qo.ROwn wr w.heap.size wr.heap.size z (knL c xs k) ∧ Below w.heap.size w wr) (fun _ i _ => n - (intOf i).toNat)
  case atStart => exact ⟨0, _, Nat.zero_le _, rfl, rfl, HS3.out, HB3.out⟩
  case round =>
    obtain ⟨k, z, hk, rfl, rfl, hown, hbel⟩ := hrel
    have HO := hid hown
    have HB := hid hbel
    have hsz := hbel.size
    have hcr := (hbel.cell (p := ⟨cb, 0, none⟩) hcb).trans h0
    have HKC := hid (knC c (xs.getD k 0) cb wr hcr)
    clear hown hbel HS3 HB3 hcr
    by_cases hlt : k < n
    · rcases HA.out with ⟨hx, _⟩ | ⟨hp, b, off, cap', hv, hb, hc⟩
      · have := HN.out; rw [hx] at this; simp at this; omega
      · simp only [Value.slice.injEq] at hv
        obtain ⟨rfl, hlen, rfl⟩ := hv
        have h1 : wr.cell? ⟨b, off + k, none⟩ = some (.int .i64 (xs.getD k 0)) := (HB.out.cell (p := ⟨b, off + k, none⟩) (by show b < _; omega)).trans (hc k (by rw [← HN.out]; exact hlt))
        have HX := hid (HKs.out k hlt)
        have hkl : (knL c xs k).length ≤ 1048576 := by have := HKl.out k hk; omega
        clear hlen hp hc
        generalize xs.getD k 0 = x at *
        generalize knL c xs k = Z at *
        go_wp2_with fail
        refine HKC.out.mono ?_
        rintro e w1 ⟨rfl, b1⟩
        have HB1 := hid (HB.out.trans (b1.mono hsz))
        have HO1 := hid ((HO.out.below b1).hi b1.size (Nat.le_refl _))
        have hs1 := HB1.out.size
        clear b1
        go_wp2_with (at_builtin; refine qo.wp_append1 rfl _ _ rfl w.heap.size w1.heap.size _ Z (opKn c x) HO1.out rfl rfl hs1 hkl ?_; intro v9 w9 h9 c9 _; have H9 := hid h9; have HB9 := hid (HB1.out.trans (c9.below (Nat.le_refl _) hs1)); clear h9 c9)
        go_roundw
        case rel => exact ⟨k + 1, _, by omega, rfl, by go_num, by rw [HX.out]; exact H9.out, HB9.out⟩
        case measure => simp [intOf]; omega
    · obtain rfl : k = n := by omega
      go_wp2
      go_ret
      exact ⟨_, rfl, HO.out, HB.out⟩

theorem szA (X : World) (o : Obj) : (X.alloc o).heap.size = X.heap.size + 1 := by simp
theorem szD (X : World) (o : Obj) : (X.drew.alloc o).heap.size = X.heap.size + 1 := szA X.drew o
theorem conIn (c : Int) (Z : List qo.V) (hZ : Z.length ≤ 8) (W : World) (g : Nat) (v u : Value) (hg : g < W.heap.size) (c0 : W.cell? ⟨g, 0, none⟩ = some v) (c1 : W.cell? ⟨g, 1, none⟩ = some u) (ha : qo.Ops W W.heap.size v [opIn c]) (hb : qo.Ops W W.heap.size u Z) :
    Calls Try.prog 56 #[.slice (some ⟨g, 0, none⟩) 2 2] W fun e w' => ∃ v', e = .returned v' ∧ qo.ROwn w' W.heap.size w'.heap.size v' ([opIn c] ++ Z) ∧ Below W.heap.size W w' :=
  concatO [opIn c] Z v u g W.heap.size W hg c0 c1 ha hb (Nat.le_refl _) (by simp) (by simp) (by omega)

set_option maxHeartbeats 4000000 in
theorem implPC (xs : List Int) (c : Int) (v : Value) (B : Nat) (w : World) (ha : Ints w B v xs) (hB : B ≤ w.heap.size) (hq : l5.Small xs) :
    Calls Try.prog 29 #[v, .int .i64 c] w fun e w' => ∃ v', e = .returned (.tuple #[v', .int .i64 (pcC xs c)]) ∧ qo.OOwn w' w.heap.size w'.heap.size v' (pcW xs c) ∧ Below w.heap.size w w' := by
  have b0 := (Below.refl w.heap.size w).alloc (Nat.le_refl _) (.cells #[.int .i64 c] 2)
  have k0 : (w.alloc (.cells #[.int .i64 c] 2)).cell? ⟨w.heap.size, 0, none⟩ = some (.int .i64 c) := World.cell?_alloc_at _ _ _ _ rfl
  have hs0 : (w.alloc (.cells #[.int .i64 c] 2)).heap.size = w.heap.size + 1 := by simp
  have HP := hid (implVPl xs v B _ (ha.chg (Chg.ofBelow (lo := 0) b0) (.inr (Nat.zero_le _))) (Nat.le_trans hB b0.size) (by have := hq.len; omega))
  have HB0 := hid b0
  clear b0
  obtain ⟨ao, cap, hv⟩ : ∃ ao cap, v = .slice ao xs.length cap := by
    rcases ha with ⟨rfl, ao, cap, rfl⟩ | ⟨hp, b, off, cap, rfl, hb', hc⟩ <;> exact ⟨_, _, rfl⟩
  cases hp : plB xs
  · have HW : Hid (pcW xs c = []) := hid (by rw [pcW, pcB, hp]; rfl)
    have HC : Hid (pcC xs c = 1) := hid (by rw [pcC, pcB, hp]; rfl)
    rw [hp] at HP
    clear hp ha hq k0
    generalize xs.length = n at *
    subst hv
    go_enter Try.func29, Try.ntmps29
    go_wp2_with fail
    refine HP.out.mono ?_
    rintro e w1 ⟨rfl, b1⟩
    have HW1 := hid (HB0.out.trans (b1.mono (by omega)))
    clear b1
    go_wp2
    go_ret2
    exact ⟨.slice none 0 0, by rw [HC.out]; rfl, by rw [HW.out]; exact (qo.ROwn.nil _ _).oown, HW1.out⟩
  · obtain ⟨q, hqq⟩ : ∃ q, decide (1 ≤ c ∧ c ≤ 4) = q := ⟨_, rfl⟩
    have HCa := hid (carI c q hqq)
    rw [hp] at HP
    cases q
    · have HW : Hid (pcW xs c = []) := hid (by rw [pcW, pcB, hp, hqq]; rfl)
      have HC : Hid (pcC xs c = 1) := hid (by rw [pcC, pcB, hp, hqq]; rfl)
      clear hp ha hq hqq
      generalize xs.length = n at *
      subst hv
      go_enter Try.func29, Try.ntmps29
      go_wp2_with fail
      refine HP.out.mono ?_
      rintro e w1 ⟨rfl, b1⟩
      have HW1 := hid (HB0.out.trans (b1.mono (by omega)))
      have k1 := (b1.cell (p := ⟨w.heap.size, 0, none⟩) (by show w.heap.size < _; omega)).trans k0
      clear b1 k0
      go_wp2_with fail
      refine (HCa.out _).mono ?_
      rintro e w2 ⟨rfl, rfl⟩
      go_wp2
      go_ret2
      exact ⟨.slice none 0 0, by rw [HC.out]; rfl, by rw [HW.out]; exact (qo.ROwn.nil _ _).oown, HW1.out⟩
    · have HW : Hid (pcW xs c = [opIn c] ++ knL c xs xs.length) := hid (by rw [pcW, pcB, hp, hqq, pcL_all]; rfl)
      have HC : Hid (pcC xs c = 0) := hid (by rw [pcC, pcB, hp, hqq]; rfl)
      have hl8 := pl_len hp
      have hkl := knL_len c xs xs.length (Nat.le_refl _)
      have HM := hid (fun W (b : Below w.heap.size w W) (hlt : w.heap.size < W.heap.size) (h0 : W.cell? ⟨w.heap.size, 0, none⟩ = some (.int .i64 c)) => mapKn c w.heap.size xs v B W (ha.chg (Chg.ofBelow (lo := 0) b) (.inr (Nat.zero_le _))) (Nat.le_trans hB b.size) hl8 hlt h0)
      have HN := hid (conIn c (knL c xs xs.length) (by omega))
      clear hp ha hq hqq
      generalize knL c xs xs.length = Z at *
      generalize xs.length = n at *
      subst hv
      go_enter Try.func29, Try.ntmps29
      go_wp2_with fail
      refine HP.out.mono ?_
      rintro e w1 ⟨rfl, b1⟩
      have HW1 := hid (HB0.out.trans (b1.mono (by omega)))
      have hs1 : w.heap.size < w1.heap.size := by have := b1.size; omega
      have k1 := (b1.cell (p := ⟨w.heap.size, 0, none⟩) (by show w.heap.size < _; omega)).trans k0
      clear b1 k0
      go_wp2_with fail
      refine (HCa.out _).mono ?_
      rintro e w2 ⟨rfl, rfl⟩
      have bO := (Below.refl w1.heap.size w1).alloc (Nat.le_refl _) (.cells #[.int .i64 8, .int .i64 1, .int .i64 0, .int .i64 0, .int .i64 0, .int .i64 0, .int .i64 c, .int .i64 0] 65)
      have o0 : (w1.alloc (.cells #[.int .i64 8, .int .i64 1, .int .i64 0, .int .i64 0, .int .i64 0, .int .i64 0, .int .i64 c, .int .i64 0] 65)).cell? ⟨w1.heap.size, 0, none⟩ = some (.int .i64 8) := World.cell?_alloc_at _ _ _ _ rfl
      have o1 : (w1.alloc (.cells #[.int .i64 8, .int .i64 1, .int .i64 0, .int .i64 0, .int .i64 0, .int .i64 0, .int .i64 c, .int .i64 0] 65)).cell? ⟨w1.heap.size, 1, none⟩ = some (.int .i64 1) := World.cell?_alloc_at _ _ _ _ rfl
      have o2 : (w1.alloc (.cells #[.int .i64 8, .int .i64 1, .int .i64 0, .int .i64 0, .int .i64 0, .int .i64 0, .int .i64 c, .int .i64 0] 65)).cell? ⟨w1.heap.size, 2, none⟩ = some (.int .i64 0) := World.cell?_alloc_at _ _ _ _ rfl
      have o3 : (w1.alloc (.cells #[.int .i64 8, .int .i64 1, .int .i64 0, .int .i64 0, .int .i64 0, .int .i64 0, .int .i64 c, .int .i64 0] 65)).cell? ⟨w1.heap.size, 3, none⟩ = some (.int .i64 0) := World.cell?_alloc_at _ _ _ _ rfl
      have o4 : (w1.alloc (.cells #[.int .i64 8, .int .i64 1, .int .i64 0, .int .i64 0, .int .i64 0, .int .i64 0, .int .i64 c, .int .i64 0] 65)).cell? ⟨w1.heap.size, 4, none⟩ = some (.int .i64 0) := World.cell?_alloc_at _ _ _ _ rfl
      have o5 : (w1.alloc (.cells #[.int .i64 8, .int .i64 1, .int .i64 0, .int .i64 0, .int .i64 0, .int .i64 0, .int .i64 c, .int .i64 0] 65)).cell? ⟨w1.heap.size, 5, none⟩ = some (.int .i64 0) := World.cell?_alloc_at _ _ _ _ rfl
      have o6 : (w1.alloc (.cells #[.int .i64 8, .int .i64 1, .int .i64 0, .int .i64 0, .int .i64 0, .int .i64 0, .int .i64 c, .int .i64 0] 65)).cell? ⟨w1.heap.size, 6, none⟩ = some (.int .i64 c) := World.cell?_alloc_at _ _ _ _ rfl
      have o7 : (w1.alloc (.cells #[.int .i64 8, .int .i64 1, .int .i64 0, .int .i64 0, .int .i64 0, .int .i64 0, .int .i64 c, .int .i64 0] 65)).cell? ⟨w1.heap.size, 7, none⟩ = some (.int .i64 0) := World.cell?_alloc_at _ _ _ _ rfl
      have k2 := (bO.cell (p := ⟨w.heap.size, 0, none⟩) hs1).trans k1
      have hs2 : (w1.alloc (.cells #[.int .i64 8, .int .i64 1, .int .i64 0, .int .i64 0, .int .i64 0, .int .i64 0, .int .i64 c, .int .i64 0] 65)).heap.size = w1.heap.size + 1 := by simp
      go_upto_region 5 with fail
      generalize (w1.alloc (.cells #[.int .i64 8, .int .i64 1, .int .i64 0, .int .i64 0, .int .i64 0, .int .i64 0, .int .i64 c, .int .i64 0] 65)) = W2 at *
      have HO := hid bO
      have HW2 := hid (HW1.out.trans (bO.mono HW1.out.size))
      clear bO k1
      have HMp := hid (fun W (b : Below W2.heap.size W2 W) => (HM.out W (HW2.out.trans (b.mono HW2.out.size)) (by have := b.size; omega) ((b.cell (p := ⟨w.heap.size, 0, none⟩) (by show w.heap.size < _; omega)).trans k2)).mono fun e w' h => show ∃ a k, e = .returned (.slice a n k) ∧ qo.ROwn w' W.heap.size w'.heap.size (.slice a n k) Z ∧ Below W.heap.size W w' from by obtain ⟨u, rfl, o, b⟩ := h; obtain ⟨a, k, rfl⟩ := qo.rown_val o; rw [hkl] at o ⊢; exact ⟨a, k, rfl, o, b⟩)
      clear HM HP HCa
      have hA : ∀ (W : World) (o : Obj), W.heap.size < (W.alloc o).heap.size := fun W o => by rw [szA]; omega
      go_region_with (first
        | (go_at_call 57
           refine (HMp.out _ ?_).mono ?_
           · first | exact (Below.refl W2.heap.size W2).drew | exact ((Below.refl W2.heap.size W2).drew).alloc (Nat.le_refl _) _
           rintro e w3 ⟨a3, k3, rfl, ow3, b3⟩
           have HR3 := hid ow3
           have HB3 := hid b3
           try have p0 := (b3.cell (p := ⟨w1.heap.size, 0, none⟩) (by show w1.heap.size < W2.heap.size; omega)).trans o0
           try have p1 := (b3.cell (p := ⟨w1.heap.size, 1, none⟩) (by show w1.heap.size < W2.heap.size; omega)).trans o1
           try have p2 := (b3.cell (p := ⟨w1.heap.size, 2, none⟩) (by show w1.heap.size < W2.heap.size; omega)).trans o2
           try have p3 := (b3.cell (p := ⟨w1.heap.size, 3, none⟩) (by show w1.heap.size < W2.heap.size; omega)).trans o3
           try have p4 := (b3.cell (p := ⟨w1.heap.size, 4, none⟩) (by show w1.heap.size < W2.heap.size; omega)).trans o4
           try have p5 := (b3.cell (p := ⟨w1.heap.size, 5, none⟩) (by show w1.heap.size < W2.heap.size; omega)).trans o5
           try have p6 := (b3.cell (p := ⟨w1.heap.size, 6, none⟩) (by show w1.heap.size < W2.heap.size; omega)).trans o6
           try have p7 := (b3.cell (p := ⟨w1.heap.size, 7, none⟩) (by show w1.heap.size < W2.heap.size; omega)).trans o7
           clear ow3 b3)
        | (go_at_call 56
           refine (HN.out _ _ (.slice (some ⟨w1.heap.size + 1, 0, none⟩) 1 1) (.slice a3 n k3) ?_ ?_ ?_ ?_ ?_).mono ?_
           · exact hA w3 _
           · exact World.cell?_alloc_at _ _ _ _ rfl
           · exact World.cell?_alloc_at _ _ _ _ rfl
           · have hq1 := (inMade c W2.drew 0 (w1.heap.size + 1) (Nat.zero_le _) (by show _ = W2.heap.size; omega)).oown.ops
             have hq2 := hq1.below HB3.out
             have hq3 := hq2.al (.cells #[.slice (some ⟨w1.heap.size + 1, 0, none⟩) 1 1, .slice a3 n k3] 37)
             exact hq3.mono (Nat.le_trans HB3.out.size (Nat.le_of_lt (hA _ _)))
           · exact (HR3.out.oown.ops.al _).mono (by rw [szA]; omega)
           rintro e w4 ⟨v4, rfl, o4, b4⟩
           have hs3 : w1.heap.size + 2 ≤ w3.heap.size := by have h : W2.heap.size + 1 ≤ w3.heap.size := Nat.le_trans (Nat.le_of_eq (szA W2 _).symm) HB3.out.size; omega
           have hq5 := (HW2.out.alloc (o := .cells #[.int .i64 8, .int .i64 1, .int .i64 0, .int .i64 0, .int .i64 0, .int .i64 0, .int .i64 c, .int .i64 0] 65) (by omega)).drew
           have hq6 := hq5.trans (HB3.out.mono (by show w.heap.size ≤ (W2.alloc _).heap.size; rw [szA]; omega))
           have hq7 := (hq6.alloc (o := .cells #[.slice (some ⟨w1.heap.size + 1, 0, none⟩) 1 1, .slice a3 n k3] 37) (by omega))
           have hq8 := hq7.trans (b4.mono (by show w.heap.size ≤ (w3.alloc _).heap.size; rw [szA]; omega))
           have HB4 := sl.hid hq8
           have HO4 : Hid (qo.OOwn w4 w.heap.size w4.heap.size v4 ([opIn c] ++ Z)) := sl.hid ((o4.lo (by rw [szA]; omega)).oown)
           clear o4 b4 hq5 hq6 hq7 hq8)
        | (go_at_call 56
           refine (HN.out _ _ (.slice (some ⟨w3.heap.size, 0, none⟩) 1 1) (.slice a3 n k3) ?_ ?_ ?_ ?_ ?_).mono ?_
           · rw [szA, szA]; omega
           · exact World.cell?_alloc_at _ _ _ _ (by rw [szA])
           · exact World.cell?_alloc_at _ _ _ _ (by rw [szA])
           · have hq1 := (inMade c w3 0 w3.heap.size (Nat.zero_le _) rfl).oown.ops
             have hq3 := hq1.al (.cells #[.slice (some ⟨w3.heap.size, 0, none⟩) 1 1, .slice a3 n k3] 37)
             exact hq3.mono (Nat.le_of_lt (hA _ _))
           · have hq1 := (HR3.out.oown.ops.al (.cells #[.int .i64 8, .int .i64 1, .int .i64 0, .int .i64 0, .int .i64 0, .int .i64 0, .int .i64 c, .int .i64 0] 65)).al (.cells #[.slice (some ⟨w3.heap.size, 0, none⟩) 1 1, .slice a3 n k3] 37)
             exact hq1.mono (Nat.le_trans (Nat.le_of_lt (hA _ _)) (Nat.le_of_lt (hA _ _)))
           rintro e w4 ⟨v4, rfl, o4, b4⟩
           have hs3 : w1.heap.size + 1 ≤ w3.heap.size := by have h : W2.heap.size ≤ w3.heap.size := HB3.out.size; omega
           have hq5 := HW2.out.drew
           have hq6 := hq5.trans (HB3.out.mono (by show w.heap.size ≤ W2.heap.size; omega))
           have hq7 := ((hq6.alloc (by omega) (.cells #[.int .i64 8, .int .i64 1, .int .i64 0, .int .i64 0, .int .i64 0, .int .i64 0, .int .i64 c, .int .i64 0] 65)).alloc (by rw [szA]; omega) (.cells #[.slice (some ⟨w3.heap.size, 0, none⟩) 1 1, .slice a3 n k3] 37))
           have hq8 := hq7.trans (b4.mono (by rw [szA, szA]; omega))
           have HB4 := sl.hid hq8
           have HO4 : Hid (qo.OOwn w4 w.heap.size w4.heap.size v4 ([opIn c] ++ Z)) := sl.hid ((o4.lo (by rw [szA, szA]; omega)).oown)
           clear o4 b4 hq5 hq6 hq7 hq8))
      all_goals
        go_wp2
        go_ret2
        exact ⟨v4, by rw [HC.out]; rfl, by rw [HW.out]; exact HO4.out, HB4.out⟩
end Go.Proofs.Ytbbnheiibkcgiaa.mo
