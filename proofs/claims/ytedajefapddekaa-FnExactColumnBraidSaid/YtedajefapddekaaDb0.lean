/-
  DoubleBraid: the letters by which blocks of strands change places, both sides.
-/
import Derived.Test.YtedajefapddekaaWd
import Derived.Test.YtedajefapddekaaEx
import Derived.Test.YtedajefapddekaaBp
import Derived.Test.YtedajefapddekaaH6
import Derived.Test.YtedajefapddekaaRed
import Derived.Test.YtedajefapddekaaCc
import Derived.Test.YtedajefapddekaaSr
import Derived.Laws.CopyOwn
import Derived.Deep.RegionHeld3
import Derived.RegionTactic
import Derived.BigQuiet
namespace Go.Proofs.Ytedajefapddekaa.db
open Go.RowKit Go.Proofs.Ytedajefapddekaa.sl Go.Proofs.Ytedajefapddekaa.pm Go.Proofs.Ytedajefapddekaa.fn Go.Proofs.Ytedajefapddekaa.br Go.Proofs.Ytedajefapddekaa.bw
set_option linter.unusedVariables false

def swI (sg pl t : Int) (a j : Nat) : List Int := (List.range j).map fun (q : Nat) => sg * (pl + t + ((a : Int) - 1 - (q : Int)) + 1)
def swO (sg pl : Int) (a b : Nat) : List Int := ((List.range b).map fun (t : Nat) => swI sg pl (t : Int) a a).flatten
theorem swI_zero (sg pl t : Int) (a : Nat) : swI sg pl t a 0 = [] := rfl
theorem swI_succ (sg pl t : Int) (a j : Nat) : swI sg pl t a (j + 1) = swI sg pl t a j ++ [sg * (pl + t + ((a : Int) - 1 - (j : Int)) + 1)] := by simp [swI, List.range_succ]
theorem swO_zero (sg pl : Int) (a : Nat) : swO sg pl a 0 = [] := rfl
theorem swO_succ (sg pl : Int) (a b : Nat) : swO sg pl a (b + 1) = swO sg pl a b ++ swI sg pl (b : Int) a a := by simp [swO, List.range_succ]
theorem swI_len (sg pl t : Int) (a j : Nat) : (swI sg pl t a j).length = j := by simp [swI]
theorem swO_len (sg pl : Int) (a b : Nat) : (swO sg pl a b).length = b * a := by
  induction b with
  | zero => simp [swO]
  | succ b ih => rw [swO_succ, List.length_append, ih, swI_len, Nat.succ_mul]

/-- The sizes of the blocks behind some letters. -/
def dbN (sizes word : List Int) (i : Nat) : List Int := (word.take i).foldl (fun now x => swapAt now (ab x - 1).toNat) sizes
/-- What one letter writes. -/
def dbL (sizes word : List Int) (i : Nat) : List Int :=
  swO (sg (word.getD i 0)) (sumL ((dbN sizes word i).take (ab (word.getD i 0) - 1).toNat)) ((dbN sizes word i).getD (ab (word.getD i 0) - 1).toNat 0).toNat ((dbN sizes word i).getD ((ab (word.getD i 0) - 1).toNat + 1) 0).toNat
def dbW (sizes word : List Int) (i : Nat) : List Int := ((List.range i).map fun j => dbL sizes word j).flatten
theorem dbN_zero (sizes word : List Int) : dbN sizes word 0 = sizes := by simp [dbN]
theorem dbN_succ (sizes word : List Int) (i : Nat) (h : i < word.length) : dbN sizes word (i + 1) = swapAt (dbN sizes word i) (ab (word.getD i 0) - 1).toNat := by
  rw [dbN, List.take_succ_eq_append_getElem h, List.foldl_append]
  simp [dbN, List.getD, List.getElem?_eq_getElem h]
theorem dbW_zero (sizes word : List Int) : dbW sizes word 0 = [] := rfl
theorem dbW_succ (sizes word : List Int) (i : Nat) : dbW sizes word (i + 1) = dbW sizes word i ++ dbL sizes word i := by simp [dbW, List.range_succ]
theorem dbN_len (sizes word : List Int) (i : Nat) (h : i ≤ word.length) : (dbN sizes word i).length = sizes.length := by
  induction i with
  | zero => rw [dbN_zero]
  | succ i ih => rw [dbN_succ sizes word i h, swap_len, ih (by omega)]
theorem swap_all {P : Int → Prop} (h0 : P 0) (p : List Int) (k : Nat) (h : ∀ j, P (p.getD j 0)) : ∀ j, P ((swapAt p k).getD j 0) := by
  intro j
  by_cases hj : j < p.length
  · have e : (swapAt p k).getD j 0 = if k + 1 = j then p.getD k 0 else if k = j then p.getD (k + 1) 0 else p.getD j 0 := by
      simp only [swapAt, List.getD, List.getElem?_set, List.length_set]
      split
      · rename_i h1; rw [if_pos (by omega)]; rfl
      · split
        · rename_i h1 h2; rw [if_pos (by omega)]; rfl
        · rfl
    rw [e]
    split
    · exact h k
    · split
      · exact h (k + 1)
      · exact h j
  · have e : (swapAt p k).getD j 0 = 0 := by
      simp [List.getD, List.getElem?_eq_none (show (swapAt p k).length ≤ j by rw [swap_len]; omega)]
    rw [e]; exact h0
theorem dbN_all {P : Int → Prop} (h0 : P 0) (sizes word : List Int) (h : ∀ j, P (sizes.getD j 0)) (i : Nat) (hi : i ≤ word.length) : ∀ j, P ((dbN sizes word i).getD j 0) := by
  induction i with
  | zero => rw [dbN_zero]; exact h
  | succ i ih => rw [dbN_succ sizes word i hi]; exact swap_all h0 _ _ (ih (by omega))

set_option maxRecDepth 100000 in
set_option maxHeartbeats 2000000 in
theorem specSwap (sg pl : Int) (a b : Nat) (w : World) (hs : sg = 1 ∨ sg = -1) (hp : 0 ≤ pl ∧ pl ≤ 100000) (ha : a ≤ 100) (hb : b ≤ 100) :
    Calls Try.prog 62 #[.int .i64 pl, .int .i64 (a : Int), .int .i64 (b : Int), .int .i64 sg] w fun e w' => ∃ v', e = .returned v' ∧ sl.Own w' w.heap.size w'.heap.size v' (swO sg pl a b) ∧ Below w.heap.size w w' := by
  go_enter Try.func62, Try.ntmps62
  go_wp2
  go_loopw [9, 10] (fun v i wr => ∃ t : Nat, t ≤ b ∧ i = .int .i64 (t : Int) ∧ sl.Own wr w.heap.size wr.heap.size v (swO sg pl a t) ∧ Below w.heap.size w wr)
    (fun _ i _ => b - (intOf i).toNat)
  case atStart => exact ⟨0, Nat.zero_le _, rfl, sl.Own.built w _ rfl, (Below.refl _ _).alloc (Nat.le_refl _) _⟩
  case round =>
    obtain ⟨t, ht, rfl, ho, hbl⟩ := hrel
    have HO := hid ho
    have HB := hid hbl
    clear ho hbl
    by_cases hlt : t < b
    · go_wp2
      go_loopw [9, 11] (fun v i wr => ∃ j : Nat, j ≤ a ∧ i = .int .i64 ((a : Int) - 1 - (j : Int)) ∧ sl.Own wr w.heap.size wr.heap.size v (swO sg pl a t ++ swI sg pl (t : Int) a j) ∧ Below w.heap.size w wr)
        (fun _ i _ => (intOf i + 1).toNat)
      case atStart => exact ⟨0, Nat.zero_le _, by go_num, by rw [swI_zero, List.append_nil]; exact HO.out, HB.out⟩
      case round =>
        obtain ⟨j, hj, rfl, ho, hbl⟩ := hrel
        have HO2 := hid ho
        have HB2 := hid hbl
        have hsz := hbl.size
        clear ho hbl HO HB
        by_cases hjl : j < a
        · have hsl : Hid ((swO sg pl a t ++ swI sg pl (t : Int) a j).length ≤ 1099511627776) := hid (by
            rw [List.length_append, swO_len, swI_len]
            have : t * a ≤ 100 * 100 := Nat.mul_le_mul (by omega) ha
            omega)
          have HSu := hid (swI_succ sg pl (t : Int) a j)
          obtain ⟨y, hy⟩ : ∃ y : Int, y = sg * (pl + (t : Int) + ((a : Int) - 1 - (j : Int)) + 1) := ⟨_, rfl⟩
          have h1 : IntKind.i64.wrap (pl + (t : Int)) = pl + (t : Int) := by rw [IntKind.wrap_i64]; omega
          have h2 : IntKind.i64.wrap (pl + (t : Int) + ((a : Int) - 1 - (j : Int))) = pl + (t : Int) + ((a : Int) - 1 - (j : Int)) := by rw [IntKind.wrap_i64]; omega
          have h3 : IntKind.i64.wrap (pl + (t : Int) + ((a : Int) - 1 - (j : Int)) + 1) = pl + (t : Int) + ((a : Int) - 1 - (j : Int)) + 1 := by rw [IntKind.wrap_i64]; omega
          have h4 : IntKind.i64.wrap (sg * (pl + (t : Int) + ((a : Int) - 1 - (j : Int)) + 1)) = y := by rw [hy, IntKind.wrap_i64]; rcases hs with rfl | rfl <;> omega
          have hge : (0 : Int) ≤ (a : Int) - 1 - (j : Int) := by omega
          rw [← hy] at HSu
          clear hy
          go_wp2_with (at_builtin; refine wp_append rfl _ _ rfl w.heap.size wr.heap.size _ (swO sg pl a t ++ swI sg pl (t : Int) a j) y HO2.out rfl rfl hsz hsl.out ?_; intro v' w3 o3 c3 z3)
          have HO3 := hid o3
          have HB3 := hid (HB2.out.trans (c3.below (Nat.le_refl _) hsz))
          clear o3 c3
          go_wp2
          go_roundw
          case rel => exact ⟨j + 1, by omega, by go_num, by rw [HSu.out, ← List.append_assoc]; exact HO3.out, HB3.out⟩
          case measure => simp [intOf]; omega
        · obtain rfl : j = a := by omega
          have HSu := hid (swO_succ sg pl j t)
          go_wp2
          go_roundw
          case rel => exact ⟨t + 1, by omega, by go_num, by rw [HSu.out]; exact HO2.out, HB2.out⟩
          case measure => simp [intOf]; omega
    · obtain rfl : t = b := by omega
      go_wp2
      go_ret
      exact ⟨_, rfl, HO.out, HB.out⟩

set_option maxRecDepth 100000 in
set_option maxHeartbeats 2000000 in
theorem implCross (sg pl : Int) (a b : Nat) (w : World) (hs : sg = 1 ∨ sg = -1) (hp : 0 ≤ pl ∧ pl ≤ 100000) (ha : a ≤ 100) (hb : b ≤ 100) :
    Calls Try.prog 63 #[.int .i64 sg, .int .i64 pl, .int .i64 (a : Int), .int .i64 (b : Int)] w fun e w' => ∃ v', e = .returned v' ∧ sl.Own w' w.heap.size w'.heap.size v' (swO sg pl a b) ∧ Below w.heap.size w w' := by
  go_enter Try.func63, Try.ntmps63
  obtain ⟨N, hN, hN2⟩ : ∃ N : Nat, (a : Int) * (b : Int) = (N : Int) ∧ N ≤ 10000 := ⟨a * b, (Int.natCast_mul a b).symm, Nat.mul_le_mul ha hb⟩
  have hm : IntKind.i64.wrap ((a : Int) * (b : Int)) = (N : Int) := by rw [hN, IntKind.wrap_i64]; omega
  obtain ⟨i0, hi, hz0, hz1, hz2⟩ := info_parts info64
  clear hN
  go_wp2_with (at_make; refine wpList_make_own _ rfl _ _ 30 rfl w.heap.size 2 i0 (.int .i64 0) 1 Try.underlying30 hi hz0 hz1 .i64 .i64 _ N rfl rfl (by omega) (by rw [hz2]; omega) (by unfold maxLen; omega) (Nat.le_refl _) ?_; intro w2 hown2 hgrow2; have HO0 : Hid (sl.Own w2 w.heap.size w2.heap.size (.slice (some ⟨w.heap.size, 0, none⟩) 0 N) []) := hid (sl.Own.mk' (xs := []) (by simpa using hown2)); have HB0 := (hid ((Below.refl _ _).grown hgrow2 (Nat.le_refl _) (fun k hk => by cases hk)) : Hid (Below w.heap.size w w2)); clear hown2 hgrow2)
  clear hm
  go_loopw [9, 17] (fun v i wr => ∃ t : Nat, t ≤ b ∧ i = .int .i64 (t : Int) ∧ sl.Own wr w.heap.size wr.heap.size v (swO sg pl a t) ∧ Below w.heap.size w wr)
    (fun _ i _ => b - (intOf i).toNat)
  case atStart => exact ⟨0, Nat.zero_le _, rfl, HO0.out, HB0.out⟩
  case round =>
    obtain ⟨t, ht, rfl, ho, hbl⟩ := hrel
    have HO := hid ho
    have HB := hid hbl
    clear ho hbl
    by_cases hlt : t < b
    · go_wp2
      go_loopw [9, 11] (fun v i wr => ∃ j : Nat, j ≤ a ∧ i = .int .i64 ((a : Int) - 1 - (j : Int)) ∧ sl.Own wr w.heap.size wr.heap.size v (swO sg pl a t ++ swI sg pl (t : Int) a j) ∧ Below w.heap.size w wr)
        (fun _ i _ => (intOf i + 1).toNat)
      case atStart => exact ⟨0, Nat.zero_le _, by go_num, by rw [swI_zero, List.append_nil]; exact HO.out, HB.out⟩
      case round =>
        obtain ⟨j, hj, rfl, ho, hbl⟩ := hrel
        have HO2 := hid ho
        have HB2 := hid hbl
        have hsz := hbl.size
        clear ho hbl HO HB
        by_cases hjl : j < a
        · have hsl : Hid ((swO sg pl a t ++ swI sg pl (t : Int) a j).length ≤ 1099511627776) := hid (by
            rw [List.length_append, swO_len, swI_len]
            have : t * a ≤ 100 * 100 := Nat.mul_le_mul (by omega) ha
            omega)
          have HSu := hid (swI_succ sg pl (t : Int) a j)
          obtain ⟨y, hy⟩ : ∃ y : Int, y = sg * (pl + (t : Int) + ((a : Int) - 1 - (j : Int)) + 1) := ⟨_, rfl⟩
          have h1 : IntKind.i64.wrap (pl + (t : Int)) = pl + (t : Int) := by rw [IntKind.wrap_i64]; omega
          have h2 : IntKind.i64.wrap (pl + (t : Int) + ((a : Int) - 1 - (j : Int))) = pl + (t : Int) + ((a : Int) - 1 - (j : Int)) := by rw [IntKind.wrap_i64]; omega
          have h3 : IntKind.i64.wrap (pl + (t : Int) + ((a : Int) - 1 - (j : Int)) + 1) = pl + (t : Int) + ((a : Int) - 1 - (j : Int)) + 1 := by rw [IntKind.wrap_i64]; omega
          have h4 : IntKind.i64.wrap (sg * (pl + (t : Int) + ((a : Int) - 1 - (j : Int)) + 1)) = y := by rw [hy, IntKind.wrap_i64]; rcases hs with rfl | rfl <;> omega
          have hge : (0 : Int) ≤ (a : Int) - 1 - (j : Int) := by omega
          rw [← hy] at HSu
          clear hy
          go_wp2_with (at_builtin; refine wp_append rfl _ _ rfl w.heap.size wr.heap.size _ (swO sg pl a t ++ swI sg pl (t : Int) a j) y HO2.out rfl rfl hsz hsl.out ?_; intro v' w3 o3 c3 z3)
          have HO3 := hid o3
          have HB3 := hid (HB2.out.trans (c3.below (Nat.le_refl _) hsz))
          clear o3 c3
          go_wp2
          go_roundw
          case rel => exact ⟨j + 1, by omega, by go_num, by rw [HSu.out, ← List.append_assoc]; exact HO3.out, HB3.out⟩
          case measure => simp [intOf]; omega
        · obtain rfl : j = a := by omega
          have HSu := hid (swO_succ sg pl j t)
          go_wp2
          go_roundw
          case rel => exact ⟨t + 1, by omega, by go_num, by rw [HSu.out]; exact HO2.out, HB2.out⟩
          case measure => simp [intOf]; omega
    · obtain rfl : t = b := by omega
      go_wp2
      go_ret
      exact ⟨_, rfl, HO.out, HB.out⟩
end Go.Proofs.Ytedajefapddekaa.db
