/-
  ColumnsAfter of both sides.
-/
import Derived.Test.YtbbnheiibkcgiaaDoorKa9
namespace Go.Proofs.YtbbnheiibkcgiaaDoor.kn
open Go.RowKit Go.Proofs.YtbbnheiibkcgiaaDoor.sl Go.Proofs.YtbbnheiibkcgiaaDoor.br Go.Proofs.YtbbnheiibkcgiaaDoor.bw Go.Proofs.YtbbnheiibkcgiaaDoor.st Go.Proofs.YtbbnheiibkcgiaaDoor.cx Go.Proofs.YtbbnheiibkcgiaaDoor.ro
set_option linter.unusedVariables false

def colW (c : Int) (xs : List V) : List Int := (chW c xs).map fun r => (r.length : Int)
theorem colW_len (c : Int) (xs : List V) : (colW c xs).length ≤ 8 := by rw [colW, List.length_map]; exact chW_len c xs
theorem col_succ (R : List (List Int)) (j : Nat) (h : j < R.length) : (R.take (j + 1)).map (fun r => (r.length : Int)) = (R.take j).map (fun r => (r.length : Int)) ++ [((R.getD j []).length : Int)] := by
  rw [take_succ9 R j h, List.map_append]; rfl

set_option maxRecDepth 100000 in
set_option maxHeartbeats 2000000 in
theorem implCol (c : Int) (xs : List V) (f : Value) (B : Nat) (w : World) (ha : Infs w B f xs) (hB : B ≤ w.heap.size) (hq : Small xs) (hT : stb.Tab w) :
    Calls Tryd.prog 35 #[.agg #[.int .i64 c, f]] w fun e w' => ∃ v', e = .returned (.tuple #[v', .int .i64 (chC c xs)]) ∧ sl.Own w' w.heap.size w'.heap.size v' (colW c xs) ∧ Below w.heap.size w w' := by
  have hb0 := (Below.refl w.heap.size w).alloc (Nat.le_refl _) (.cells #[.int .i64 c, f] 30)
  have HS := hid (implStk c xs f B _ (ha.below hb0) (Nat.le_trans hB hb0.size) hq (stb.carry hT hb0))
  have HB0 := hid hb0
  obtain ⟨ao, cap, hv⟩ := infs_val ha
  clear ha hb0 hT
  generalize xs.length = n at *
  subst hv
  have HL8 := hid (chW_len c xs)
  have HR8 := hid (row8 c xs)
  obtain ⟨U, hU⟩ : ∃ U, U = colW c xs := ⟨_, rfl⟩
  rw [← hU]
  have HU2 : Hid (U = (chW c xs).map fun r => (r.length : Int)) := hid hU
  clear hU
  generalize chC c xs = k at *
  generalize chW c xs = R at *
  obtain ⟨i0, hi, hz0, hz1, hz2⟩ := info_parts info64
  obtain ⟨m, hm⟩ : ∃ m, m = R.length := ⟨_, rfl⟩
  have HM := hid hm
  have hm8 : m ≤ 8 := by rw [hm]; exact HL8.out
  clear hm HL8
  go_enter Tryd.func35, Tryd.ntmps35
  go_wp2_with fail
  refine HS.out.mono ?_
  rintro e w1 ⟨v1, rfl, o1, b1⟩
  have B1 := hid (HB0.out.trans (b1.mono HB0.out.size))
  have O1 := hid o1
  obtain ⟨ao1, cp1, hv1⟩ := ss.rown_val o1
  clear b1 o1 HS
  rw [← HM.out] at hv1
  subst hv1
  go_wp2_with (at_make; refine wpList_make_own _ rfl _ _ 34 rfl w1.heap.size 2 i0 (.int .i64 0) 1 Tryd.underlying34 hi hz0 hz1 .i64 .i64 _ m rfl rfl (by omega) (by rw [hz2]; omega) (by unfold maxLen; omega) (Nat.le_refl _) ?_; intro W3 hown3 hgrow3; have HS3 : Hid (sl.Own W3 w1.heap.size W3.heap.size (.slice (some ⟨w1.heap.size, 0, none⟩) 0 m) []) := hid (sl.Own.mk' (xs := []) hown3); have HB3 : Hid (Below w1.heap.size w1 W3) := hid ⟨hgrow3.os, hgrow3.tape, hgrow3.output, hgrow3.size, fun q hq => hgrow3.block q hq (by simp)⟩; clear hown3 hgrow3)
  go_loopw [6, 19] (fun lv iv wr => ∃ (j : Nat) (z : Value), j ≤ m ∧ lv = z ∧ iv = .int .i64 j ∧ sl.Own wr w1.heap.size wr.heap.size z ((R.take j).map fun r => (r.length : Int)) ∧ Below w1.heap.size w1 wr) (fun _ iv _ => m - (intOf iv).toNat)
  case atStart => exact ⟨0, _, Nat.zero_le _, rfl, rfl, HS3.out, HB3.out⟩
  case round =>
    obtain ⟨j, z, hj, rfl, rfl, hsr, hbel⟩ := hrel
    have HSr := hid hsr
    have HBr := hid hbel
    have hzr := hbel.size
    clear hsr hbel HS3 HB3
    by_cases hlt : j < m
    · have hjR : j < R.length := by rw [← HM.out]; exact hlt
      obtain ⟨g, off, cp, V, hvv, hg, hc, hi', hni⟩ := rown_at O1.out j hjR
      rw [← HM.out] at hvv
      simp only [Value.slice.injEq, true_and] at hvv
      obtain ⟨rfl, rfl⟩ := hvv
      have hc1 := (HBr.out.cell (p := ⟨g, off + j, none⟩) hg).trans hc
      have h8 := HR8.out j hjR
      have HTk := hid (col_succ R j hjR)
      have hTl : ((R.take j).map fun r => (r.length : Int)).length ≤ 8 := by rw [List.length_map, List.length_take]; omega
      obtain ⟨a5, c5, hV⟩ := ints_val hi'
      clear hc hi' hni
      generalize (R.getD j []).length = rl at *
      subst hV
      go_wp2_with (at_builtin; refine wp_append rfl _ _ rfl w1.heap.size wr.heap.size _ ((R.take j).map fun r => (r.length : Int)) (rl : Int) HSr.out rfl rfl hzr (by omega) ?_; intro v9 w9 hown1 hchg1 hsz1; have HO1 := hid hown1; have HB1 := hid (HBr.out.trans (hchg1.below (Nat.le_refl _) hzr)); clear hown1 hchg1)
      go_roundw
      case rel => exact ⟨j + 1, _, by omega, rfl, by go_num, by rw [HTk.out]; exact HO1.out, HB1.out⟩
      case measure => simp [intOf]; omega
    · obtain rfl : j = m := by omega
      go_wp2
      go_ret2
      have hR := HSr.out.lo B1.out.size
      rw [HM.out, List.take_length, ← HU2.out] at hR
      exact ⟨_, rfl, hR, B1.out.trans (HBr.out.mono B1.out.size)⟩
end Go.Proofs.YtbbnheiibkcgiaaDoor.kn
