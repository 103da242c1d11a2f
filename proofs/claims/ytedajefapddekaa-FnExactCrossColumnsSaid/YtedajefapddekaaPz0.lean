/-
  slices.Concat of two lists of operations; operations that knit on needles: PlaceColumns of both sides.
-/
import Derived.Test.YtedajefapddekaaOz0
import Derived.Lib.AppendZeros
import Derived.OwnWalk
namespace Go.Proofs.Ytedajefapddekaa.mo
open Go.RowKit Go.Sort Go.Proofs.Ytedajefapddekaa.sl Go.Proofs.Ytedajefapddekaa.pm
set_option linter.unusedVariables false
set_option maxRecDepth 100000

theorem infoInt : (Try.prog.info? 3).map (fun i => (i.zero, i.size, i.bytes)) = some (some (.int .i64 0), 1, 8) := by kernel_rfl
theorem infoInt1 : Try.prog.underlying 3 = some (.int .i64) := by kernel_rfl
theorem growNilO (n : Nat) (w : World) (hn : n ≤ 1048576) (h0 : 0 < n) :
    Calls Try.prog 140 #[.slice none 0 0, .int .i64 n] w fun e w' => ∃ cap, e = .returned (.slice (some ⟨w.heap.size, 0, none⟩) 0 cap) ∧ qo.ROwn w' w.heap.size w'.heap.size (.slice (some ⟨w.heap.size, 0, none⟩) 0 cap) [] ∧ Below w.heap.size w w' := by
  obtain ⟨i0, hi, hz0, hz1, hz2⟩ := info_parts qo.infoO
  have hz := fun ty => Lib.run_append_nil_zeros (P := Try.prog) w 22 3 ty 79 i0 (.agg #[.int .i64 0, .int .i64 0, .int .i64 0, .int .i64 0, .int .i64 0, .int .i64 0, .int .i64 0, .int .i64 0]) .i64 .i64 Try.underlying22 infoInt1 hi hz0 n (by omega) (by rw [hz1]; omega) (by omega) (by rw [hz2]; omega)
  have hG1 := grownCap_ge w n 0 79
  have hG2 := grownCap_le_maxLen w n 0 79 (by unfold maxLen; omega)
  have HOwn : Hid (∀ G : Nat, n ≤ G → G ≤ maxLen → (w.drew.alloc (.cells (Builtin.zeroCells (Value.agg #[.int .i64 0, .int .i64 0, .int .i64 0, .int .i64 0, .int .i64 0, .int .i64 0, .int .i64 0, .int .i64 0]).cells n ++ Builtin.zeroCells (Value.agg #[.int .i64 0, .int .i64 0, .int .i64 0, .int .i64 0, .int .i64 0, .int .i64 0, .int .i64 0, .int .i64 0]).cells (G - n)) 79)).ownsRow w.heap.size 79 8 (.slice (some ⟨w.heap.size, 0, none⟩) 0 G) 0 []) := hid (fun G h1 h2 =>
    World.ownsRow_made (base := w.heap.size) (e := 79) (size := 8) w.drew _ G (Nat.le_refl _) h2 (by
      have e1 : (Value.agg #[.int .i64 0, .int .i64 0, .int .i64 0, .int .i64 0, .int .i64 0, .int .i64 0, .int .i64 0, .int .i64 0]).cells.size = 8 := rfl
      simp only [Array.size_append, size_zeroCells, e1]; omega))
  obtain ⟨G, hG⟩ : ∃ G, G = grownCap w n 0 79 := ⟨_, rfl⟩
  rw [← hG] at hz hG1 hG2
  have HO := hid (HOwn.out G hG1 hG2)
  unfold maxLen at hG2
  generalize hW : w.drew.alloc (.cells (Builtin.zeroCells (Value.agg #[.int .i64 0, .int .i64 0, .int .i64 0, .int .i64 0, .int .i64 0, .int .i64 0, .int .i64 0, .int .i64 0]).cells n ++ Builtin.zeroCells (Value.agg #[.int .i64 0, .int .i64 0, .int .i64 0, .int .i64 0, .int .i64 0, .int .i64 0, .int .i64 0, .int .i64 0]).cells (G - n)) 79) = w2 at *
  have HB : Hid (Below w.heap.size w w2) := hid (by rw [← hW]; exact ((Below.refl w.heap.size w).drew).alloc (Nat.le_refl _) _)
  clear hG hW HOwn hi hz0 hz1 hz2
  go_enter Try.func140, Try.ntmps140
  go_wp2_with (at_builtin; refine Lib.wpList_append_run _ rfl _ _ _ _ rfl _ _ rfl rfl _ _ (hz _) ?_)
  go_ret
  exact ⟨_, rfl, qo.ROwn.mk' (by rw [qo.cellsL_nil]; exact HO.out), HB.out⟩

set_option maxHeartbeats 4000000 in
theorem concatO (xs ys : List qo.V) (v u : Value) (g B : Nat) (w : World) (hg : g < w.heap.size) (c0 : w.cell? ⟨g, 0, none⟩ = some v) (c1 : w.cell? ⟨g, 1, none⟩ = some u) (ha : qo.Ops w B v xs) (hb : qo.Ops w B u ys) (hB : B ≤ w.heap.size) (hx : 0 < xs.length) (hx8 : xs.length ≤ 1000) (hy8 : ys.length ≤ 1000) :
    Calls Try.prog 126 #[.slice (some ⟨g, 0, none⟩) 2 2] w fun e w' => ∃ v', e = .returned v' ∧ qo.ROwn w' w.heap.size w'.heap.size v' (xs ++ ys) ∧ Below w.heap.size w w' := by
  obtain ⟨av, kv, hv⟩ := qo.ops_val ha
  obtain ⟨au, ku, hu⟩ := qo.ops_val hb
  obtain ⟨m, hm⟩ : ∃ m, m = xs.length := ⟨_, rfl⟩
  obtain ⟨k, hk⟩ : ∃ k, k = ys.length := ⟨_, rfl⟩
  rw [← hm] at hv hx hx8
  rw [← hk] at hu hy8
  have HA := hid ha
  have HBb := hid hb
  have HM := hid hm
  have HK := hid hk
  clear ha hb hm hk
  subst hv hu
  have hw1 : IntKind.i64.wrap (0 + (m : Int)) = (m : Int) := by rw [Int.zero_add]; exact IntWalk.i64_in _ (by omega)
  have hw2 : IntKind.i64.wrap ((m : Int) + (k : Int)) = ((m + k : Nat) : Int) := by rw [show ((m : Int) + (k : Int)) = ((m + k : Nat) : Int) by omega]; exact IntWalk.i64_in _ (by omega)
  have HGr := hid (fun W => growNilO (m + k) W (by omega) (by omega))
  go_enter Try.func126, Try.ntmps126
  go_wp2
  go_loop [3, 11] (fun t i => ∃ j : Nat, (j = 0 ∧ t = .int .i64 0 ∨ j = 1 ∧ t = .int .i64 m ∨ j = 2 ∧ t = .int .i64 ((m + k : Nat) : Int)) ∧ i = .int .i64 j) (fun _ i => 2 - (intOf i).toNat)
  case atStart => exact ⟨0, .inl ⟨rfl, rfl⟩, rfl⟩
  case round =>
    obtain ⟨j, hj, rfl⟩ := hrel
    rcases hj with ⟨rfl, rfl⟩ | ⟨rfl, rfl⟩ | ⟨rfl, rfl⟩
    · go_wp2
      go_round
      case rel => exact ⟨1, .inr (.inl ⟨rfl, by go_num⟩), by go_num⟩
      case measure => simp [intOf]
    · go_wp2
      go_round
      case rel => exact ⟨2, .inr (.inr ⟨rfl, by go_num⟩), by go_num⟩
      case measure => simp [intOf]
    · go_wp2_with fail
      refine (HGr.out w).mono ?_
      rintro e w1 ⟨cap1, rfl, o1, b1⟩
      have HO1 := hid o1
      have HB1 := hid b1
      clear o1 b1
      go_wp2
      go_loopw [6, 27] (fun z0 i wr => ∃ (j : Nat) (z : Value) (Z : List qo.V), (j = 0 ∧ Z = [] ∨ j = 1 ∧ Z = xs ∨ j = 2 ∧ Z = xs ++ ys) ∧ qo.ROwn wr w.heap.size wr.heap.size z Z ∧ z0 = z ∧ i = .int .i64 j ∧ Below w.heap.size w wr) (fun _ i _ => 2 - (intOf i).toNat)
      case atStart => exact ⟨0, _, _, .inl ⟨rfl, rfl⟩, HO1.out, rfl, rfl, HB1.out⟩
      case round =>
        obtain ⟨j, z, Z, hj, hz, rfl, rfl, hbr⟩ := hrel
        have HBr := hid hbr
        have HZ := hid hz
        have hzr := hbr.size
        have d0 := (hbr.cell (p := ⟨g, 0, none⟩) hg).trans c0
        have d1 := (hbr.cell (p := ⟨g, 1, none⟩) hg).trans c1
        have HAr := hid (HA.out.below hbr)
        have HBbr := hid (HBb.out.below hbr)
        clear hbr hz HO1 HB1
        rcases hj with ⟨rfl, rfl⟩ | ⟨rfl, rfl⟩ | ⟨rfl, rfl⟩
        · clear d1
          go_wp2_with (at_builtin; go_loud (refine qo.wp_appendS rfl _ _ rfl w.heap.size wr.heap.size _ _ [] xs B HZ.out rfl HAr.out rfl hzr (by simp) (by rw [← HM.out]; omega) ?_; intro v9 w9 h9 c9; have H9 := hid h9; have HB9 := hid (HBr.out.trans (c9.below (Nat.le_refl _) hzr)); clear h9 c9))
          go_roundw
          case rel => exact ⟨1, _, _, .inr (.inl ⟨rfl, List.nil_append _⟩), H9.out, rfl, by go_num, HB9.out⟩
          case measure => simp [intOf]
        · clear d0
          go_wp2_with (at_builtin; go_loud (refine qo.wp_appendS rfl _ _ rfl w.heap.size wr.heap.size _ _ _ ys B HZ.out rfl HBbr.out rfl hzr (by rw [← HM.out]; omega) (by rw [← HK.out]; omega) ?_; intro v9 w9 h9 c9; have H9 := hid h9; have HB9 := hid (HBr.out.trans (c9.below (Nat.le_refl _) hzr)); clear h9 c9))
          go_roundw
          case rel => exact ⟨2, _, _, .inr (.inr ⟨rfl, rfl⟩), H9.out, rfl, by go_num, HB9.out⟩
          case measure => simp [intOf]
        · go_wp2
          go_ret
          exact ⟨_, rfl, HZ.out, HBr.out⟩
end Go.Proofs.Ytedajefapddekaa.mo
