/-
  Valid operations of both sides.
-/
import Derived.Test.YtaconeliiicloaaVs1
import Derived.Test.YtaconeliiicloaaVi1
import Derived.Test.YtaconeliiicloaaVs2
import Derived.Test.YtaconeliiicloaaVi2
import Derived.Test.YtaconeliiicloaaVs3
import Derived.Test.YtaconeliiicloaaVi3
import Derived.Test.YtaconeliiicloaaVs4
import Derived.Test.YtaconeliiicloaaVi4
import Derived.Test.YtaconeliiicloaaVs5
import Derived.Test.YtaconeliiicloaaVi5
import Derived.Test.YtaconeliiicloaaVs6
import Derived.Test.YtaconeliiicloaaVi6
import Derived.Test.YtaconeliiicloaaVs7
import Derived.Test.YtaconeliiicloaaVi7
import Derived.Test.YtaconeliiicloaaVs8
import Derived.Test.YtaconeliiicloaaVi8
import Derived.Test.YtaconeliiicloaaVs9
import Derived.Test.YtaconeliiicloaaVi9
namespace Go.Proofs.Ytaconeliiicloaa.vo
open Go.RowKit Go.Sort Go.Proofs.Ytaconeliiicloaa.nd Go.Proofs.Ytaconeliiicloaa.sl
set_option linter.unusedVariables false
set_option linter.unusedSimpArgs false

theorem bcell {W w1 : World} (hb : Below W.heap.size W w1) : (∀ b o, b < W.heap.size → w1.cell? ⟨b, o, none⟩ = W.cell? ⟨b, o, none⟩) ∧ (∀ b o, b < W.heap.size → w1.frozen? ⟨b, o, none⟩ = W.frozen? ⟨b, o, none⟩) :=
  ⟨fun b o h => hb.cell (p := ⟨b, o, none⟩) h, fun b o h => hb.frozen (p := ⟨b, o, none⟩) h⟩
/-- A valid operation. -/
def opB (k d fb fa tb ta c r : Int) : Bool :=
  if k = 1 then dirB d && validB fb fa && (tb == 0 && ta == 0) && carB c && r == 0 else if k = 2 then dirB d && validB fb fa && (tb == 0 && ta == 0) && carB c && r == 0 else if k = 3 then dirB d && validB fb fa && (tb == 0 && ta == 0) && carB c && r == 0 else if k = 4 then d == 0 && validB fb fa && validB tb ta && fb != tb && c == 0 && r == 0 else if k = 5 then dirB d && validB fb fa && validB tb ta && fb != tb && carB c && r == 0 else if k = 6 then d == 0 && validB fb fa && (tb == 0 && ta == 0) && c == 0 && r == 0 else if k = 7 then (d == 0 && fb == 0 && fa == 0 && tb == 0 && ta == 0 && c == 0) && decide (-3 ≤ r ∧ r ≤ 3) else if k = 8 then (fb == 0 && fa == 0 && tb == 0 && ta == 0 && r == 0) && dirB d && carB c else if k = 9 then (d == 0 && fb == 0 && fa == 0 && tb == 0 && ta == 0 && r == 0) && carB c else false
theorem opB_1 (d fb fa tb ta c r : Int) : opB 1 d fb fa tb ta c r = (dirB d && validB fb fa && (tb == 0 && ta == 0) && carB c && r == 0) := rfl
theorem opB_2 (d fb fa tb ta c r : Int) : opB 2 d fb fa tb ta c r = (dirB d && validB fb fa && (tb == 0 && ta == 0) && carB c && r == 0) := rfl
theorem opB_3 (d fb fa tb ta c r : Int) : opB 3 d fb fa tb ta c r = (dirB d && validB fb fa && (tb == 0 && ta == 0) && carB c && r == 0) := rfl
theorem opB_4 (d fb fa tb ta c r : Int) : opB 4 d fb fa tb ta c r = (d == 0 && validB fb fa && validB tb ta && fb != tb && c == 0 && r == 0) := rfl
theorem opB_5 (d fb fa tb ta c r : Int) : opB 5 d fb fa tb ta c r = (dirB d && validB fb fa && validB tb ta && fb != tb && carB c && r == 0) := rfl
theorem opB_6 (d fb fa tb ta c r : Int) : opB 6 d fb fa tb ta c r = (d == 0 && validB fb fa && (tb == 0 && ta == 0) && c == 0 && r == 0) := rfl
theorem opB_7 (d fb fa tb ta c r : Int) : opB 7 d fb fa tb ta c r = ((d == 0 && fb == 0 && fa == 0 && tb == 0 && ta == 0 && c == 0) && decide (-3 ≤ r ∧ r ≤ 3)) := rfl
theorem opB_8 (d fb fa tb ta c r : Int) : opB 8 d fb fa tb ta c r = ((fb == 0 && fa == 0 && tb == 0 && ta == 0 && r == 0) && dirB d && carB c) := rfl
theorem opB_9 (d fb fa tb ta c r : Int) : opB 9 d fb fa tb ta c r = ((d == 0 && fb == 0 && fa == 0 && tb == 0 && ta == 0 && r == 0) && carB c) := rfl
theorem opB_none {k : Int} (d fb fa tb ta c r : Int) (h : ¬ (1 ≤ k ∧ k ≤ 9)) : opB k d fb fa tb ta c r = false := by
  unfold opB; rw [if_neg (by omega)]; rw [if_neg (by omega)]; rw [if_neg (by omega)]; rw [if_neg (by omega)]; rw [if_neg (by omega)]; rw [if_neg (by omega)]; rw [if_neg (by omega)]; rw [if_neg (by omega)]; rw [if_neg (by omega)]
theorem opE_1 (d fb fa tb ta c r : Int) : ((dirB d && validB fb fa && carB c) && (tb == 0 && ta == 0 && r == 0)) = opB 1 d fb fa tb ta c r := by
  rw [opB_1]
  generalize dirB d = u0
  generalize validB fb fa = u1
  generalize carB c = u2
  generalize (tb == 0) = u3
  generalize (ta == 0) = u4
  generalize (r == 0) = u5
  revert u0 u1 u2 u3 u4 u5; decide
theorem opE_2 (d fb fa tb ta c r : Int) : ((dirB d && validB fb fa && carB c) && (tb == 0 && ta == 0 && r == 0)) = opB 2 d fb fa tb ta c r := by
  rw [opB_2]
  generalize dirB d = u0
  generalize validB fb fa = u1
  generalize carB c = u2
  generalize (tb == 0) = u3
  generalize (ta == 0) = u4
  generalize (r == 0) = u5
  revert u0 u1 u2 u3 u4 u5; decide
theorem opE_3 (d fb fa tb ta c r : Int) : ((dirB d && validB fb fa && carB c) && (tb == 0 && ta == 0 && r == 0)) = opB 3 d fb fa tb ta c r := by
  rw [opB_3]
  generalize dirB d = u0
  generalize validB fb fa = u1
  generalize carB c = u2
  generalize (tb == 0) = u3
  generalize (ta == 0) = u4
  generalize (r == 0) = u5
  revert u0 u1 u2 u3 u4 u5; decide
theorem opE_4 (d fb fa tb ta c r : Int) : ((validB fb fa && validB tb ta && fb != tb) && (d == 0 && c == 0 && r == 0)) = opB 4 d fb fa tb ta c r := by
  rw [opB_4]
  generalize validB fb fa = u0
  generalize validB tb ta = u1
  generalize (fb != tb) = u2
  generalize (d == 0) = u3
  generalize (c == 0) = u4
  generalize (r == 0) = u5
  revert u0 u1 u2 u3 u4 u5; decide
theorem opE_5 (d fb fa tb ta c r : Int) : ((dirB d && validB fb fa && carB c) && (validB fb fa && validB tb ta && fb != tb) && (r == 0)) = opB 5 d fb fa tb ta c r := by
  rw [opB_5]
  generalize dirB d = u0
  generalize validB fb fa = u1
  generalize validB tb ta = u2
  generalize carB c = u3
  generalize (fb != tb) = u4
  generalize (r == 0) = u5
  revert u0 u1 u2 u3 u4 u5; decide
theorem opE_6 (d fb fa tb ta c r : Int) : (validB fb fa && (d == 0 && tb == 0 && ta == 0 && c == 0 && r == 0)) = opB 6 d fb fa tb ta c r := by
  rw [opB_6]
  generalize validB fb fa = u0
  generalize (d == 0) = u1
  generalize (tb == 0) = u2
  generalize (ta == 0) = u3
  generalize (c == 0) = u4
  generalize (r == 0) = u5
  revert u0 u1 u2 u3 u4 u5; decide
theorem opE_7 (d fb fa tb ta c r : Int) : (decide (-3 ≤ r ∧ r ≤ 3) && (d == 0 && fb == 0 && fa == 0 && tb == 0 && ta == 0 && c == 0)) = opB 7 d fb fa tb ta c r := by
  rw [opB_7]
  generalize decide (-3 ≤ r ∧ r ≤ 3) = u0
  generalize (d == 0) = u1
  generalize (fb == 0) = u2
  generalize (fa == 0) = u3
  generalize (tb == 0) = u4
  generalize (ta == 0) = u5
  generalize (c == 0) = u6
  revert u0 u1 u2 u3 u4 u5 u6; decide
theorem opE_8 (d fb fa tb ta c r : Int) : (dirB d && carB c && (fb == 0 && fa == 0 && tb == 0 && ta == 0 && r == 0)) = opB 8 d fb fa tb ta c r := by
  rw [opB_8]
  generalize dirB d = u0
  generalize carB c = u1
  generalize (fb == 0) = u2
  generalize (fa == 0) = u3
  generalize (tb == 0) = u4
  generalize (ta == 0) = u5
  generalize (r == 0) = u6
  revert u0 u1 u2 u3 u4 u5 u6; decide
theorem opE_9 (d fb fa tb ta c r : Int) : (carB c && (d == 0 && fb == 0 && fa == 0 && tb == 0 && ta == 0 && r == 0)) = opB 9 d fb fa tb ta c r := by
  rw [opB_9]
  generalize carB c = u0
  generalize (d == 0) = u1
  generalize (fb == 0) = u2
  generalize (fa == 0) = u3
  generalize (tb == 0) = u4
  generalize (ta == 0) = u5
  generalize (r == 0) = u6
  revert u0 u1 u2 u3 u4 u5 u6; decide
set_option maxRecDepth 100000 in
set_option maxHeartbeats 1000000 in
theorem specNone (k d fb fa tb ta c r : Int) (p o : Nat) (w : World) (H : OpAt w p o k d fb fa tb ta c r) (h : ¬ (1 ≤ k ∧ k ≤ 9)) : Calls Try.prog 105 #[.pointer (some ⟨p, o, none⟩)] w fun e w' => e = .returned (.bool false) ∧ Below w.heap.size w w' := by
  have bE : Below w.heap.size w (w.alloc (.cells #[.int .i64 0, .int .i64 0] 87)) := (Below.refl _ _).alloc (Nat.le_refl _) _
  have h0 := (H.below bE).c0
  have e1 : (k == 1) = false := by simp; omega
  have e2 : (k == 2) = false := by simp; omega
  have e3 : (k == 3) = false := by simp; omega
  have e4 : (k == 4) = false := by simp; omega
  have e5 : (k == 5) = false := by simp; omega
  have e6 : (k == 6) = false := by simp; omega
  have e7 : (k == 7) = false := by simp; omega
  have e8 : (k == 8) = false := by simp; omega
  have e9 : (k == 9) = false := by simp; omega
  clear H h
  have BE := hid bE
  clear bE
  go_enter Try.func105, Try.ntmps105
  go_wp2
  go_ret
  exact ⟨rfl, BE.out⟩
theorem specAt (k d fb fa tb ta c r : Int) (p o : Nat) (w : World) (H : OpAt w p o k d fb fa tb ta c r) : Calls Try.prog 105 #[.pointer (some ⟨p, o, none⟩)] w fun e w' => e = .returned (.bool (opB k d fb fa tb ta c r)) ∧ Below w.heap.size w w' := by
  by_cases h1 : k = 1
  · subst h1; rw [opB_1]; exact spec1 d fb fa tb ta c r p o w H _ _ _ _ _ rfl rfl rfl rfl rfl
  by_cases h2 : k = 2
  · subst h2; rw [opB_2]; exact spec2 d fb fa tb ta c r p o w H _ _ _ _ _ rfl rfl rfl rfl rfl
  by_cases h3 : k = 3
  · subst h3; rw [opB_3]; exact spec3 d fb fa tb ta c r p o w H _ _ _ _ _ rfl rfl rfl rfl rfl
  by_cases h4 : k = 4
  · subst h4; rw [opB_4]; exact spec4 d fb fa tb ta c r p o w H _ _ _ _ _ _ rfl rfl rfl rfl rfl rfl
  by_cases h5 : k = 5
  · subst h5; rw [opB_5]; exact spec5 d fb fa tb ta c r p o w H _ _ _ _ _ _ rfl rfl rfl rfl rfl rfl
  by_cases h6 : k = 6
  · subst h6; rw [opB_6]; exact spec6 d fb fa tb ta c r p o w H _ _ _ _ _ rfl rfl rfl rfl rfl
  by_cases h7 : k = 7
  · subst h7; rw [opB_7]; exact spec7 d fb fa tb ta c r p o w H _ _ rfl rfl
  by_cases h8 : k = 8
  · subst h8; rw [opB_8]; exact spec8 d fb fa tb ta c r p o w H _ _ _ rfl rfl rfl
  by_cases h9 : k = 9
  · subst h9; rw [opB_9]; exact spec9 d fb fa tb ta c r p o w H _ _ rfl rfl
  rw [opB_none _ _ _ _ _ _ _ (by omega)]; exact specNone k d fb fa tb ta c r p o w H (by omega)
set_option maxRecDepth 100000 in
set_option maxHeartbeats 1000000 in
theorem opOfNone (k d fb fa tb ta c r : Int) (w : World) (h : ¬ (1 ≤ k ∧ k ≤ 9)) : Calls Try.prog 153 #[.agg #[.int .i64 k, .int .i64 d, .int .i64 fb, .int .i64 fa, .int .i64 tb, .int .i64 ta, .int .i64 c, .int .i64 r]] w fun e w' => e = .returned .nilIface ∧ Below w.heap.size w w' := by
  have hd : decide (1 ≤ k ∧ k ≤ 9) = false := decide_eq_false h
  clear h
  go_enter Try.func153, Try.ntmps153
  go_wp2_with (go_at_call 57; refine (nd.within64 _ _ _ _).mono ?_; rintro e w' ⟨rfl, rfl⟩)
  go_ret
  exact ⟨rfl, (Below.refl _ _).alloc (Nat.le_refl _) _⟩
set_option maxRecDepth 100000 in
set_option maxHeartbeats 1000000 in
theorem implNone (k d fb fa tb ta c r : Int) (w : World) (h : ¬ (1 ≤ k ∧ k ≤ 9)) : Calls Try.prog 136 #[.agg #[.int .i64 k, .int .i64 d, .int .i64 fb, .int .i64 fa, .int .i64 tb, .int .i64 ta, .int .i64 c, .int .i64 r]] w fun e w' => e = .returned (.bool false) ∧ Below w.heap.size w w' := by
  have T1 : ∀ (W : World), (Instr.typeAssert .nilIface 166 168 true).run Try.prog W = .ok (.tuple #[.agg #[.int .i64 0, .int .i64 0, .int .i64 0, .int .i64 0, .int .i64 0, .int .i64 0, .int .i64 0, .int .i64 0], .bool false]) W := fun W => by kernel_rfl
  have T2 : ∀ (W : World), (Instr.typeAssert .nilIface 166 169 true).run Try.prog W = .ok (.tuple #[.agg #[.int .i64 0, .int .i64 0, .int .i64 0, .int .i64 0, .int .i64 0, .int .i64 0, .int .i64 0, .int .i64 0], .bool false]) W := fun W => by kernel_rfl
  have T3 : ∀ (W : World), (Instr.typeAssert .nilIface 166 170 true).run Try.prog W = .ok (.tuple #[.agg #[.int .i64 0, .int .i64 0, .int .i64 0, .int .i64 0, .int .i64 0, .int .i64 0, .int .i64 0, .int .i64 0], .bool false]) W := fun W => by kernel_rfl
  have T4 : ∀ (W : World), (Instr.typeAssert .nilIface 166 171 true).run Try.prog W = .ok (.tuple #[.agg #[.int .i64 0, .int .i64 0, .int .i64 0, .int .i64 0, .int .i64 0, .int .i64 0, .int .i64 0, .int .i64 0], .bool false]) W := fun W => by kernel_rfl
  have T5 : ∀ (W : World), (Instr.typeAssert .nilIface 166 172 true).run Try.prog W = .ok (.tuple #[.agg #[.int .i64 0, .int .i64 0, .int .i64 0, .int .i64 0, .int .i64 0, .int .i64 0, .int .i64 0, .int .i64 0], .bool false]) W := fun W => by kernel_rfl
  have T6 : ∀ (W : World), (Instr.typeAssert .nilIface 166 173 true).run Try.prog W = .ok (.tuple #[.agg #[.int .i64 0, .int .i64 0, .int .i64 0, .int .i64 0, .int .i64 0, .int .i64 0, .int .i64 0, .int .i64 0], .bool false]) W := fun W => by kernel_rfl
  have T7 : ∀ (W : World), (Instr.typeAssert .nilIface 166 174 true).run Try.prog W = .ok (.tuple #[.agg #[.int .i64 0, .int .i64 0, .int .i64 0, .int .i64 0, .int .i64 0, .int .i64 0, .int .i64 0, .int .i64 0], .bool false]) W := fun W => by kernel_rfl
  have T8 : ∀ (W : World), (Instr.typeAssert .nilIface 166 175 true).run Try.prog W = .ok (.tuple #[.agg #[.int .i64 0, .int .i64 0, .int .i64 0, .int .i64 0, .int .i64 0, .int .i64 0, .int .i64 0, .int .i64 0], .bool false]) W := fun W => by kernel_rfl
  have T9 : ∀ (W : World), (Instr.typeAssert .nilIface 166 176 true).run Try.prog W = .ok (.tuple #[.agg #[.int .i64 0, .int .i64 0, .int .i64 0, .int .i64 0, .int .i64 0, .int .i64 0, .int .i64 0, .int .i64 0], .bool false]) W := fun W => by kernel_rfl
  have bE : Below w.heap.size w (w.alloc (.cells #[.int .i64 k, .int .i64 d, .int .i64 fb, .int .i64 fa, .int .i64 tb, .int .i64 ta, .int .i64 c, .int .i64 r] 90)) := (Below.refl _ _).alloc (Nat.le_refl _) _
  have HN := hid (fun W => opOfNone k d fb fa tb ta c r W h)
  clear h
  go_enter Try.func136, Try.ntmps136
  go_wp2_with fail
  generalize w.alloc (.cells #[.int .i64 k, .int .i64 d, .int .i64 fb, .int .i64 fa, .int .i64 tb, .int .i64 ta, .int .i64 c, .int .i64 r] 90) = W0 at *
  refine (HN.out _).mono ?_
  rintro e w0 ⟨rfl, hb⟩
  have BE := hid (bE.trans (hb.mono bE.size))
  clear hb bE
  go_wp2
  go_ret
  exact ⟨rfl, BE.out⟩
theorem implVO (k d fb fa tb ta c r : Int) (w : World) : Calls Try.prog 136 #[.agg #[.int .i64 k, .int .i64 d, .int .i64 fb, .int .i64 fa, .int .i64 tb, .int .i64 ta, .int .i64 c, .int .i64 r]] w fun e w' => e = .returned (.bool (opB k d fb fa tb ta c r)) ∧ Below w.heap.size w w' := by
  by_cases h1 : k = 1
  · subst h1; rw [← opE_1]; exact impl1 d fb fa tb ta c r w _ _ rfl rfl
  by_cases h2 : k = 2
  · subst h2; rw [← opE_2]; exact impl2 d fb fa tb ta c r w _ _ rfl rfl
  by_cases h3 : k = 3
  · subst h3; rw [← opE_3]; exact impl3 d fb fa tb ta c r w _ _ rfl rfl
  by_cases h4 : k = 4
  · subst h4; rw [← opE_4]; exact impl4 d fb fa tb ta c r w _ _ rfl rfl
  by_cases h5 : k = 5
  · subst h5; rw [← opE_5]; exact impl5 d fb fa tb ta c r w _ _ _ rfl rfl rfl
  by_cases h6 : k = 6
  · subst h6; rw [← opE_6]; exact impl6 d fb fa tb ta c r w _ _ rfl rfl
  by_cases h7 : k = 7
  · subst h7; rw [← opE_7]; exact impl7 d fb fa tb ta c r w _ _ rfl rfl
  by_cases h8 : k = 8
  · subst h8; rw [← opE_8]; exact impl8 d fb fa tb ta c r w _ _ _ rfl rfl rfl
  by_cases h9 : k = 9
  · subst h9; rw [← opE_9]; exact impl9 d fb fa tb ta c r w _ _ rfl rfl
  rw [opB_none _ _ _ _ _ _ _ (by omega)]; exact implNone k d fb fa tb ta c r w (by omega)
theorem resO (W : World) (g : Nat) (x0 x1 x3 x4 x5 x6 x7 x8 x9 x10 x11 x12 x13 x14 x15 x16 x17 x18 x19 x20 x21 x22 x23 x24 : Value) (k d fb fa tb ta c r : Int) (d0 : W.cell? ⟨g, 0, none⟩ = some (.int .i64 k)) (d1 : W.cell? ⟨g, 1, none⟩ = some (.int .i64 d)) (d2 : W.cell? ⟨g, 2, none⟩ = some (.int .i64 fb)) (d3 : W.cell? ⟨g, 3, none⟩ = some (.int .i64 fa)) (d4 : W.cell? ⟨g, 4, none⟩ = some (.int .i64 tb)) (d5 : W.cell? ⟨g, 5, none⟩ = some (.int .i64 ta)) (d6 : W.cell? ⟨g, 6, none⟩ = some (.int .i64 c)) (d7 : W.cell? ⟨g, 7, none⟩ = some (.int .i64 r)) :
    (results Try.f73 #[x0, x1, .pointer (some ⟨g, 0, none⟩), x3, x4, x5, x6, x7, x8, x9, x10, x11, x12, x13, x14, x15, x16, x17, x18, x19, x20, x21, x22, x23, x24]).run Try.prog W = .ok (.agg #[.int .i64 k, .int .i64 d, .int .i64 fb, .int .i64 fa, .int .i64 tb, .int .i64 ta, .int .i64 c, .int .i64 r]) W := by
  simp [results, Try.results73, go_sem, d0, d1, d2, d3, d4, d5, d6, d7]
set_option maxRecDepth 100000 in
theorem toO (k d fb fa tb ta c r : Int) (w : World) : Calls Try.prog 73 #[.agg #[.int .i64 k, .int .i64 d, .int .i64 fb, .int .i64 fa, .int .i64 tb, .int .i64 ta, .int .i64 c, .int .i64 r]] w fun e w' => e = .returned (.agg #[.int .i64 k, .int .i64 d, .int .i64 fb, .int .i64 fa, .int .i64 tb, .int .i64 ta, .int .i64 c, .int .i64 r]) ∧ Below w.heap.size w w' := by
  have e1 := (((Below.refl w.heap.size w).alloc (Nat.le_refl _) (.cells #[.int .i64 k, .int .i64 d, .int .i64 fb, .int .i64 fa, .int .i64 tb, .int .i64 ta, .int .i64 c, .int .i64 r] 94)).alloc (by simp) (.cells #[.int .i64 0, .int .i64 0, .int .i64 0, .int .i64 0, .int .i64 0, .int .i64 0, .int .i64 0, .int .i64 0] 90)).alloc (by simp; omega) (.cells #[.int .i64 k, .int .i64 d, .int .i64 0, .int .i64 0, .int .i64 0, .int .i64 0, .int .i64 0, .int .i64 0] 90)
  go_enter Try.func73, Try.ntmps73
  go_wp2_with fail
  refine (nd.toNeedle _ _ _).mono ?_
  rintro e w1 ⟨rfl, b1⟩
  have m0 : w1.cell? ⟨w.heap.size + 1 + 1, 0, none⟩ = some (.int .i64 k) := (b1.cell (p := ⟨w.heap.size + 1 + 1, 0, none⟩) (by simp)).trans (World.cell?_alloc_at _ _ _ _ (by simp))
  have m1 : w1.cell? ⟨w.heap.size + 1 + 1, 1, none⟩ = some (.int .i64 d) := (b1.cell (p := ⟨w.heap.size + 1 + 1, 1, none⟩) (by simp)).trans (World.cell?_alloc_at _ _ _ _ (by simp))
  have m2 : w1.cell? ⟨w.heap.size + 1 + 1, 2, none⟩ = some (.int .i64 0) := (b1.cell (p := ⟨w.heap.size + 1 + 1, 2, none⟩) (by simp)).trans (World.cell?_alloc_at _ _ _ _ (by simp))
  have m3 : w1.cell? ⟨w.heap.size + 1 + 1, 3, none⟩ = some (.int .i64 0) := (b1.cell (p := ⟨w.heap.size + 1 + 1, 3, none⟩) (by simp)).trans (World.cell?_alloc_at _ _ _ _ (by simp))
  have m4 : w1.cell? ⟨w.heap.size + 1 + 1, 4, none⟩ = some (.int .i64 0) := (b1.cell (p := ⟨w.heap.size + 1 + 1, 4, none⟩) (by simp)).trans (World.cell?_alloc_at _ _ _ _ (by simp))
  have m5 : w1.cell? ⟨w.heap.size + 1 + 1, 5, none⟩ = some (.int .i64 0) := (b1.cell (p := ⟨w.heap.size + 1 + 1, 5, none⟩) (by simp)).trans (World.cell?_alloc_at _ _ _ _ (by simp))
  have m6 : w1.cell? ⟨w.heap.size + 1 + 1, 6, none⟩ = some (.int .i64 0) := (b1.cell (p := ⟨w.heap.size + 1 + 1, 6, none⟩) (by simp)).trans (World.cell?_alloc_at _ _ _ _ (by simp))
  have m7 : w1.cell? ⟨w.heap.size + 1 + 1, 7, none⟩ = some (.int .i64 0) := (b1.cell (p := ⟨w.heap.size + 1 + 1, 7, none⟩) (by simp)).trans (World.cell?_alloc_at _ _ _ _ (by simp))
  have n0 : w1.cell? ⟨w.heap.size + 1, 0, none⟩ = some (.int .i64 0) := (b1.cell (p := ⟨w.heap.size + 1, 0, none⟩) (by simp)).trans ((World.cell?_alloc_past _ _ _ (by simp)).trans (World.cell?_alloc_at _ _ _ _ (by simp)))
  have n1 : w1.cell? ⟨w.heap.size + 1, 1, none⟩ = some (.int .i64 0) := (b1.cell (p := ⟨w.heap.size + 1, 1, none⟩) (by simp)).trans ((World.cell?_alloc_past _ _ _ (by simp)).trans (World.cell?_alloc_at _ _ _ _ (by simp)))
  have n2 : w1.cell? ⟨w.heap.size + 1, 2, none⟩ = some (.int .i64 0) := (b1.cell (p := ⟨w.heap.size + 1, 2, none⟩) (by simp)).trans ((World.cell?_alloc_past _ _ _ (by simp)).trans (World.cell?_alloc_at _ _ _ _ (by simp)))
  have n3 : w1.cell? ⟨w.heap.size + 1, 3, none⟩ = some (.int .i64 0) := (b1.cell (p := ⟨w.heap.size + 1, 3, none⟩) (by simp)).trans ((World.cell?_alloc_past _ _ _ (by simp)).trans (World.cell?_alloc_at _ _ _ _ (by simp)))
  have n4 : w1.cell? ⟨w.heap.size + 1, 4, none⟩ = some (.int .i64 0) := (b1.cell (p := ⟨w.heap.size + 1, 4, none⟩) (by simp)).trans ((World.cell?_alloc_past _ _ _ (by simp)).trans (World.cell?_alloc_at _ _ _ _ (by simp)))
  have n5 : w1.cell? ⟨w.heap.size + 1, 5, none⟩ = some (.int .i64 0) := (b1.cell (p := ⟨w.heap.size + 1, 5, none⟩) (by simp)).trans ((World.cell?_alloc_past _ _ _ (by simp)).trans (World.cell?_alloc_at _ _ _ _ (by simp)))
  have n6 : w1.cell? ⟨w.heap.size + 1, 6, none⟩ = some (.int .i64 0) := (b1.cell (p := ⟨w.heap.size + 1, 6, none⟩) (by simp)).trans ((World.cell?_alloc_past _ _ _ (by simp)).trans (World.cell?_alloc_at _ _ _ _ (by simp)))
  have n7 : w1.cell? ⟨w.heap.size + 1, 7, none⟩ = some (.int .i64 0) := (b1.cell (p := ⟨w.heap.size + 1, 7, none⟩) (by simp)).trans ((World.cell?_alloc_past _ _ _ (by simp)).trans (World.cell?_alloc_at _ _ _ _ (by simp)))
  have x0 : w1.cell? ⟨w.heap.size, 0, none⟩ = some (.int .i64 k) := (b1.cell (p := ⟨w.heap.size, 0, none⟩) (by simp; omega)).trans ((World.cell?_alloc_past _ _ _ (by simp; omega)).trans ((World.cell?_alloc_past _ _ _ (by simp)).trans (World.cell?_alloc_at _ _ _ _ rfl)))
  have x1 : w1.cell? ⟨w.heap.size, 1, none⟩ = some (.int .i64 d) := (b1.cell (p := ⟨w.heap.size, 1, none⟩) (by simp; omega)).trans ((World.cell?_alloc_past _ _ _ (by simp; omega)).trans ((World.cell?_alloc_past _ _ _ (by simp)).trans (World.cell?_alloc_at _ _ _ _ rfl)))
  have x2 : w1.cell? ⟨w.heap.size, 2, none⟩ = some (.int .i64 fb) := (b1.cell (p := ⟨w.heap.size, 2, none⟩) (by simp; omega)).trans ((World.cell?_alloc_past _ _ _ (by simp; omega)).trans ((World.cell?_alloc_past _ _ _ (by simp)).trans (World.cell?_alloc_at _ _ _ _ rfl)))
  have x3 : w1.cell? ⟨w.heap.size, 3, none⟩ = some (.int .i64 fa) := (b1.cell (p := ⟨w.heap.size, 3, none⟩) (by simp; omega)).trans ((World.cell?_alloc_past _ _ _ (by simp; omega)).trans ((World.cell?_alloc_past _ _ _ (by simp)).trans (World.cell?_alloc_at _ _ _ _ rfl)))
  have x4 : w1.cell? ⟨w.heap.size, 4, none⟩ = some (.int .i64 tb) := (b1.cell (p := ⟨w.heap.size, 4, none⟩) (by simp; omega)).trans ((World.cell?_alloc_past _ _ _ (by simp; omega)).trans ((World.cell?_alloc_past _ _ _ (by simp)).trans (World.cell?_alloc_at _ _ _ _ rfl)))
  have x5 : w1.cell? ⟨w.heap.size, 5, none⟩ = some (.int .i64 ta) := (b1.cell (p := ⟨w.heap.size, 5, none⟩) (by simp; omega)).trans ((World.cell?_alloc_past _ _ _ (by simp; omega)).trans ((World.cell?_alloc_past _ _ _ (by simp)).trans (World.cell?_alloc_at _ _ _ _ rfl)))
  have x6 : w1.cell? ⟨w.heap.size, 6, none⟩ = some (.int .i64 c) := (b1.cell (p := ⟨w.heap.size, 6, none⟩) (by simp; omega)).trans ((World.cell?_alloc_past _ _ _ (by simp; omega)).trans ((World.cell?_alloc_past _ _ _ (by simp)).trans (World.cell?_alloc_at _ _ _ _ rfl)))
  have x7 : w1.cell? ⟨w.heap.size, 7, none⟩ = some (.int .i64 r) := (b1.cell (p := ⟨w.heap.size, 7, none⟩) (by simp; omega)).trans ((World.cell?_alloc_past _ _ _ (by simp; omega)).trans ((World.cell?_alloc_past _ _ _ (by simp)).trans (World.cell?_alloc_at _ _ _ _ rfl)))
  have fm0 : w1.frozen? ⟨w.heap.size + 1 + 1, 0, none⟩ = false := (b1.frozen (p := ⟨w.heap.size + 1 + 1, 0, none⟩) (by simp)).trans (World.frozen?_alloc_at _ _ _ _ (by simp))
  have fm1 : w1.frozen? ⟨w.heap.size + 1 + 1, 1, none⟩ = false := (b1.frozen (p := ⟨w.heap.size + 1 + 1, 1, none⟩) (by simp)).trans (World.frozen?_alloc_at _ _ _ _ (by simp))
  have fm2 : w1.frozen? ⟨w.heap.size + 1 + 1, 2, none⟩ = false := (b1.frozen (p := ⟨w.heap.size + 1 + 1, 2, none⟩) (by simp)).trans (World.frozen?_alloc_at _ _ _ _ (by simp))
  have fm3 : w1.frozen? ⟨w.heap.size + 1 + 1, 3, none⟩ = false := (b1.frozen (p := ⟨w.heap.size + 1 + 1, 3, none⟩) (by simp)).trans (World.frozen?_alloc_at _ _ _ _ (by simp))
  have fm4 : w1.frozen? ⟨w.heap.size + 1 + 1, 4, none⟩ = false := (b1.frozen (p := ⟨w.heap.size + 1 + 1, 4, none⟩) (by simp)).trans (World.frozen?_alloc_at _ _ _ _ (by simp))
  have fm5 : w1.frozen? ⟨w.heap.size + 1 + 1, 5, none⟩ = false := (b1.frozen (p := ⟨w.heap.size + 1 + 1, 5, none⟩) (by simp)).trans (World.frozen?_alloc_at _ _ _ _ (by simp))
  have fm6 : w1.frozen? ⟨w.heap.size + 1 + 1, 6, none⟩ = false := (b1.frozen (p := ⟨w.heap.size + 1 + 1, 6, none⟩) (by simp)).trans (World.frozen?_alloc_at _ _ _ _ (by simp))
  have fm7 : w1.frozen? ⟨w.heap.size + 1 + 1, 7, none⟩ = false := (b1.frozen (p := ⟨w.heap.size + 1 + 1, 7, none⟩) (by simp)).trans (World.frozen?_alloc_at _ _ _ _ (by simp))
  have fn0 : w1.frozen? ⟨w.heap.size + 1, 0, none⟩ = false := (b1.frozen (p := ⟨w.heap.size + 1, 0, none⟩) (by simp)).trans ((World.frozen?_alloc_past _ _ _ (by simp)).trans (World.frozen?_alloc_at _ _ _ _ (by simp)))
  have fn1 : w1.frozen? ⟨w.heap.size + 1, 1, none⟩ = false := (b1.frozen (p := ⟨w.heap.size + 1, 1, none⟩) (by simp)).trans ((World.frozen?_alloc_past _ _ _ (by simp)).trans (World.frozen?_alloc_at _ _ _ _ (by simp)))
  have fn2 : w1.frozen? ⟨w.heap.size + 1, 2, none⟩ = false := (b1.frozen (p := ⟨w.heap.size + 1, 2, none⟩) (by simp)).trans ((World.frozen?_alloc_past _ _ _ (by simp)).trans (World.frozen?_alloc_at _ _ _ _ (by simp)))
  have fn3 : w1.frozen? ⟨w.heap.size + 1, 3, none⟩ = false := (b1.frozen (p := ⟨w.heap.size + 1, 3, none⟩) (by simp)).trans ((World.frozen?_alloc_past _ _ _ (by simp)).trans (World.frozen?_alloc_at _ _ _ _ (by simp)))
  have fn4 : w1.frozen? ⟨w.heap.size + 1, 4, none⟩ = false := (b1.frozen (p := ⟨w.heap.size + 1, 4, none⟩) (by simp)).trans ((World.frozen?_alloc_past _ _ _ (by simp)).trans (World.frozen?_alloc_at _ _ _ _ (by simp)))
  have fn5 : w1.frozen? ⟨w.heap.size + 1, 5, none⟩ = false := (b1.frozen (p := ⟨w.heap.size + 1, 5, none⟩) (by simp)).trans ((World.frozen?_alloc_past _ _ _ (by simp)).trans (World.frozen?_alloc_at _ _ _ _ (by simp)))
  have fn6 : w1.frozen? ⟨w.heap.size + 1, 6, none⟩ = false := (b1.frozen (p := ⟨w.heap.size + 1, 6, none⟩) (by simp)).trans ((World.frozen?_alloc_past _ _ _ (by simp)).trans (World.frozen?_alloc_at _ _ _ _ (by simp)))
  have fn7 : w1.frozen? ⟨w.heap.size + 1, 7, none⟩ = false := (b1.frozen (p := ⟨w.heap.size + 1, 7, none⟩) (by simp)).trans ((World.frozen?_alloc_past _ _ _ (by simp)).trans (World.frozen?_alloc_at _ _ _ _ (by simp)))
  have hz := b1.size
  simp at hz
  have B1 := hid (e1.trans (b1.mono (by simp; omega)))
  clear b1 e1
  go_wp2_with fail
  refine (nd.toNeedle _ _ _).mono ?_
  rintro e w2 ⟨rfl, b2⟩
  have M0 : w2.cell? ⟨w.heap.size + 1 + 1, 0, none⟩ = some (.int .i64 k) := (b2.cell (p := ⟨w.heap.size + 1 + 1, 0, none⟩) (by simp; omega)).trans (by go_simp)
  have M1 : w2.cell? ⟨w.heap.size + 1 + 1, 1, none⟩ = some (.int .i64 d) := (b2.cell (p := ⟨w.heap.size + 1 + 1, 1, none⟩) (by simp; omega)).trans (by go_simp)
  have M2 : w2.cell? ⟨w.heap.size + 1 + 1, 2, none⟩ = some (.int .i64 fb) := (b2.cell (p := ⟨w.heap.size + 1 + 1, 2, none⟩) (by simp; omega)).trans (by go_simp)
  have M3 : w2.cell? ⟨w.heap.size + 1 + 1, 3, none⟩ = some (.int .i64 fa) := (b2.cell (p := ⟨w.heap.size + 1 + 1, 3, none⟩) (by simp; omega)).trans (by go_simp)
  have M4 : w2.cell? ⟨w.heap.size + 1 + 1, 4, none⟩ = some (.int .i64 0) := (b2.cell (p := ⟨w.heap.size + 1 + 1, 4, none⟩) (by simp; omega)).trans (by go_simp)
  have M5 : w2.cell? ⟨w.heap.size + 1 + 1, 5, none⟩ = some (.int .i64 0) := (b2.cell (p := ⟨w.heap.size + 1 + 1, 5, none⟩) (by simp; omega)).trans (by go_simp)
  have M6 : w2.cell? ⟨w.heap.size + 1 + 1, 6, none⟩ = some (.int .i64 0) := (b2.cell (p := ⟨w.heap.size + 1 + 1, 6, none⟩) (by simp; omega)).trans (by go_simp)
  have M7 : w2.cell? ⟨w.heap.size + 1 + 1, 7, none⟩ = some (.int .i64 0) := (b2.cell (p := ⟨w.heap.size + 1 + 1, 7, none⟩) (by simp; omega)).trans (by go_simp)
  have N0 : w2.cell? ⟨w.heap.size + 1, 0, none⟩ = some (.int .i64 0) := (b2.cell (p := ⟨w.heap.size + 1, 0, none⟩) (by simp; omega)).trans (by go_simp)
  have N1 : w2.cell? ⟨w.heap.size + 1, 1, none⟩ = some (.int .i64 0) := (b2.cell (p := ⟨w.heap.size + 1, 1, none⟩) (by simp; omega)).trans (by go_simp)
  have N2 : w2.cell? ⟨w.heap.size + 1, 2, none⟩ = some (.int .i64 0) := (b2.cell (p := ⟨w.heap.size + 1, 2, none⟩) (by simp; omega)).trans (by go_simp)
  have N3 : w2.cell? ⟨w.heap.size + 1, 3, none⟩ = some (.int .i64 0) := (b2.cell (p := ⟨w.heap.size + 1, 3, none⟩) (by simp; omega)).trans (by go_simp)
  have N4 : w2.cell? ⟨w.heap.size + 1, 4, none⟩ = some (.int .i64 0) := (b2.cell (p := ⟨w.heap.size + 1, 4, none⟩) (by simp; omega)).trans (by go_simp)
  have N5 : w2.cell? ⟨w.heap.size + 1, 5, none⟩ = some (.int .i64 0) := (b2.cell (p := ⟨w.heap.size + 1, 5, none⟩) (by simp; omega)).trans (by go_simp)
  have N6 : w2.cell? ⟨w.heap.size + 1, 6, none⟩ = some (.int .i64 0) := (b2.cell (p := ⟨w.heap.size + 1, 6, none⟩) (by simp; omega)).trans (by go_simp)
  have N7 : w2.cell? ⟨w.heap.size + 1, 7, none⟩ = some (.int .i64 0) := (b2.cell (p := ⟨w.heap.size + 1, 7, none⟩) (by simp; omega)).trans (by go_simp)
  have X4 : w2.cell? ⟨w.heap.size, 4, none⟩ = some (.int .i64 tb) := (b2.cell (p := ⟨w.heap.size, 4, none⟩) (by simp; omega)).trans (by go_simp)
  have X5 : w2.cell? ⟨w.heap.size, 5, none⟩ = some (.int .i64 ta) := (b2.cell (p := ⟨w.heap.size, 5, none⟩) (by simp; omega)).trans (by go_simp)
  have X6 : w2.cell? ⟨w.heap.size, 6, none⟩ = some (.int .i64 c) := (b2.cell (p := ⟨w.heap.size, 6, none⟩) (by simp; omega)).trans (by go_simp)
  have X7 : w2.cell? ⟨w.heap.size, 7, none⟩ = some (.int .i64 r) := (b2.cell (p := ⟨w.heap.size, 7, none⟩) (by simp; omega)).trans (by go_simp)
  have FM0 : w2.frozen? ⟨w.heap.size + 1 + 1, 0, none⟩ = false := (b2.frozen (p := ⟨w.heap.size + 1 + 1, 0, none⟩) (by simp; omega)).trans (by go_simp)
  have FM1 : w2.frozen? ⟨w.heap.size + 1 + 1, 1, none⟩ = false := (b2.frozen (p := ⟨w.heap.size + 1 + 1, 1, none⟩) (by simp; omega)).trans (by go_simp)
  have FM2 : w2.frozen? ⟨w.heap.size + 1 + 1, 2, none⟩ = false := (b2.frozen (p := ⟨w.heap.size + 1 + 1, 2, none⟩) (by simp; omega)).trans (by go_simp)
  have FM3 : w2.frozen? ⟨w.heap.size + 1 + 1, 3, none⟩ = false := (b2.frozen (p := ⟨w.heap.size + 1 + 1, 3, none⟩) (by simp; omega)).trans (by go_simp)
  have FM4 : w2.frozen? ⟨w.heap.size + 1 + 1, 4, none⟩ = false := (b2.frozen (p := ⟨w.heap.size + 1 + 1, 4, none⟩) (by simp; omega)).trans (by go_simp)
  have FM5 : w2.frozen? ⟨w.heap.size + 1 + 1, 5, none⟩ = false := (b2.frozen (p := ⟨w.heap.size + 1 + 1, 5, none⟩) (by simp; omega)).trans (by go_simp)
  have FM6 : w2.frozen? ⟨w.heap.size + 1 + 1, 6, none⟩ = false := (b2.frozen (p := ⟨w.heap.size + 1 + 1, 6, none⟩) (by simp; omega)).trans (by go_simp)
  have FM7 : w2.frozen? ⟨w.heap.size + 1 + 1, 7, none⟩ = false := (b2.frozen (p := ⟨w.heap.size + 1 + 1, 7, none⟩) (by simp; omega)).trans (by go_simp)
  have FN0 : w2.frozen? ⟨w.heap.size + 1, 0, none⟩ = false := (b2.frozen (p := ⟨w.heap.size + 1, 0, none⟩) (by simp; omega)).trans (by go_simp)
  have FN1 : w2.frozen? ⟨w.heap.size + 1, 1, none⟩ = false := (b2.frozen (p := ⟨w.heap.size + 1, 1, none⟩) (by simp; omega)).trans (by go_simp)
  have FN2 : w2.frozen? ⟨w.heap.size + 1, 2, none⟩ = false := (b2.frozen (p := ⟨w.heap.size + 1, 2, none⟩) (by simp; omega)).trans (by go_simp)
  have FN3 : w2.frozen? ⟨w.heap.size + 1, 3, none⟩ = false := (b2.frozen (p := ⟨w.heap.size + 1, 3, none⟩) (by simp; omega)).trans (by go_simp)
  have FN4 : w2.frozen? ⟨w.heap.size + 1, 4, none⟩ = false := (b2.frozen (p := ⟨w.heap.size + 1, 4, none⟩) (by simp; omega)).trans (by go_simp)
  have FN5 : w2.frozen? ⟨w.heap.size + 1, 5, none⟩ = false := (b2.frozen (p := ⟨w.heap.size + 1, 5, none⟩) (by simp; omega)).trans (by go_simp)
  have FN6 : w2.frozen? ⟨w.heap.size + 1, 6, none⟩ = false := (b2.frozen (p := ⟨w.heap.size + 1, 6, none⟩) (by simp; omega)).trans (by go_simp)
  have FN7 : w2.frozen? ⟨w.heap.size + 1, 7, none⟩ = false := (b2.frozen (p := ⟨w.heap.size + 1, 7, none⟩) (by simp; omega)).trans (by go_simp)
  have B1a : Below w.heap.size w (w1.setCell ⟨w.heap.size + 1 + 1, 2, none⟩ (.int .i64 fb)) := B1.out.setCell (by show w.heap.size ≤ w.heap.size + 1 + 1; omega) _
  have B1b : Below w.heap.size w ((w1.setCell ⟨w.heap.size + 1 + 1, 2, none⟩ (.int .i64 fb)).setCell ⟨w.heap.size + 1 + 1, 3, none⟩ (.int .i64 fa)) := B1a.setCell (by show w.heap.size ≤ w.heap.size + 1 + 1; omega) _
  have B2 := hid (B1b.trans (b2.mono B1b.size))
  clear B1a B1b B1 b2 m0 n0 x0 fm0 fn0 m1 n1 x1 fm1 fn1 m2 n2 x2 fm2 fn2 m3 n3 x3 fm3 fn3 m4 n4 x4 fm4 fn4 m5 n5 x5 fm5 fn5 m6 n6 x6 fm6 fn6 m7 n7 x7 fm7 fn7
  go_wp2
  refine bodyPost_ret (v := .agg #[.int .i64 k, .int .i64 d, .int .i64 fb, .int .i64 fa, .int .i64 tb, .int .i64 ta, .int .i64 c, .int .i64 r]) ?_ rfl ⟨rfl, ?_⟩
  · exact resO _ (w.heap.size + 1) _ _ _ _ _ _ _ _ _ _ _ _ _ _ _ _ _ _ _ _ _ _ _ _ k d fb fa tb ta c r (by go_simp) (by go_simp) (by go_simp) (by go_simp) (by go_simp) (by go_simp) (by go_simp) (by go_simp)
  · iterate 12 (refine Below.setCell ?_ (by simp <;> omega) _)
    exact B2.out
end Go.Proofs.Ytaconeliiicloaa.vo
