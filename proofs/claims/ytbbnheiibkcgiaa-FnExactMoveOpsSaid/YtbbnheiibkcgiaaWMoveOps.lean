/-
  The walk of the law of MoveOps.
-/
import Derived.Test.YtbbnheiibkcgiaaOz0
import Derived.Test.YtbbnheiibkcgiaaL5
namespace Go.Proofs.Ytbbnheiibkcgiaa.wmoveOps
open Go.RowKit
set_option linter.unusedVariables false

set_option maxRecDepth 100000 in
set_option maxHeartbeats 20000000 in
theorem law (a0 c0 : Int) (w : World)  :
    Calls Try.prog 7 #[.agg #[.int .i64 a0, .int .i64 c0]] w fun e w' => e = .returned (.bool true) ∧ Below w.heap.size w w' := by
  have SP : Hid (∀   (W : World), Calls Try.prog 23 #[.agg #[.int .i64 a0, .int .i64 c0]] W fun e w' => ∃ v', e = .returned (.tuple #[v', .int .i64 (mo.moC a0 c0)]) ∧ qo.OOwn w' W.heap.size w'.heap.size v' (mo.moW a0 c0) ∧ Below W.heap.size W w') := sl.hid (fun   W    => mo.specMO a0 c0   W    )
  have IP : Hid (∀   (W : World), Calls Try.prog 24 #[.agg #[.int .i64 a0, .int .i64 c0]] W fun e w' => ∃ v', e = .returned (.tuple #[v', .int .i64 (mo.moC a0 c0)]) ∧ qo.OOwn w' W.heap.size w'.heap.size v' (mo.moW a0 c0) ∧ Below W.heap.size W w') := sl.hid (fun   W    => mo.implMO a0 c0   W    )
  have hr0 : (mo.moW a0 c0).length ≤ 20000 := mo.moW_len a0 c0
  have hr : (mo.moW a0 c0).length ≤ 1099511627776 := by omega
  have HQr : Hid (qo.Small (mo.moW a0 c0)) := sl.hid ⟨by omega⟩
  generalize mo.moW a0 c0 = zr at *
  generalize mo.moC a0 c0 = q1 at *
  have C0 : Hid (Below w.heap.size w w) := sl.hid (Below.refl _ _)
  go_enter Try.func7, Try.ntmps7
  have bE1 := (Below.refl w.heap.size w).alloc (Nat.le_refl _) (.cells #[.int .i64 a0, .int .i64 c0] 30)
  have hz1 : w.heap.size + 1 ≤ (w.alloc (.cells #[.int .i64 a0, .int .i64 c0] 30)).heap.size := by simp
  have Y1 : (w.alloc (.cells #[.int .i64 a0, .int .i64 c0] 30)).cell? ⟨w.heap.size, 0, none⟩ = some (.int .i64 a0) := World.cell?_alloc_at _ _ _ _ rfl
  have Z1 : (w.alloc (.cells #[.int .i64 a0, .int .i64 c0] 30)).cell? ⟨w.heap.size, 1, none⟩ = some (.int .i64 c0) := World.cell?_alloc_at _ _ _ _ rfl
  have C2 := sl.hid (C0.out.trans (bE1.mono (by omega)))
  clear bE1 C0
  go_wp2_with fail
  generalize (w.alloc (.cells #[.int .i64 a0, .int .i64 c0] 30)) = W1 at *
  refine (mo.toMv a0 c0 W1).mono ?_
  rintro e W2 ⟨rfl, b3⟩
  have hz2 := b3.size
  have C4 := sl.hid (C2.out.trans (b3.mono (by omega)))
  have X5 := (b3.cell (p := ⟨w.heap.size, 0, none⟩) (by show w.heap.size < W1.heap.size; omega)).trans Y1
  have X6 := (b3.cell (p := ⟨w.heap.size, 1, none⟩) (by show w.heap.size < W1.heap.size; omega)).trans Z1
  clear b3 C2 Y1 Z1
  go_wp2_with fail
  refine (SP.out   W2  ).mono ?_
  rintro e W3 ⟨v7, rfl, o7, b7⟩
  have hz3 := b7.size
  have O7 := sl.hid o7
  clear o7
  have C8 := sl.hid (C4.out.trans (b7.mono (by omega)))
  have X9 := (b7.cell (p := ⟨w.heap.size, 0, none⟩) (by show w.heap.size < W2.heap.size; omega)).trans X5
  have X10 := (b7.cell (p := ⟨w.heap.size, 1, none⟩) (by show w.heap.size < W2.heap.size; omega)).trans X6
  clear b7 C4 X5 X6
  go_wp2_with fail
  refine (mo.toMv a0 c0 W3).mono ?_
  rintro e W4 ⟨rfl, b11⟩
  have hz4 := b11.size
  have K12 := sl.hid (O7.out.chg (sl.Chg.ofBelow (lo := 0) b11) (.inr (.inr (Nat.zero_le _))))
  have C13 := sl.hid (C8.out.trans (b11.mono (by omega)))
  have X14 := (b11.cell (p := ⟨w.heap.size, 0, none⟩) (by show w.heap.size < W3.heap.size; omega)).trans X9
  have X15 := (b11.cell (p := ⟨w.heap.size, 1, none⟩) (by show w.heap.size < W3.heap.size; omega)).trans X10
  clear b11 O7 C8 X9 X10
  go_wp2_with fail
  refine (IP.out   W4  ).mono ?_
  rintro e W5 ⟨v16, rfl, o16, b16⟩
  have hz5 := b16.size
  have O16 := sl.hid o16
  clear o16
  have K17 := sl.hid (K12.out.chg (sl.Chg.ofBelow (lo := 0) b16) (.inr (.inr (Nat.zero_le _))))
  have C18 := sl.hid (C13.out.trans (b16.mono (by omega)))
  have X19 := (b16.cell (p := ⟨w.heap.size, 0, none⟩) (by show w.heap.size < W4.heap.size; omega)).trans X14
  have X20 := (b16.cell (p := ⟨w.heap.size, 1, none⟩) (by show w.heap.size < W4.heap.size; omega)).trans X15
  clear b16 K12 C13 X14 X15
  go_wp2_with fail
  refine (qo.eqOS zr _ _ _ _ W5 O16.out.ops K17.out.ops HQr.out).mono ?_
  rintro e W6 ⟨rfl, b21⟩
  have hz6 := b21.size
  have K22 := sl.hid (K17.out.chg (sl.Chg.ofBelow (lo := 0) b21) (.inr (.inr (Nat.zero_le _))))
  have K23 := sl.hid (O16.out.chg (sl.Chg.ofBelow (lo := 0) b21) (.inr (.inr (Nat.zero_le _))))
  have C24 := sl.hid (C18.out.trans (b21.mono (by omega)))
  have X25 := (b21.cell (p := ⟨w.heap.size, 0, none⟩) (by show w.heap.size < W5.heap.size; omega)).trans X19
  have X26 := (b21.cell (p := ⟨w.heap.size, 1, none⟩) (by show w.heap.size < W5.heap.size; omega)).trans X20
  clear b21 K17 O16 C18 X19 X20
  go_wp2_with fail
  refine (qo.markOS zr _ _ _ (1) W6 K23.out HQr.out (by omega) (by omega)).mono ?_
  rintro e W7 ⟨rfl, o27, c27⟩
  have hz7 := c27.size
  have O27 := sl.hid o27
  clear o27 K23
  have K28 := sl.hid (K22.out.chg c27 (by omega))
  have C29 := sl.hid (C24.out.trans (c27.below (by omega) (by omega)))
  have X30 := (World.cell?_of_block (w := W6) (w' := W7) (a := ⟨w.heap.size, 0, none⟩) (c27.block (w.heap.size) (by omega) (by omega))).trans X25
  have X31 := (World.cell?_of_block (w := W6) (w' := W7) (a := ⟨w.heap.size, 1, none⟩) (c27.block (w.heap.size) (by omega) (by omega))).trans X26
  clear c27 K22 C24 X25 X26
  go_wp2_with fail
  refine (qo.heldOS zr.length _ _ 1 W7 O27.out.ops (by omega) (by omega) (by omega)).mono ?_
  rintro e W8 ⟨rfl, rfl⟩
  go_wp2_with fail
  refine (mo.toMv a0 c0 W7).mono ?_
  rintro e W9 ⟨rfl, b32⟩
  have hz9 := b32.size
  have K33 := sl.hid (K28.out.chg (sl.Chg.ofBelow (lo := 0) b32) (.inr (.inr (Nat.zero_le _))))
  have K34 := sl.hid (O27.out.chg (sl.Chg.ofBelow (lo := 0) b32) (.inr (.inr (Nat.zero_le _))))
  have C35 := sl.hid (C29.out.trans (b32.mono (by omega)))
  have X36 := (b32.cell (p := ⟨w.heap.size, 0, none⟩) (by show w.heap.size < W7.heap.size; omega)).trans X30
  have X37 := (b32.cell (p := ⟨w.heap.size, 1, none⟩) (by show w.heap.size < W7.heap.size; omega)).trans X31
  clear b32 K28 O27 C29 X30 X31
  go_wp2_with fail
  refine (IP.out   W9  ).mono ?_
  rintro e W10 ⟨v38, rfl, o38, b38⟩
  have hz10 := b38.size
  have O38 := sl.hid o38
  clear o38
  have K39 := sl.hid (K33.out.chg (sl.Chg.ofBelow (lo := 0) b38) (.inr (.inr (Nat.zero_le _))))
  have K40 := sl.hid (K34.out.chg (sl.Chg.ofBelow (lo := 0) b38) (.inr (.inr (Nat.zero_le _))))
  have C41 := sl.hid (C35.out.trans (b38.mono (by omega)))
  have X42 := (b38.cell (p := ⟨w.heap.size, 0, none⟩) (by show w.heap.size < W9.heap.size; omega)).trans X36
  have X43 := (b38.cell (p := ⟨w.heap.size, 1, none⟩) (by show w.heap.size < W9.heap.size; omega)).trans X37
  clear b38 K33 K34 C35 X36 X37
  go_wp2_with fail
  refine (qo.eqOS zr _ _ _ _ W10 O38.out.ops K39.out.ops HQr.out).mono ?_
  rintro e W11 ⟨rfl, b44⟩
  have hz11 := b44.size
  have K45 := sl.hid (K39.out.chg (sl.Chg.ofBelow (lo := 0) b44) (.inr (.inr (Nat.zero_le _))))
  have K46 := sl.hid (K40.out.chg (sl.Chg.ofBelow (lo := 0) b44) (.inr (.inr (Nat.zero_le _))))
  have K47 := sl.hid (O38.out.chg (sl.Chg.ofBelow (lo := 0) b44) (.inr (.inr (Nat.zero_le _))))
  have C48 := sl.hid (C41.out.trans (b44.mono (by omega)))
  have X49 := (b44.cell (p := ⟨w.heap.size, 0, none⟩) (by show w.heap.size < W10.heap.size; omega)).trans X42
  have X50 := (b44.cell (p := ⟨w.heap.size, 1, none⟩) (by show w.heap.size < W10.heap.size; omega)).trans X43
  clear b44 K39 K40 O38 C41 X42 X43
  go_wp2_with fail
  refine (qo.heldOS zr.length _ _ 1 W11 K46.out.ops (by omega) (by omega) (by omega)).mono ?_
  rintro e W12 ⟨rfl, rfl⟩
  go_wp2
  go_ret
  exact ⟨rfl, C48.out⟩
end Go.Proofs.Ytbbnheiibkcgiaa.wmoveOps
