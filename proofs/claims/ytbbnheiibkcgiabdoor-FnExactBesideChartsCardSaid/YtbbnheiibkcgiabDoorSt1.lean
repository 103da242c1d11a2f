/-
  Kinds of stitches: contracts of ColumnsTaken, ColumnsMade, MirrorStitch of both sides.
-/
import Derived.Test.YtbbnheiibkcgiabDoorStb
import Derived.Test.YtbbnheiibkcgiabDoorPerm
namespace Go.Proofs.YtbbnheiibkcgiabDoor.st
open Go.RowKit Go.Proofs.YtbbnheiibkcgiabDoor.sl Go.Proofs.YtbbnheiibkcgiabDoor.pm
set_option linter.unusedVariables false

theorem specKind (k : Int) (w : World) : Calls Tryd.prog 68 #[.int .i64 k] w fun e w' => e = .returned (.bool (knd k)) ∧ w = w' := by
  obtain ⟨q, hq⟩ : ∃ q, q = knd k := ⟨_, rfl⟩
  have H := hid (fun w1 => show Calls Tryd.prog 16 #[.int .i64 k, .int .i64 1, .int .i64 11] w1 fun e w2 => e = .returned (.bool q) ∧ w1 = w2 from by rw [hq]; exact specIn k 1 11 w1)
  rw [← hq]
  clear hq
  go_enter Tryd.func68, Tryd.ntmps68
  go_wp2_with fail
  refine (H.out _).mono ?_
  rintro e w1 ⟨rfl, rfl⟩
  go_wp2
  go_ret
  exact ⟨rfl, rfl⟩
theorem implStitch (k : Int) (w : World) : Calls Tryd.prog 82 #[.int .i64 k] w fun e w' => e = .returned (.bool (knd k)) ∧ w = w' := by
  obtain ⟨q, hq⟩ : ∃ q, q = knd k := ⟨_, rfl⟩
  have H := hid (fun w1 => show Calls Tryd.prog 21 #[.int .i64 k, .int .i64 1, .int .i64 11] w1 fun e w2 => e = .returned (.bool q) ∧ w1 = w2 from by rw [hq]; exact within64 k 1 11 w1)
  rw [← hq]
  clear hq
  go_enter Tryd.func82, Tryd.ntmps82
  go_wp2_with fail
  refine (H.out _).mono ?_
  rintro e w1 ⟨rfl, rfl⟩
  go_wp2
  go_ret
  exact ⟨rfl, rfl⟩

theorem implTaken (k : Int) (w : World) (hT : stb.Tab w) : Calls Tryd.prog 73 #[.int .i64 k] w fun e w' => e = .returned (.int .i64 (tk k)) ∧ Below w.heap.size w w' := by
  have HK := hid (fun w1 => implStitch k w1)
  cases hk : knd k
  · have HF : Hid (tk k = -1) := hid (by simp [tk, hk])
    rw [hk] at HK
    clear hk
    go_enter Tryd.func73, Tryd.ntmps73
    go_wp2_with fail
    refine (HK.out _).mono ?_
    rintro e w1 ⟨rfl, rfl⟩
    go_wp2
    go_ret
    exact ⟨by rw [HF.out]; rfl, Below.refl _ _⟩
  · obtain ⟨j, rfl, h1, h2⟩ := knd_nat hk
    have HF : Hid (tk (j : Int) = tkT.getD j 0) := hid (tk_at ⟨h1, h2⟩)
    rw [hk] at HK
    clear hk
    have hc := hT.tk j (by omega)
    have hl := hT.lt
    generalize tkT.getD j 0 = x at *
    clear hT
    go_enter Tryd.func73, Tryd.ntmps73
    go_wp2_with fail
    refine (HK.out _).mono ?_
    rintro e w1 ⟨rfl, rfl⟩
    go_wp2
    go_ret
    exact ⟨by rw [HF.out]; rfl, Below.refl _ _⟩
set_option maxRecDepth 20000 in
theorem specTaken (k : Int) (w : World) : Calls Tryd.prog 62 #[.int .i64 k] w fun e w' => e = .returned (.int .i64 (tk k)) ∧ Below w.heap.size w w' := by
  have HK := hid (fun w1 => specKind k w1)
  cases hk : knd k
  · have HF : Hid (tk k = -1) := hid (by simp [tk, hk])
    rw [hk] at HK
    clear hk
    go_enter Tryd.func62, Tryd.ntmps62
    go_wp2_with fail
    refine (HK.out _).mono ?_
    rintro e w1 ⟨rfl, rfl⟩
    go_wp2
    go_ret
    exact ⟨by rw [HF.out]; rfl, Below.refl _ _⟩
  · obtain ⟨j, rfl, h1, h2⟩ := knd_nat hk
    have HF : Hid (tk (j : Int) = tkT.getD j 0) := hid (tk_at ⟨h1, h2⟩)
    rw [hk] at HK
    clear hk
    obtain ⟨i, rfl⟩ : ∃ i, j = i + 1 := ⟨j - 1, by omega⟩
    have hw : IntKind.i64.wrap (((i + 1 : Nat) : Int) - 1) = (i : Int) := by rw [IntKind.wrap_i64] <;> omega
    have hi : i ≤ 10 := by omega
    have hc : (w.alloc (.cells #[.int .i64 1, .int .i64 1, .int .i64 0, .int .i64 2, .int .i64 2, .int .i64 1, .int .i64 1, .int .i64 2, .int .i64 2, .int .i64 4, .int .i64 4] 2)).cell? ⟨w.heap.size, i, none⟩ = some (.int .i64 (tkT.getD (i + 1) 0)) := by
      refine (World.cell?_alloc_at _ _ _ i rfl).trans ?_
      match i, hi with
      | 0, _ | 1, _ | 2, _ | 3, _ | 4, _ | 5, _ | 6, _ | 7, _ | 8, _ | 9, _ | 10, _ => rfl
    generalize tkT.getD (i + 1) 0 = x at *
    clear h1 h2
    go_enter Tryd.func62, Tryd.ntmps62
    go_wp2_with fail
    refine (HK.out _).mono ?_
    rintro e w1 ⟨rfl, rfl⟩
    go_wp2
    go_ret
    exact ⟨by rw [HF.out]; rfl, (Below.refl _ _).alloc (Nat.le_refl _) _⟩

theorem implMade (k : Int) (w : World) (hT : stb.Tab w) : Calls Tryd.prog 84 #[.int .i64 k] w fun e w' => e = .returned (.int .i64 (md k)) ∧ Below w.heap.size w w' := by
  have HK := hid (fun w1 => implStitch k w1)
  cases hk : knd k
  · have HF : Hid (md k = -1) := hid (by simp [md, hk])
    rw [hk] at HK
    clear hk
    go_enter Tryd.func84, Tryd.ntmps84
    go_wp2_with fail
    refine (HK.out _).mono ?_
    rintro e w1 ⟨rfl, rfl⟩
    go_wp2
    go_ret
    exact ⟨by rw [HF.out]; rfl, Below.refl _ _⟩
  · obtain ⟨j, rfl, h1, h2⟩ := knd_nat hk
    have HF : Hid (md (j : Int) = mdT.getD j 0) := hid (md_at ⟨h1, h2⟩)
    rw [hk] at HK
    clear hk
    have hc := hT.md j (by omega)
    have hl := hT.lt
    generalize mdT.getD j 0 = x at *
    clear hT
    go_enter Tryd.func84, Tryd.ntmps84
    go_wp2_with fail
    refine (HK.out _).mono ?_
    rintro e w1 ⟨rfl, rfl⟩
    go_wp2
    go_ret
    exact ⟨by rw [HF.out]; rfl, Below.refl _ _⟩
set_option maxRecDepth 20000 in
theorem specMade (k : Int) (w : World) : Calls Tryd.prog 63 #[.int .i64 k] w fun e w' => e = .returned (.int .i64 (md k)) ∧ Below w.heap.size w w' := by
  have HK := hid (fun w1 => specKind k w1)
  cases hk : knd k
  · have HF : Hid (md k = -1) := hid (by simp [md, hk])
    rw [hk] at HK
    clear hk
    go_enter Tryd.func63, Tryd.ntmps63
    go_wp2_with fail
    refine (HK.out _).mono ?_
    rintro e w1 ⟨rfl, rfl⟩
    go_wp2
    go_ret
    exact ⟨by rw [HF.out]; rfl, Below.refl _ _⟩
  · obtain ⟨j, rfl, h1, h2⟩ := knd_nat hk
    have HF : Hid (md (j : Int) = mdT.getD j 0) := hid (md_at ⟨h1, h2⟩)
    rw [hk] at HK
    clear hk
    obtain ⟨i, rfl⟩ : ∃ i, j = i + 1 := ⟨j - 1, by omega⟩
    have hw : IntKind.i64.wrap (((i + 1 : Nat) : Int) - 1) = (i : Int) := by rw [IntKind.wrap_i64] <;> omega
    have hi : i ≤ 10 := by omega
    have hc : (w.alloc (.cells #[.int .i64 1, .int .i64 1, .int .i64 1, .int .i64 1, .int .i64 1, .int .i64 1, .int .i64 1, .int .i64 2, .int .i64 2, .int .i64 4, .int .i64 4] 2)).cell? ⟨w.heap.size, i, none⟩ = some (.int .i64 (mdT.getD (i + 1) 0)) := by
      refine (World.cell?_alloc_at _ _ _ i rfl).trans ?_
      match i, hi with
      | 0, _ | 1, _ | 2, _ | 3, _ | 4, _ | 5, _ | 6, _ | 7, _ | 8, _ | 9, _ | 10, _ => rfl
    generalize mdT.getD (i + 1) 0 = x at *
    clear h1 h2
    go_enter Tryd.func63, Tryd.ntmps63
    go_wp2_with fail
    refine (HK.out _).mono ?_
    rintro e w1 ⟨rfl, rfl⟩
    go_wp2
    go_ret
    exact ⟨by rw [HF.out]; rfl, (Below.refl _ _).alloc (Nat.le_refl _) _⟩

end Go.Proofs.YtbbnheiibkcgiabDoor.st
