/-
  ReadNeedle: the walk of the law.
-/
import Derived.Test.YtlbhpndkmgchcaaDoorRns
namespace Go.Proofs.YtlbhpndkmgchcaaDoor.rn
open Go.RowKit

theorem implRN0 (w : World) : Calls Tryd.prog 9 #[.string ByteArray.empty] w fun e w' => e = .returned (.tuple #[.agg #[.int .i64 0, .int .i64 0], .bool false]) ∧ Below w.heap.size w w' := by
  go_enter Tryd.func9, Tryd.ntmps9
  go_wp2
  refine bodyPost_ret (v := .tuple #[.agg #[.int .i64 0, .int .i64 0], .bool false]) (by simp [results, Tryd.results9, go_sem]) rfl ⟨rfl, ?_⟩
  repeat (first | exact Below.refl _ _ | refine Below.setCell ?_ (by simp <;> omega) _ | refine Below.alloc ?_ (by simp <;> omega) _)

theorem implRNA (s : ByteArray) (hs : s.size ≤ 1048576) (w : World) (hT : Lib.TabIs Tryd.prog w "internal/strconv.uint64pow10" .u64 Lib.pow10Tab) (hR : HasErr w "strconv.ErrRange") (hS : HasErr w "strconv.ErrSyntax") :
    Calls Tryd.prog 9 #[.string s] w fun e w' => e = .returned (.tuple #[.agg #[.int .i64 (rnB s.data.toList), .int .i64 (rnA s.data.toList)], .bool (rnOk s.data.toList)]) ∧ Below w.heap.size w w' := by
  by_cases h0 : s.size = 0
  · obtain rfl : s = ByteArray.empty := by rcases s with ⟨⟨l⟩⟩; simp [ByteArray.size] at h0; subst h0; rfl
    have hF := rn_no (rn_short ByteArray.empty (by simp))
    rw [hF.1, hF.2.1, hF.2.2]
    exact implRN0 w
  · exact implRN s (by omega) hs w hT hR hS

theorem eqN (b t : Int) (w : World) : Calls Tryd.prog 10 #[.agg #[.int .i64 b, .int .i64 t], .agg #[.int .i64 b, .int .i64 t]] w fun e w' => e = .returned (.bool true) ∧ Below w.heap.size w w' := by
  go_enter Tryd.func10, Tryd.ntmps10
  go_wp2
  go_ret
  refine ⟨rfl, ?_⟩
  repeat (first | exact Below.refl _ _ | refine Below.alloc ?_ (by simp <;> omega) _)

theorem law (s : ByteArray) (w : World) (hT : Lib.TabIs Tryd.prog w "internal/strconv.uint64pow10" .u64 Lib.pow10Tab) (hR : HasErr w "strconv.ErrRange") (hS : HasErr w "strconv.ErrSyntax") :
    Calls Tryd.prog 4 #[.string s] w fun e w' => e = .returned (.bool true) ∧ Below w.heap.size w w' := by
  by_cases hl : s.size ≤ 1048576
  · have hd : decide (1048576 < (s.size : Int)) = false := by simp; omega
    have HSp := hid (specRN s hl w)
    have HIm := hid (fun w1 (hb : Below w.heap.size w w1) => implRNA s hl w1 (lt.carry hT hb) (carryR hR hb) (carryS hS hb))
    generalize rnB s.data.toList = b at *
    generalize rnA s.data.toList = a at *
    generalize rnOk s.data.toList = q at *
    clear hT hR hS
    cases q
    all_goals
      go_enter Tryd.func4, Tryd.ntmps4
      go_wp2_with fail
      refine HSp.out.mono ?_
      rintro e w1 ⟨rfl, b1⟩
      have bE : Below w1.heap.size w1 (w1.alloc (.cells #[.int .i64 b, .int .i64 a] 25)) := (Below.refl _ _).alloc (Nat.le_refl _) _
      have HB1 := hid (b1.trans (bE.mono b1.size))
      have hz1 := b1.size
      clear b1 bE
      go_wp2_with fail
      refine (HIm.out _ HB1.out).mono ?_
      rintro e w2 ⟨rfl, b2⟩
      have HB2 := hid (box1 b2)
      have k0 := (HB2.out.1 0).1
      have k1 := (HB2.out.1 1).1
      have hz2 := HB2.out.2.2
      simp at k0 k1
      have bE : Below w2.heap.size w2 (w2.alloc (.cells #[.int .i64 b, .int .i64 a] 25)) := (Below.refl _ _).alloc (Nat.le_refl _) _
      have m0 := (bE.cell (p := ⟨w1.heap.size, 0, none⟩) (by show w1.heap.size < w2.heap.size; omega)).trans k0
      have m1 := (bE.cell (p := ⟨w1.heap.size, 1, none⟩) (by show w1.heap.size < w2.heap.size; omega)).trans k1
      have HC := hid (HB1.out.trans (b2.mono (by simp; omega)))
      have HC2 := hid (HC.out.trans (bE.mono HC.out.size))
      clear b2 bE
      go_wp2_with fail
      refine (eqN _ _ _).mono ?_
      rintro e w3 ⟨rfl, b3⟩
      have HC3 := hid (HC2.out.trans (b3.mono HC2.out.size))
      clear b3
      go_wp2
      go_ret
      exact ⟨rfl, HC3.out⟩
  · have hd : decide (1048576 < (s.size : Int)) = true := by simp; omega
    go_enter Tryd.func4, Tryd.ntmps4
    go_wp2
    go_ret
    exact ⟨rfl, Below.refl _ _⟩
end Go.Proofs.YtlbhpndkmgchcaaDoor.rn
