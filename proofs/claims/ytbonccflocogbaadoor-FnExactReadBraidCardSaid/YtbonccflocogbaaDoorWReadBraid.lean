/-
  The walk of the law of ReadBraid.
-/
import Derived.Test.YtbonccflocogbaaDoorRbi
namespace Go.Proofs.YtbonccflocogbaaDoor.wreadBraid
open Go.RowKit Go.Proofs.YtbonccflocogbaaDoor.sl Go.Proofs.YtbonccflocogbaaDoor.rb
set_option linter.unusedVariables false
set_option linter.unusedSimpArgs false
set_option maxRecDepth 100000

theorem law (a0 : ByteArray) (w : World) (hT : Lib.TabIs Tryd.prog w "internal/strconv.uint64pow10" .u64 Lib.pow10Tab) (hR : rn.HasErr w "strconv.ErrRange") (hS : rn.HasErr w "strconv.ErrSyntax") :
    Calls Tryd.prog 3 #[.string a0] w fun e w' => e = .returned (.bool true) ∧ Below w.heap.size w w' := by
  by_cases htl0 : a0.size ≤ 1048576
  · have hl0 : decide ((1048576 : Int) < (a0.size : Int)) = false := by simp; omega
    have SP : Hid (∀ W : World, Calls Tryd.prog 4 #[.string a0] W fun e w' => ∃ ao cap, e = .returned (.tuple #[.agg #[.int .i64 (rbN a0), .slice ao (rbX a0).length cap], .bool (rbQ a0)]) ∧ Own w' W.heap.size w'.heap.size (.slice ao (rbX a0).length cap) (rbX a0) ∧ Below W.heap.size W w') := hid (fun W => specRB a0 W htl0)
    have IP : Hid (∀ W : World, Below w.heap.size w W → Calls Tryd.prog 5 #[.string a0] W fun e w' => ∃ ao cap, e = .returned (.tuple #[.agg #[.int .i64 (rbN a0), .slice ao (rbX a0).length cap], .bool (rbQ a0)]) ∧ Own w' W.heap.size w'.heap.size (.slice ao (rbX a0).length cap) (rbX a0) ∧ Below W.heap.size W w') := hid (fun W b => implRB a0 W htl0 (lt.carry hT b) (rn.carryR hR b) (rn.carryS hS b))
    have hr : (rbX a0).length ≤ 1099511627776 := Nat.le_trans rb_len (by omega)
    clear hT hR hS
    generalize rbX a0 = zr at *
    generalize rbN a0 = sr at *
    generalize rbQ a0 = qi at *
    go_enter Tryd.func3, Tryd.ntmps3
    go_wp2_with fail
    refine (SP.out w).mono ?_
    rintro e W1 ⟨ao1, cap1, rfl, o1, b1⟩
    have hz1 := b1.size
    have O1 := hid o1
    have C1 := hid b1
    clear o1 b1
    -- the first call
    go_wp2_with fail
    refine (IP.out _ (C1.out.trans ((Below.refl w.heap.size W1).alloc hz1 (.cells #[.int .i64 sr, .slice ao1 zr.length cap1] 24)))).mono ?_
    rintro e W2 ⟨ao2, cap2, rfl, o2, b2⟩
    have hz2 : W1.heap.size + 1 ≤ W2.heap.size := by have := b2.size; simpa using this
    have bb2 : Below W1.heap.size W1 W2 := ((Below.refl W1.heap.size W1).alloc (Nat.le_refl _) _).trans (b2.mono (by simp))
    have K2 := hid ((Bx.laid W1 (.int .i64 sr) (.slice ao1 zr.length cap1)).below b2 (by simp))
    have O2 := hid (o2.lo (lo' := W1.heap.size + 1) (by simp))
    have P2 := hid (O1.out.chg (Chg.ofBelow (lo := 0) bb2) (.inr (.inr (Nat.zero_le _))))
    have C2 := hid (C1.out.trans (bb2.mono (by omega)))
    clear o2 b2 bb2 O1 C1
    -- the comparison
    have bE : Below W2.heap.size W2 (W2.alloc (.cells #[.int .i64 sr, .slice ao2 zr.length cap2] 24)) := (Below.refl _ _).alloc (Nat.le_refl _) _
    have kE := K2.out.below bE (by omega)
    have e0 := kE.c0
    have e1 := kE.c1
    go_wp2_with fail
    refine (br.eqBS sr zr _ _ _ _ (W2.alloc (.cells #[.int .i64 sr, .slice ao2 zr.length cap2] 24)) (br.ints_al O2.out.ints _) (br.ints_al P2.out.ints _) hr).mono ?_
    rintro e W3 ⟨rfl, b3⟩
    have hz3 : W2.heap.size + 1 ≤ W3.heap.size := by have := b3.size; simpa using this
    have bb3 : Below W2.heap.size W2 W3 := bE.trans (b3.mono (by simp))
    have G3 := hid ((Bx.laid W2 (.int .i64 sr) (.slice ao2 zr.length cap2)).below b3 (by simp))
    have K3 := hid (K2.out.below bb3 (by omega))
    have O3 := hid (O2.out.chg (Chg.ofBelow (lo := 0) bb3) (.inr (.inr (Nat.zero_le _))))
    have P3 := hid (P2.out.chg (Chg.ofBelow (lo := 0) bb3) (.inr (.inr (Nat.zero_le _))))
    have C3 := hid (C2.out.trans (bb3.mono (by omega)))
    have g0 := G3.out.c0
    have g1 := G3.out.c1
    clear b3 bb3 bE kE e0 e1 K2 O2 P2 C2
    -- marking
    go_wp2_with fail
    refine (br.markB sr zr _ _ _ 1 W3 O3.out hr (by omega) (by omega)).mono ?_
    rintro e W4 ⟨rfl, o4, c4⟩
    have hz4 := c4.size
    have bc4 : Below (W1.heap.size + 1) W3 W4 := c4.below (Nat.le_refl _) (by omega)
    have O4 := hid o4
    have G4 : Hid (Bx W4 W2.heap.size (.int .i64 sr) (.slice ao2 zr.length cap2)) := hid (G3.out.other c4 (.inr (by omega)))
    have K4 := hid (K3.out.below bc4 (by omega))
    have P4 := hid (P3.out.chg c4 (.inl (by omega)))
    have C4 := hid (C3.out.trans (bc4.mono (by omega)))
    clear o4 c4 bc4 g0 g1 G3 K3 O3 P3 C3
    have g0 := G4.out.c0
    have g1 := G4.out.c1
    go_wp2_with fail
    refine (br.heldB sr zr.length _ _ 1 W4 O4.out.ints hr (by omega) (by omega)).mono ?_
    rintro e W5 ⟨rfl, b5⟩
    have hz5 := b5.size
    have G5 := hid (G4.out.below b5 (by omega))
    have K5 := hid (K4.out.below b5 (by omega))
    have O5 := hid (O4.out.chg (Chg.ofBelow (lo := 0) b5) (.inr (.inr (Nat.zero_le _))))
    have P5 := hid (P4.out.chg (Chg.ofBelow (lo := 0) b5) (.inr (.inr (Nat.zero_le _))))
    have C5 := hid (C4.out.trans (b5.mono (by omega)))
    clear b5 g0 g1 G4 K4 O4 P4 C4
    -- the second call
    go_wp2_with fail
    refine (IP.out W5 C5.out).mono ?_
    rintro e W6 ⟨ao6, cap6, rfl, o6, b6⟩
    have hz6 := b6.size
    have G6 := hid (G5.out.below b6 (by omega))
    have K6 := hid (K5.out.below b6 (by omega))
    have O6 := hid (O5.out.chg (Chg.ofBelow (lo := 0) b6) (.inr (.inr (Nat.zero_le _))))
    have P6 := hid (P5.out.chg (Chg.ofBelow (lo := 0) b6) (.inr (.inr (Nat.zero_le _))))
    have Q6 := hid o6
    have C6 := hid (C5.out.trans (b6.mono (by omega)))
    clear o6 b6 G5 K5 O5 P5 C5
    have bE : Below W6.heap.size W6 (W6.alloc (.cells #[.int .i64 sr, .slice ao6 zr.length cap6] 24)) := (Below.refl _ _).alloc (Nat.le_refl _) _
    have kE := K6.out.below bE (by omega)
    have e0 := kE.c0
    have e1 := kE.c1
    go_wp2_with fail
    refine (br.eqBS sr zr _ _ _ _ (W6.alloc (.cells #[.int .i64 sr, .slice ao6 zr.length cap6] 24)) (br.ints_al Q6.out.ints _) (br.ints_al P6.out.ints _) hr).mono ?_
    rintro e W7 ⟨rfl, b7⟩
    have hz7 : W6.heap.size + 1 ≤ W7.heap.size := by have := b7.size; simpa using this
    have bb7 : Below W6.heap.size W6 W7 := bE.trans (b7.mono (by simp))
    have G7 := hid (G6.out.below bb7 (by omega))
    have O7 := hid (O6.out.chg (Chg.ofBelow (lo := 0) bb7) (.inr (.inr (Nat.zero_le _))))
    have C7 := hid (C6.out.trans (bb7.mono (by omega)))
    have g0 := G7.out.c0
    have g1 := G7.out.c1
    clear b7 bb7 bE kE e0 e1 K6 G6 O6 P6 Q6 C6
    go_wp2_with fail
    refine (br.heldB sr zr.length _ _ 1 W7 O7.out.ints hr (by omega) (by omega)).mono ?_
    rintro e W8 ⟨rfl, b8⟩
    have C8 := hid (C7.out.trans (b8.mono (by omega)))
    clear b8
    go_wp2
    go_ret
    exact ⟨rfl, C8.out⟩
  · have hl0 : decide ((1048576 : Int) < (a0.size : Int)) = true := by simp; omega
    go_enter Tryd.func3, Tryd.ntmps3
    go_wp2
    go_ret
    exact ⟨rfl, Below.refl _ _⟩
end Go.Proofs.YtbonccflocogbaaDoor.wreadBraid
