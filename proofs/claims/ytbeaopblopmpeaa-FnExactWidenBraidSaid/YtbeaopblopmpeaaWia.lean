/-
  WidenBraid, one case.
-/
import Derived.Test.YtbeaopblopmpeaaWi
namespace Go.Proofs.Ytbeaopblopmpeaa.br
open Go.RowKit Go.Proofs.Ytbeaopblopmpeaa.sl Go.Proofs.Ytbeaopblopmpeaa.pm Go.Proofs.Ytbeaopblopmpeaa.bw Go.Proofs.Ytbeaopblopmpeaa.fn

set_option maxHeartbeats 2000000 in
theorem implWidenA (s : Int) (xs : List Int) (l r : Int) (v : Value) (B : Nat) (w : World) (ha : Ints w B v xs) (hB : B ≤ w.heap.size) (hn : xs.length ≤ 1099511627776) (h : okB s xs = false) :
    Calls Try.prog 36 #[.agg #[.int .i64 s, v], .int .i64 l, .int .i64 r] w fun e w' => ∃ ao cap, e = .returned (.tuple #[.agg #[.int .i64 (widS s xs l r), .slice ao (widW s xs l r).length cap], .int .i64 (widC s xs l r)]) ∧ Own w' w.heap.size w'.heap.size (.slice ao (widW s xs l r).length cap) (widW s xs l r) ∧ Below w.heap.size w w' := by
  obtain ⟨ao, cap, hv⟩ := ints_val ha
  obtain ⟨n, hnn⟩ : ∃ n, n = xs.length := ⟨_, rfl⟩
  rw [← hnn] at hv
  subst hv
  have HA := hid ha
  have HN := hid hnn
  clear ha hnn
  have HV := hid (implValidB s xs (.slice ao n cap) B (((w.alloc (.cells #[.int .i64 s, .slice ao n cap] 27)).alloc (.cells #[.int .i64 l] 2)).alloc (.cells #[.int .i64 0, .slice none 0 0] 27)) (ints_al (ints_al (ints_al HA.out _) _) _) (by simp; omega) hn)
  have hno : widOk s xs l r = false := by simp [widOk, h]
  have HW : Hid (widS s xs l r = 0 ∧ widW s xs l r = [] ∧ widC s xs l r = 1) := hid ⟨(wid_no hno).1, (wid_no hno).2, by rw [widC, if_pos h]⟩
  rw [h] at HV
  rw [HW.out.1, HW.out.2.1, HW.out.2.2, List.length_nil]
  clear h hno
  go_enter Try.func36, Try.ntmps36
  go_wp2_with fail
  refine HV.out.mono ?_
  rintro e w1 ⟨rfl, b1⟩
  have HB1 := hid (box3 b1)
  have r0 := (HB1.out.2.2.1 0).1
  have r1 := (HB1.out.2.2.1 1).1
  have f0 := (HB1.out.2.2.1 0).2
  have f1 := (HB1.out.2.2.1 1).2
  have hz := HB1.out.2.2.2.2
  simp at r0 r1
  clear b1 HV
  go_wp2
  refine bodyPost_ret (v := .tuple #[.agg #[.int .i64 0, .slice none 0 0], .int .i64 1]) (by simp [results, Try.results36, go_sem, r0, r1]) rfl ⟨none, 0, rfl, Own.nil _ _, ?_⟩
  exact (HB1.out.2.2.2.1.setCell (by show w.heap.size ≤ w.heap.size + 1 + 1; omega) _).setCell (by show w.heap.size ≤ w.heap.size + 1 + 1; omega) _

set_option maxHeartbeats 2000000 in
theorem implWidenR (s : Int) (xs : List Int) (l r : Int) (v : Value) (B : Nat) (w : World) (ha : Ints w B v xs) (hB : B ≤ w.heap.size) (hn : xs.length ≤ 1099511627776) (h : okB s xs = true) (hr : rngB l r = false) :
    Calls Try.prog 36 #[.agg #[.int .i64 s, v], .int .i64 l, .int .i64 r] w fun e w' => ∃ ao cap, e = .returned (.tuple #[.agg #[.int .i64 (widS s xs l r), .slice ao (widW s xs l r).length cap], .int .i64 (widC s xs l r)]) ∧ Own w' w.heap.size w'.heap.size (.slice ao (widW s xs l r).length cap) (widW s xs l r) ∧ Below w.heap.size w w' := by
  obtain ⟨ao, cap, hv⟩ := ints_val ha
  obtain ⟨n, hnn⟩ : ∃ n, n = xs.length := ⟨_, rfl⟩
  rw [← hnn] at hv
  subst hv
  have HA := hid ha
  have HN := hid hnn
  clear ha hnn
  have HV := hid (implValidB s xs (.slice ao n cap) B (((w.alloc (.cells #[.int .i64 s, .slice ao n cap] 27)).alloc (.cells #[.int .i64 l] 2)).alloc (.cells #[.int .i64 0, .slice none 0 0] 27)) (ints_al (ints_al (ints_al HA.out _) _) _) (by simp; omega) hn)
  have hno : widOk s xs l r = false := by simp [widOk, hr]
  have HW : Hid (widS s xs l r = 0 ∧ widW s xs l r = [] ∧ widC s xs l r = 2) := hid ⟨(wid_no hno).1, (wid_no hno).2, by rw [widC, if_neg (by rw [h]; simp), if_pos hr]⟩
  rw [h] at HV
  rw [HW.out.1, HW.out.2.1, HW.out.2.2, List.length_nil]
  clear h hno
  have hcase : decide (0 ≤ l ∧ l ≤ 12) = false ∨ (decide (0 ≤ l ∧ l ≤ 12) = true ∧ decide (0 ≤ r ∧ r ≤ 12) = false) := by
    cases hl : decide (0 ≤ l ∧ l ≤ 12)
    · exact .inl rfl
    · exact .inr ⟨rfl, by simpa [rngB, hl] using hr⟩
  clear hr
  rcases hcase with hl | ⟨hl, hr⟩
  all_goals
    go_enter Try.func36, Try.ntmps36
    go_wp2_with fail
    refine HV.out.mono ?_
    rintro e w1 ⟨rfl, b1⟩
    have HB1 := hid (box3 b1)
    have d2 := HB1.out.2.1 0
    have r0 := (HB1.out.2.2.1 0).1
    have r1 := (HB1.out.2.2.1 1).1
    have f0 := (HB1.out.2.2.1 0).2
    have f1 := (HB1.out.2.2.1 1).2
    have hz := HB1.out.2.2.2.2
    simp at r0 r1 d2
    clear b1 HV
    go_wp2_with (go_at_call 61; refine (within64 _ _ _ _).mono ?_; rintro e w' ⟨rfl, rfl⟩)
    refine bodyPost_ret (v := .tuple #[.agg #[.int .i64 0, .slice none 0 0], .int .i64 2]) (by simp [results, Try.results36, go_sem, r0, r1]) rfl ⟨none, 0, rfl, Own.nil _ _, ?_⟩
    exact (HB1.out.2.2.2.1.setCell (by show w.heap.size ≤ w.heap.size + 1 + 1; omega) _).setCell (by show w.heap.size ≤ w.heap.size + 1 + 1; omega) _

end Go.Proofs.Ytbeaopblopmpeaa.br
