/-
  Drawn words of exchanges: contract of DrawPermutationOfWord. What is drawn is left open.
-/
import Derived.Test.YtnnbhgiaaelkiabSrc2
import Derived.BigGuard
namespace Go.Proofs.Ytnnbhgiaaelkiab.sr
open Go.RowKit Go.Proofs.Ytnnbhgiaaelkiab.sl Go.Proofs.Ytnnbhgiaaelkiab.pm Go.Proofs.Ytnnbhgiaaelkiab.fn

theorem own4 (w1 : World) (a b c d : Int) : Own (w1.alloc (.cells #[.int .i64 a, .int .i64 b, .int .i64 c, .int .i64 d] 2)) w1.heap.size (w1.heap.size + 1) (.slice (some ⟨w1.heap.size, 0, none⟩) 4 4) [a, b, c, d] := by
  refine ⟨⟨by simp, .inr ⟨w1.heap.size, 4, #[.int .i64 a, .int .i64 b, .int .i64 c, .int .i64 d], rfl, Nat.le_refl _, heap_alloc_new _ _, Nat.le_refl _, by unfold maxLen; omega, by simp, by simp⟩⟩, fun g hg => ?_, by simp⟩
  simp [Value.ownBlock] at hg
  omega
theorem own3 (w1 : World) (a b c : Int) : Own (w1.alloc (.cells #[.int .i64 a, .int .i64 b, .int .i64 c] 2)) w1.heap.size (w1.heap.size + 1) (.slice (some ⟨w1.heap.size, 0, none⟩) 3 3) [a, b, c] := by
  refine ⟨⟨by simp, .inr ⟨w1.heap.size, 3, #[.int .i64 a, .int .i64 b, .int .i64 c], rfl, Nat.le_refl _, heap_alloc_new _ _, Nat.le_refl _, by unfold maxLen; omega, by simp, by simp⟩⟩, fun g hg => ?_, by simp⟩
  simp [Value.ownBlock] at hg
  omega

set_option maxRecDepth 100000 in
set_option maxHeartbeats 2000000 in
theorem wordDraw (n : Nat) (v : Value) (w : World) (h : Bytes w w.heap.size v n) (hn : n ≤ 3000) :
    Calls Try.prog 23 #[v] w fun e w' => ∃ (N : Int) (u : Value) (ws : List Int), e = .returned (.tuple #[.int .i64 N, u]) ∧ -1 ≤ N ∧ N ≤ 13 ∧ ws.length ≤ 300 ∧ Own w' w.heap.size w'.heap.size u ws ∧ Below w.heap.size w w' := by
  have HB := hid h
  clear h
  go_enter Try.func23, Try.ntmps23
  go_wp2_with fail
  refine (sfrom n v w HB.out).mono ?_
  rintro e w1 ⟨rfl, s1, b1, z1⟩
  have HS1 := hid s1
  have HB1 := hid b1
  clear s1 b1
  go_wp2_with fail
  refine (size w.heap.size n 0 v w1 HS1.out hn (by omega)).mono ?_
  rintro e w2 ⟨N, hN, rfl, s2, c2⟩
  have z2 := c2.size
  have HB2 := hid (HB1.out.trans (c2.below (B := w.heap.size) (Nat.le_refl _) (by omega)))
  have HO3 : Hid (Own (w2.alloc (.cells #[] 2)) (w.heap.size + 1) (w2.heap.size + 1) (.slice (some ⟨w2.heap.size, 0, none⟩) 0 0) []) := hid ((built1 w2).lo (by omega))
  have b3 : Below w2.heap.size w2 (w2.alloc (.cells #[] 2)) := (Below.refl _ _).alloc (Nat.le_refl _) _
  have HS3 := hid (s2.chg (Chg.ofBelow (lo := w2.heap.size) b3) (by omega))
  have HB3 := hid (HB2.out.trans (b3.mono (by omega)))
  have z3 : (w2.alloc (.cells #[] 2)).heap.size = w2.heap.size + 1 := by simp
  clear s2 c2 b3 HS1 HB1 HB2
  go_wp2_with fail
  refine (pick w.heap.size n 4 v 30 _ HS3.out hn (by omega) (by omega)).mono ?_
  rintro e w4 ⟨r, hr, rfl, s4, c4⟩
  have z4 := c4.size
  have HS4 := hid s4
  have HO4 := hid (HO3.out.chg c4 (by omega))
  have HB4 := hid (HB3.out.trans (c4.below (B := w.heap.size) (Nat.le_refl _) (by omega)))
  clear s4 c4 HS3 HO3 HB3
  go_wp2_with fail
  refine (one w.heap.size n 6 v 24 w4 HS4.out hn (by omega) (by omega)).mono ?_
  rintro e w5 ⟨⟨q, rfl⟩, s5, c5⟩
  have z5 := c5.size
  have HS5 := hid s5
  have HO5 := hid (HO4.out.chg c5 (by omega))
  have HB5 := hid (HB4.out.trans (c5.below (B := w.heap.size) (Nat.le_refl _) (by omega)))
  clear s5 c5 HS4 HO4 HB4
  cases q
  case' true =>
    go_wp2_with fail
    refine (pick w.heap.size n 8 v 2 w5 HS5.out hn (by omega) (by omega)).mono ?_
    rintro e w6 ⟨r2, hr2, rfl, s6, c6⟩
    have z6 := c6.size
    have hr3 : r2 ≤ 1 := by omega
    have HS6 := hid s6
    have HO6 := hid (HO5.out.chg c6 (by omega))
    have HB6 := hid (HB5.out.trans (c6.below (B := w.heap.size) (Nat.le_refl _) (by omega)))
    clear s6 c6 HS5 HO5 HB5 hr2
    go_wp2
  case' false =>
    have hr3 : r ≤ 30 := by omega
    go_wp2
  all_goals
    go_loopw [6, 7] (fun u i wr => ∃ (c : Nat) (L : List Int), i = .int .i64 (c : Int) ∧ L.length + c ≤ 202 ∧ Own wr (w.heap.size + 1) wr.heap.size u L ∧ Src wr w.heap.size v n (10 + 2 * L.length) ∧ Below w.heap.size w wr ∧ w.heap.size + 1 ≤ wr.heap.size)
      (fun _ i _ => (intOf i).toNat)
    case atStart =>
      first
        | exact ⟨200 + r2, [], congrArg (Value.int .i64) (by omega), by simp; omega, HO6.out.hi HO6.out.2.2 (Nat.le_refl _), HS6.out, HB6.out, by omega⟩
        | exact ⟨r, [], rfl, by simp; omega, HO5.out.hi HO5.out.2.2 (Nat.le_refl _), HS5.out.more 2, HB5.out, by omega⟩
    case round =>
      obtain ⟨c, L, rfl, hcl, ho, hs, hb, hsz⟩ := hrel
      have HO := hid ho
      have HS := hid hs
      have HB := hid hb
      have HL := hid hcl
      have hc202 : c ≤ 202 := by omega
      have hl202 : L.length ≤ 202 := by omega
      clear ho hs hb hcl
      by_cases hgo : 0 < c ∧ 1 < N
      · obtain ⟨hg1, hg2⟩ := hgo
        have d1 : decide ((0 : Int) < (c : Int)) = true := by simp; omega
        have d2 : decide ((1 : Int) < (N : Int)) = true := by simp; omega
        have hw1 : IntKind.i64.wrap ((N : Int) - 1) = (N : Int) - 1 := IntWalk.i64_in _ (by omega)
        go_wp2_with fail
        refine (pick w.heap.size n (10 + 2 * L.length) v ((N : Int) - 1) wr HS.out hn (by omega) (by omega)).mono ?_
        rintro e w7 ⟨x, hx, rfl, s7, c7⟩
        have z7 := c7.size
        have HS7 := hid s7
        have HO7 := hid (HO.out.chg c7 (by omega))
        have HB7 := hid (HB.out.trans (c7.below (B := w.heap.size) (Nat.le_refl _) (by omega)))
        have hz7 : w.heap.size + 1 ≤ w7.heap.size := by omega
        clear s7 c7 HO HS HB hx
        go_wp2_with (at_builtin; refine wp_append rfl _ _ rfl (w.heap.size + 1) wr.heap.size _ L (x : Int) HO7.out rfl rfl hz7 (by omega) ?_; intro v' w8 hown8 hchg8 hsz8)
        have HO8 := hid hown8
        have HS8 := hid (HS7.out.chg hchg8 (by omega))
        have HB8 := hid (HB7.out.trans (hchg8.below (B := w.heap.size) (by omega) (by omega)))
        clear hown8 hchg8 HO7 HS7 HB7
        go_wp2
        go_roundw
        case rel => exact ⟨c - 1, L ++ [(x : Int)], by go_num, by simp; have := HL.out; omega, HO8.out, by rw [List.length_append, List.length_singleton]; exact HS8.out, HB8.out, by omega⟩
        case measure => simp [intOf]; omega
      · have hw1 : IntKind.i64.wrap ((N : Int) - 1) = (N : Int) - 1 := IntWalk.i64_in _ (by omega)
        have hcc : (decide (0 < c) = false) ∨ (0 < c ∧ decide ((1 : Int) < (N : Int)) = false) := by
          by_cases h : 0 < c
          · exact .inr ⟨h, by simp; omega⟩
          · exact .inl (by simp; omega)
        clear hgo
        rcases hcc with d1 | ⟨h1, d2⟩
        all_goals
          go_wp2_with fail
          refine (pick w.heap.size n (10 + 2 * L.length) v 16 wr HS.out hn (by omega) (by omega)).mono ?_
          rintro e w7 ⟨x, hx, rfl, s7, c7⟩
          have z7 := c7.size
          have HS7 := hid s7
          have HO7 := hid (HO.out.chg c7 (by omega))
          have HB7 := hid (HB.out.trans (c7.below (B := w.heap.size) (Nat.le_refl _) (by omega)))
          have hz7 : w.heap.size + 1 ≤ w7.heap.size := by omega
          have hx16 : x < 16 := by omega
          clear s7 c7 HO HS HB hx
          by_cases h0 : x = 0
          · subst h0
            have HO4 := hid (own4 w7 (-1) 13 0 1)
            have b4 : Below w7.heap.size w7 (w7.alloc (.cells #[.int .i64 (-1), .int .i64 13, .int .i64 0, .int .i64 1] 2)) := (Below.refl _ _).alloc (Nat.le_refl _) _
            have HS8 := hid (HS7.out.chg (Chg.ofBelow (lo := w7.heap.size) b4) (by omega))
            have HB8 := hid (HB7.out.trans (b4.mono (by omega)))
            have HO8 := hid (HO7.out.chg (Chg.ofBelow (lo := w7.heap.size) b4) (by omega))
            have z8 := b4.size
            clear b4 HS7 HB7 HO7
            go_wp2_with fail
            refine (among w.heap.size n (10 + 2 * L.length + 2) _ _ v _ [-1, 13, 0, 1] _ HS8.out hn (by omega) HO4.out (by omega) (by simp) (by simp)).mono ?_
            rintro e w9 ⟨⟨y, hy, rfl⟩, s9, c9⟩
            have z9 := c9.size
            have HO9 := hid (HO8.out.chg c9 (by omega))
            have HB9 := hid (HB8.out.trans (c9.below (B := w.heap.size) (Nat.le_refl _) (by omega)))
            have hyb : -1 ≤ y ∧ y ≤ 13 := by
              simp at hy
              rcases hy with rfl | rfl | rfl | rfl <;> omega
            clear s9 c9 HO8 HB8 HS8
            go_wp2
            go_ret2
            exact ⟨y, u6, L, rfl, hyb.1, hyb.2, by omega, (HO9.out.hi (by omega) (Nat.le_refl _)).lo (by omega), HB9.out⟩
          · by_cases h1 : x = 1
            · subst h1
              have HO4 := hid (own3 w7 (-1) ((N : Int) - 1) (N : Int))
              have b4 : Below w7.heap.size w7 (w7.alloc (.cells #[.int .i64 (-1), .int .i64 ((N : Int) - 1), .int .i64 (N : Int)] 2)) := (Below.refl _ _).alloc (Nat.le_refl _) _
              have HS8 := hid (HS7.out.chg (Chg.ofBelow (lo := w7.heap.size) b4) (by omega))
              have HB8 := hid (HB7.out.trans (b4.mono (by omega)))
              have HO8 := hid (HO7.out.chg (Chg.ofBelow (lo := w7.heap.size) b4) (by omega))
              have z8 := b4.size
              clear b4 HS7 HB7 HO7
              go_wp2_with fail
              refine (among w.heap.size n (10 + 2 * L.length + 2) _ _ v _ [-1, (N : Int) - 1, (N : Int)] _ HS8.out hn (by omega) HO4.out (by omega) (by simp) (by simp)).mono ?_
              rintro e w9 ⟨⟨y, hy, rfl⟩, s9, c9⟩
              have z9 := c9.size
              have HO9 := hid (HO8.out.chg c9 (by omega))
              have HB9 := hid (HB8.out.trans (c9.below (B := w.heap.size) (Nat.le_refl _) (by omega)))
              have hz9 : w.heap.size + 1 ≤ w9.heap.size := by omega
              clear s9 c9 HO8 HB8 HS8 hy
              go_wp2_with (at_builtin; refine wp_append rfl _ _ rfl (w.heap.size + 1) wr.heap.size _ L y HO9.out rfl rfl hz9 (by omega) ?_; intro v' w10 hown10 hchg10 hsz10)
              have HO10 := hid hown10
              have HB10 := hid (HB9.out.trans (hchg10.below (B := w.heap.size) (by omega) (by omega)))
              clear hown10 hchg10 HO9 HB9
              go_wp2
              go_ret2
              exact ⟨N, v', L ++ [y], rfl, by omega, by omega, by simp; omega, HO10.out.lo (by omega), HB10.out⟩
            · have e0 : ((x : Int) == 0) = false := by simp; omega
              have e1 : ((x : Int) == 1) = false := by simp; omega
              have e2 : decide ((x : Int) = 0) = false := by simp; omega
              have e3 : decide ((x : Int) = 1) = false := by simp; omega
              go_wp2
              go_ret2
              exact ⟨N, u6, L, rfl, by omega, by omega, by omega, (HO7.out.hi (by omega) (Nat.le_refl _)).lo (by omega), HB7.out⟩

end Go.Proofs.Ytnnbhgiaaelkiab.sr
