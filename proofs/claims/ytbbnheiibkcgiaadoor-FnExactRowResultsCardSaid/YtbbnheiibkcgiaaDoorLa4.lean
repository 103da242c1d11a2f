/-
  RowSources and RowResults of the program.
-/
import Derived.Test.YtbbnheiibkcgiaaDoorLa3
namespace Go.Proofs.YtbbnheiibkcgiaaDoor.la
open Go.RowKit Go.Proofs.YtbbnheiibkcgiaaDoor.sl Go.Proofs.YtbbnheiibkcgiaaDoor.pm Go.Proofs.YtbbnheiibkcgiaaDoor.br Go.Proofs.YtbbnheiibkcgiaaDoor.bw Go.Proofs.YtbbnheiibkcgiaaDoor.st Go.Proofs.YtbbnheiibkcgiaaDoor.wk Go.Proofs.YtbbnheiibkcgiaaDoor.rl
set_option linter.unusedVariables false
set_option maxRecDepth 100000

set_option maxHeartbeats 4000000 in
theorem implRS (d c : Int) (xs : List Int) (v : Value) (B : Nat) (w : World) (ha : Ints w B v xs) (hB : B ≤ w.heap.size) (hq : l5.Small xs) (hT : stb.Tab w) :
    Calls Tryd.prog 23 #[.agg #[.int .i64 d, .int .i64 c, v]] w fun e w' => ∃ v', e = .returned (.tuple #[v', .int .i64 (laC d c xs)]) ∧ ss.ROwn w' w.heap.size w'.heap.size v' (rsW tk d c xs) ∧ Below w.heap.size w w' := by
  have b0 := (Below.refl w.heap.size w).alloc (Nat.le_refl _) (.cells #[.int .i64 d, .int .i64 c, v] 40)
  have HB := hid b0
  have hai := ha.chg (Chg.ofBelow (lo := 0) b0) (.inr (Nat.zero_le _))
  have hBi := Nat.le_trans hB b0.size
  have hTi := stb.carry hT b0
  obtain ⟨ao, cap, hv⟩ := ints_val ha
  by_cases h0 : laC d c xs = 0
  · have HL := hid (layYes d c xs v B _ hai hBi hq hTi h0)
    have HW : Hid (rsW tk d c xs = numL tk xs xs.length) := hid (by rw [rsW, if_pos h0])
    have HC := hid h0
    rw [HW.out, HC.out]
    clear hai hTi h0 HW HC ha hT b0 hq
    generalize numL tk xs xs.length = L1 at *
    generalize numL md xs xs.length = L2 at *
    obtain ⟨n, hn⟩ : ∃ n, n = xs.length := ⟨_, rfl⟩
    rw [← hn] at hv
    clear hn
    subst hv
    go_enter Tryd.func23, Tryd.ntmps23
    go_wp2_with fail
    refine HL.out.mono ?_
    rintro e w1 ⟨v1, vals1, v2, vals2, rfl, s1, s2, b1⟩
    obtain ⟨a1, c1, hv1⟩ := s1.val
    obtain ⟨a2, c2, hv2⟩ := s2.val
    have B1 := hid (HB.out.trans (b1.mono HB.out.size))
    have HS := hid s1
    obtain ⟨n1, hn1⟩ : ∃ n1, n1 = L1.length := ⟨_, rfl⟩
    obtain ⟨n2, hn2⟩ : ∃ n2, n2 = L2.length := ⟨_, rfl⟩
    rw [← hn1] at hv1
    rw [← hn2] at hv2
    clear s1 s2 b1 hn1 hn2
    subst hv1 hv2
    have HS2 := hid ((HS.out.low (lo' := w.heap.size) HB.out.size).below ((Below.refl w1.heap.size w1).alloc (Nat.le_refl _) (.cells #[.int .i64 d, .int .i64 c, .slice ao n cap, .slice a1 n1 c1, .slice a2 n2 c2] 69)))
    have HB2 := hid (B1.out.alloc B1.out.size (.cells #[.int .i64 d, .int .i64 c, .slice ao n cap, .slice a1 n1 c1, .slice a2 n2 c2] 69))
    go_wp2
    go_ret2
    exact ⟨_, rfl, HS2.out.rown, HB2.out⟩
  · have HL := hid (layNo d c xs v B _ hai hBi hq hTi h0)
    have HW : Hid (rsW tk d c xs = []) := hid (by rw [rsW, if_neg h0])
    rw [HW.out]
    clear hai hTi h0 HW ha hT b0 hq
    generalize laC d c xs = cd at *
    obtain ⟨n, hn⟩ : ∃ n, n = xs.length := ⟨_, rfl⟩
    rw [← hn] at hv
    clear hn
    subst hv
    simp only [zLaid] at HL
    go_enter Tryd.func23, Tryd.ntmps23
    go_wp2_with fail
    refine HL.out.mono ?_
    rintro e w1 ⟨rfl, b1⟩
    have B1 := hid (HB.out.trans (b1.mono HB.out.size))
    have HB2 := hid (B1.out.alloc B1.out.size (.cells #[.int .i64 0, .int .i64 0, .slice none 0 0, .slice none 0 0, .slice none 0 0] 69))
    clear b1
    go_wp2
    go_ret2
    exact ⟨.slice none 0 0, rfl, rown_nil _ _, HB2.out⟩

set_option maxHeartbeats 4000000 in
theorem implRR (d c : Int) (xs : List Int) (v : Value) (B : Nat) (w : World) (ha : Ints w B v xs) (hB : B ≤ w.heap.size) (hq : l5.Small xs) (hT : stb.Tab w) :
    Calls Tryd.prog 28 #[.agg #[.int .i64 d, .int .i64 c, v]] w fun e w' => ∃ v', e = .returned (.tuple #[v', .int .i64 (laC d c xs)]) ∧ ss.ROwn w' w.heap.size w'.heap.size v' (rsW md d c xs) ∧ Below w.heap.size w w' := by
  have b0 := (Below.refl w.heap.size w).alloc (Nat.le_refl _) (.cells #[.int .i64 d, .int .i64 c, v] 40)
  have HB := hid b0
  have hai := ha.chg (Chg.ofBelow (lo := 0) b0) (.inr (Nat.zero_le _))
  have hBi := Nat.le_trans hB b0.size
  have hTi := stb.carry hT b0
  obtain ⟨ao, cap, hv⟩ := ints_val ha
  by_cases h0 : laC d c xs = 0
  · have HL := hid (layYes d c xs v B _ hai hBi hq hTi h0)
    have HW : Hid (rsW md d c xs = numL md xs xs.length) := hid (by rw [rsW, if_pos h0])
    have HC := hid h0
    rw [HW.out, HC.out]
    clear hai hTi h0 HW HC ha hT b0 hq
    generalize numL tk xs xs.length = L1 at *
    generalize numL md xs xs.length = L2 at *
    obtain ⟨n, hn⟩ : ∃ n, n = xs.length := ⟨_, rfl⟩
    rw [← hn] at hv
    clear hn
    subst hv
    go_enter Tryd.func28, Tryd.ntmps28
    go_wp2_with fail
    refine HL.out.mono ?_
    rintro e w1 ⟨v1, vals1, v2, vals2, rfl, s1, s2, b1⟩
    obtain ⟨a1, c1, hv1⟩ := s1.val
    obtain ⟨a2, c2, hv2⟩ := s2.val
    have B1 := hid (HB.out.trans (b1.mono HB.out.size))
    have HS := hid s2
    obtain ⟨n1, hn1⟩ : ∃ n1, n1 = L1.length := ⟨_, rfl⟩
    obtain ⟨n2, hn2⟩ : ∃ n2, n2 = L2.length := ⟨_, rfl⟩
    rw [← hn1] at hv1
    rw [← hn2] at hv2
    clear s1 s2 b1 hn1 hn2
    subst hv1 hv2
    have HS2 := hid ((HS.out.low (lo' := w.heap.size) HB.out.size).below ((Below.refl w1.heap.size w1).alloc (Nat.le_refl _) (.cells #[.int .i64 d, .int .i64 c, .slice ao n cap, .slice a1 n1 c1, .slice a2 n2 c2] 69)))
    have HB2 := hid (B1.out.alloc B1.out.size (.cells #[.int .i64 d, .int .i64 c, .slice ao n cap, .slice a1 n1 c1, .slice a2 n2 c2] 69))
    go_wp2
    go_ret2
    exact ⟨_, rfl, HS2.out.rown, HB2.out⟩
  · have HL := hid (layNo d c xs v B _ hai hBi hq hTi h0)
    have HW : Hid (rsW md d c xs = []) := hid (by rw [rsW, if_neg h0])
    rw [HW.out]
    clear hai hTi h0 HW ha hT b0 hq
    generalize laC d c xs = cd at *
    obtain ⟨n, hn⟩ : ∃ n, n = xs.length := ⟨_, rfl⟩
    rw [← hn] at hv
    clear hn
    subst hv
    simp only [zLaid] at HL
    go_enter Tryd.func28, Tryd.ntmps28
    go_wp2_with fail
    refine HL.out.mono ?_
    rintro e w1 ⟨rfl, b1⟩
    have B1 := hid (HB.out.trans (b1.mono HB.out.size))
    have HB2 := hid (B1.out.alloc B1.out.size (.cells #[.int .i64 0, .int .i64 0, .slice none 0 0, .slice none 0 0, .slice none 0 0] 69))
    clear b1
    go_wp2
    go_ret2
    exact ⟨.slice none 0 0, rfl, rown_nil _ _, HB2.out⟩

theorem pre_le (L : List (List Int)) (m : Nat) (h : ss.Short L m) : ∀ k, k ≤ L.length → ss.pre L k ≤ k * m := by
  intro k
  induction k with
  | zero => intro _; simp [ss.pre_zero]
  | succ k ih =>
    intro hk
    have h1 := ih (by omega)
    have h2 := h k (by omega)
    rw [ss.pre_succ L k (by omega), Nat.add_mul]
    omega
theorem rsW_len (f : Int → Int) (hf : ∀ x, knd x = true → f x ≤ 4) (d c : Int) (xs : List Int) : (rsW f d c xs).length ≤ 1048576 ∧ ss.Short (rsW f d c xs) 1099511627776 ∧ ss.tot (rsW f d c xs) ≤ 1048576 := by
  unfold rsW
  split
  · rename_i h0
    have hl := row_lst (la_row h0)
    have h16 := (lst_parts hl).1
    have hsh : ss.Short (numL f xs xs.length) 4 := fun j hj => by
      rw [numL_len] at hj
      rw [numL_at f xs xs.length j hj, sl.marks_len]
      have := hf _ ((lst_parts hl).2 j hj)
      omega
    have hp := pre_le _ 4 hsh xs.length (by rw [numL_len]; omega)
    refine ⟨by rw [numL_len]; omega, fun j hj => Nat.le_trans (hsh j hj) (by omega), ?_⟩
    unfold ss.tot
    rw [numL_len]
    omega
  · exact ⟨by simp, fun j hj => by simp at hj, by simp [ss.tot, ss.pre_zero]⟩
theorem tkW_len (d c : Int) (xs : List Int) : (rsW tk d c xs).length ≤ 1048576 ∧ ss.Short (rsW tk d c xs) 1099511627776 ∧ ss.tot (rsW tk d c xs) ≤ 1048576 := rsW_len tk (fun x h => (tk_bound h).2) d c xs
theorem mdW_len (d c : Int) (xs : List Int) : (rsW md d c xs).length ≤ 1048576 ∧ ss.Short (rsW md d c xs) 1099511627776 ∧ ss.tot (rsW md d c xs) ≤ 1048576 := rsW_len md (fun x h => (md_bound h).2) d c xs
end Go.Proofs.YtbbnheiibkcgiaaDoor.la
