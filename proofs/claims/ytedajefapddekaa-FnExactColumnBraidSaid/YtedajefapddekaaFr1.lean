/-
  Letters that cancel: contract of countCancelling.
-/
import Derived.Test.YtedajefapddekaaFv
import Derived.BigQuiet
namespace Go.Proofs.Ytedajefapddekaa.fr
open Go.RowKit Go.Proofs.Ytedajefapddekaa.sl Go.Proofs.Ytedajefapddekaa.pm Go.Proofs.Ytedajefapddekaa.bw Go.Proofs.Ytedajefapddekaa.br Go.Proofs.Ytedajefapddekaa.fv
set_option linter.unusedVariables false

def Small (xs : List Int) : Prop := ∀ j, j < xs.length → -100 ≤ xs.getD j 0 ∧ xs.getD j 0 ≤ 100
/-- So many letters at the end of one word cancel with those at the beginning of another one. -/
structure Canc (xs ys : List Int) (c : Nat) : Prop where
  lx : c ≤ xs.length
  ly : c ≤ ys.length
  all : ∀ i, i < c → xs.getD (xs.length - 1 - i) 0 = -(ys.getD i 0)
  stop : c < xs.length → c < ys.length → xs.getD (xs.length - 1 - c) 0 ≠ -(ys.getD c 0)

theorem opp (x y : Int) (hy : -100 ≤ y ∧ y ≤ 100) (q : Bool) (hq : decide (x = -y) = q) (w : World) :
    Calls Try.prog 115 #[.int .i64 x, .int .i64 y] w fun e w' => e = .returned (.bool q) ∧ w' = w := by
  have hw : IntKind.i64.wrap (-y) = -y := IntWalk.i64_in _ (by omega)
  cases q
  · have h : ¬ x = -y := of_decide_eq_false hq
    have hb : (x == -y) = false := beq_eq_false_iff_ne.2 h
    clear hq h
    go_enter Try.func115, Try.ntmps115
    go_wp2
    go_ret
    exact ⟨rfl, rfl⟩
  · have h : x = -y := of_decide_eq_true hq
    subst h
    clear hq
    go_enter Try.func115, Try.ntmps115
    go_wp2
    go_ret
    exact ⟨rfl, rfl⟩

set_option maxHeartbeats 1600000 in
theorem count (xs ys : List Int) (v u : Value) (B C : Nat) (w : World) (ha : Ints w B v xs) (hb : Ints w C u ys) (hB : B ≤ w.heap.size) (hC : C ≤ w.heap.size) (hn : xs.length ≤ 1000000) (hm : ys.length ≤ 1000000) (hs : Small ys) :
    Calls Try.prog 141 #[v, u, .func (.func 115) #[] #[]] w fun e w' => ∃ c : Nat, e = .returned (.int .i64 (c : Int)) ∧ Canc xs ys c ∧ ∃ q, w' = w.drewN q := by
  have eg := enters_of Try.func115 (by kernel_rfl) rfl
  obtain ⟨ao, cap, hv⟩ := ints_val ha
  obtain ⟨bo, dap, hu⟩ := ints_val hb
  subst hv
  subst hu
  have HX := hid ha
  have HY := hid hb
  have HS := hid hs
  clear ha hb hs
  obtain ⟨n, hnn⟩ : ∃ n, n = xs.length := ⟨_, rfl⟩
  obtain ⟨m, hmm⟩ : ∃ m, m = ys.length := ⟨_, rfl⟩
  rw [← hnn] at hn HX ⊢
  rw [← hmm] at hm HY ⊢
  have HN := hid hnn
  have HM := hid hmm
  clear hnn hmm
  go_enter Try.func141, Try.ntmps141
  go_wp2
  go_loopw [7] (fun i wr => ∃ k : Nat, k ≤ n ∧ k ≤ m ∧ i = .int .i64 k ∧ (∀ j, j < k → xs.getD (n - 1 - j) 0 = -(ys.getD j 0)) ∧ ∃ q, wr = w.drewN q) (fun i _ => n - (intOf i).toNat)
  case atStart => exact ⟨0, Nat.zero_le _, Nat.zero_le _, rfl, fun j hj => by omega, 0, rfl⟩
  case round =>
    obtain ⟨k, hkn, hkm, rfl, hg, q, hwr⟩ := hrel
    have HG := hid hg
    have HW := hid hwr
    clear hg hwr
    by_cases hlt : k < n ∧ k < m
    · obtain ⟨h1, h2⟩ := hlt
      have hx : ∃ b off, ao = some ⟨b, off, none⟩ ∧ wr.cell? ⟨b, off + (n - 1 - k), none⟩ = some (.int .i64 (xs.getD (n - 1 - k) 0)) := by
        rcases HX.out with ⟨h, _⟩ | ⟨_, b, off, c, he, _, hc⟩
        · have := HN.out; rw [h] at this; simp at this; omega
        · simp only [Value.slice.injEq] at he
          exact ⟨b, off, he.1, by rw [HW.out]; exact hc _ (by have := HN.out; omega)⟩
      have hy : ∃ b off, bo = some ⟨b, off, none⟩ ∧ wr.cell? ⟨b, off + k, none⟩ = some (.int .i64 (ys.getD k 0)) := by
        rcases HY.out with ⟨h, _⟩ | ⟨_, b, off, c, he, _, hc⟩
        · have := HM.out; rw [h] at this; simp at this; omega
        · simp only [Value.slice.injEq] at he
          exact ⟨b, off, he.1, by rw [HW.out]; exact hc _ (by have := HM.out; omega)⟩
      obtain ⟨b1, o1, ha1, hc1⟩ := hx
      obtain ⟨b2, o2, ha2, hc2⟩ := hy
      subst ha1
      subst ha2
      have hyb := HS.out k (by rw [← HM.out]; exact h2)
      obtain ⟨x, hxx⟩ : ∃ x, x = xs.getD (n - 1 - k) 0 := ⟨_, rfl⟩
      obtain ⟨y, hyy⟩ : ∃ y, y = ys.getD k 0 := ⟨_, rfl⟩
      rw [← hxx] at hc1
      rw [← hyy] at hc2 hyb
      have HXX := hid hxx
      have HYY := hid hyy
      clear hxx hyy
      have hi1 : IntKind.i64.wrap ((n : Int) - 1) = (n : Int) - 1 := IntWalk.i64_in _ (by omega)
      have hi2 : IntKind.i64.wrap ((n : Int) - 1 - (k : Int)) = ((n - 1 - k : Nat) : Int) := by rw [IntWalk.i64_in _ (by omega)]; omega
      have hix : ((n - 1 - k : Nat) : Int) < (n : Int) := by omega
      have hix2 : n - 1 - k < n := by omega
      have hk1 : (k : Int) < (n : Int) := by omega
      have hk2 : (k : Int) < (m : Int) := by omega
      cases hq : decide (x = -y)
      · have HO := hid (fun W => opp x y hyb false hq W)
        have HNe := hid (of_decide_eq_false hq)
        clear hq
        rcases Nat.lt_or_ge m n with hmn | hmn
        all_goals
          try have hmn' : ¬ m < n := by omega
          go_wp2
          go_quiet ((go_at_call 115; exact Calls.quiet_of_same (HO.out _)))
          go_wp2
          go_ret
          exact ⟨k, rfl, ⟨by rw [← HN.out]; omega, by rw [← HM.out]; omega, by rw [← HN.out]; exact HG.out, fun _ _ => by rw [← HN.out, ← HXX.out, ← HYY.out]; exact HNe.out⟩, q + nq, by rw [HW.out]; simp [World.drewN, Nat.add_assoc]⟩
      · have HO := hid (fun W => opp x y hyb true hq W)
        have HNe := hid (of_decide_eq_true hq)
        clear hq
        rcases Nat.lt_or_ge m n with hmn | hmn
        all_goals
          try have hmn' : ¬ m < n := by omega
          go_wp2
          go_quiet ((go_at_call 115; exact Calls.quiet_of_same (HO.out _)))
          go_wp2
          go_roundw
          case rel => exact ⟨k + 1, by omega, by omega, by go_num, fun j hj => by
            rcases Nat.lt_or_ge j k with h | h
            · exact HG.out j h
            · obtain rfl : j = k := by omega
              rw [← HXX.out, ← HYY.out]; exact HNe.out, q + nq, by rw [HW.out]; simp [World.drewN, Nat.add_assoc]⟩
          case measure => simp [intOf]; omega
    · have HSt : Hid (k < n → k < m → False) := hid fun a b => hlt ⟨a, b⟩
      rcases Nat.lt_or_ge m n with hmn | hmn
      · have hk : ¬ k < m := by omega
        have hk2 : decide ((k : Int) < (m : Int)) = false := by simp; omega
        have hk3 : decide (k < m) = false := decide_eq_false hk
        clear hlt
        go_wp2
        go_quiet (fail)
        go_wp2
        go_ret
        exact ⟨k, rfl, ⟨by rw [← HN.out]; omega, by rw [← HM.out]; omega, by rw [← HN.out]; exact HG.out, fun a b => (HSt.out (by rw [HN.out]; exact a) (by rw [HM.out]; exact b)).elim⟩, q + nq, by rw [HW.out]; simp [World.drewN, Nat.add_assoc]⟩
      · have hmn' : ¬ m < n := by omega
        have hk : ¬ k < n := by omega
        have hk2 : decide ((k : Int) < (n : Int)) = false := by simp; omega
        have hk3 : decide (k < n) = false := decide_eq_false hk
        clear hlt
        go_wp2
        go_quiet (fail)
        go_wp2
        go_ret
        exact ⟨k, rfl, ⟨by rw [← HN.out]; omega, by rw [← HM.out]; omega, by rw [← HN.out]; exact HG.out, fun a b => (HSt.out (by rw [HN.out]; exact a) (by rw [HM.out]; exact b)).elim⟩, q + nq, by rw [HW.out]; simp [World.drewN, Nat.add_assoc]⟩
end Go.Proofs.Ytedajefapddekaa.fr
