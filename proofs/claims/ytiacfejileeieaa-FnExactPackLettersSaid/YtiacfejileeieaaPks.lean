/-
  PackLetters of the model.
-/
import Derived.Test.YtiacfejileeieaaPkq
namespace Go.Proofs.Ytiacfejileeieaa.pk
open Go.RowKit Go.Proofs.Ytiacfejileeieaa.sl Go.Proofs.Ytiacfejileeieaa.pm Go.Proofs.Ytiacfejileeieaa.br Go.Proofs.Ytiacfejileeieaa.bw Go.Proofs.Ytiacfejileeieaa.wk
set_option linter.unusedVariables false
set_option maxRecDepth 100000

theorem tch_no {ys : List Int} {x : Int} (h : ∀ j, j < ys.length → tchQ (ys.getD j 0) x = false) : tch ys x = false := by
  unfold tch
  rw [List.any_eq_false]
  intro y hy
  obtain ⟨j, hj, rfl⟩ := List.getElem_of_mem hy
  have := h j hj
  simp only [List.getD, List.getElem?_eq_getElem hj, Option.getD_some] at this
  simp [this]
theorem tch_yes {ys : List Int} {x : Int} (k : Nat) (hk : k < ys.length) (h : tchQ (ys.getD k 0) x = true) : tch ys x = true := by
  unfold tch
  rw [List.any_eq_true]
  refine ⟨ys.getD k 0, fv.mem_getD ys k hk, h⟩

set_option maxHeartbeats 1000000 in
theorem specTouch (ys : List Int) (x : Int) (v : Value) (B : Nat) (w : World) (ha : Ints w B v ys) (hn : ys.length ≤ 1048576) (hr : ∀ y ∈ ys, Rng y) (hx : Rng x) :
    Calls Try.prog 72 #[v, .int .i64 x] w fun e w' => e = .returned (.bool (tch ys x)) ∧ w' = w := by
  have HAx := hid (fun W => specAbs x hx W)
  have hax : 0 ≤ ab x ∧ ab x ≤ 100 := by obtain ⟨h1, h2⟩ := hx; unfold ab; split <;> omega
  have HIn := hid (fun (y : Int) (W : World) => show Calls Try.prog 56 #[.int .i64 (ab y - ab x), .int .i64 (-1), .int .i64 1] W fun e w' => e = .returned (.bool (tchQ y x)) ∧ W = w' from pm.specIn (ab y - ab x) (-1) 1 W)
  rcases ha with ⟨rfl, ao, cap, rfl⟩ | ⟨hp, b, off, cap, rfl, hbb, hc⟩
  · have HF : Hid (tch [] x = false) := hid rfl
    go_enter Try.func72, Try.ntmps72
    go_wp2
    refine wp_loop_rounds 1 ?_
    rw [rounds_succ]
    go_wp2
    go_ret
    exact ⟨by rw [HF.out]; first | done | rfl, rfl⟩
  · have HM := hid (fun j h => hr _ (fv.mem_getD ys j h))
    obtain ⟨n, hnn⟩ : ∃ n, n = ys.length := ⟨_, rfl⟩
    rw [← hnn] at hp hc hn HM ⊢
    have HN := hid hnn
    have HC := hid hc
    clear hnn hc hr
    go_enter Try.func72, Try.ntmps72
    go_wp2
    go_loop [5] (fun i => ∃ k : Nat, k ≤ n ∧ i = .int .i64 k ∧ Hid (∀ j, j < k → tchQ (ys.getD j 0) x = false)) (fun i => n - (intOf i).toNat)
    case atStart => exact ⟨0, Nat.zero_le _, rfl, hid fun j hj => by omega⟩
    case round =>
      obtain ⟨k, hk, rfl, HG⟩ := hrel
      by_cases hlt : k < n
      · have h1 := HC.out k hlt
        have hyr := HM.out k hlt
        have hay : 0 ≤ ab (ys.getD k 0) ∧ ab (ys.getD k 0) ≤ 100 := by obtain ⟨h1, h2⟩ := hyr; unfold ab; split <;> omega
        have HAy := hid (fun W => specAbs (ys.getD k 0) hyr W)
        have HI1 := hid (fun W => HIn.out (ys.getD k 0) W)
        cases hq : tchQ (ys.getD k 0) x
        · have HG2 : Hid (∀ j, j < k + 1 → tchQ (ys.getD j 0) x = false) := hid (fun j hj => by
            rcases Nat.lt_or_ge j k with h | h
            · exact HG.out j h
            · obtain rfl : j = k := by omega
              exact hq)
          rw [hq] at HI1
          clear hq hyr
          have e1 : IntKind.i64.wrap (ab (ys.getD k 0) - ab x) = ab (ys.getD k 0) - ab x := IntWalk.i64_in _ (by omega)
          generalize ab (ys.getD k 0) = ay at *
          generalize ab x = ax at *
          generalize ys.getD k 0 = y at *
          go_wp2_with (first
            | (go_at_call_of 94 (Value.int .i64 y); refine (HAy.out _).mono ?_; rintro e w1 ⟨rfl, rfl⟩)
            | (go_at_call 94; refine (HAx.out _).mono ?_; rintro e w1 ⟨rfl, rfl⟩)
            | (go_at_call 56; refine (HI1.out _).mono ?_; rintro e w1 ⟨rfl, rfl⟩))
          go_round
          case rel => exact ⟨k + 1, by omega, by go_num, HG2⟩
          case measure => simp [intOf]; omega
        · have HF := hid (tch_yes k (by rw [← HN.out]; exact hlt) hq)
          rw [hq] at HI1
          clear hq hyr
          have e1 : IntKind.i64.wrap (ab (ys.getD k 0) - ab x) = ab (ys.getD k 0) - ab x := IntWalk.i64_in _ (by omega)
          generalize ab (ys.getD k 0) = ay at *
          generalize ab x = ax at *
          generalize ys.getD k 0 = y at *
          go_wp2_with (first
            | (go_at_call_of 94 (Value.int .i64 y); refine (HAy.out _).mono ?_; rintro e w1 ⟨rfl, rfl⟩)
            | (go_at_call 94; refine (HAx.out _).mono ?_; rintro e w1 ⟨rfl, rfl⟩)
            | (go_at_call 56; refine (HI1.out _).mono ?_; rintro e w1 ⟨rfl, rfl⟩))
          go_ret
          exact ⟨by rw [HF.out]; first | done | rfl, rfl⟩
      · obtain rfl : k = n := by omega
        have HF := hid (tch_no (x := x) (fun j hj => HG.out j (by rw [HN.out]; exact hj)))
        go_wp2
        go_ret
        exact ⟨by rw [HF.out]; first | done | rfl, rfl⟩
end Go.Proofs.Ytiacfejileeieaa.pk
