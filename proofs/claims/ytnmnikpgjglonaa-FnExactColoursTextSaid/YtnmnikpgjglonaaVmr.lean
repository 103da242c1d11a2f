/-
  slices.ContainsFunc over rows of numbers.
-/
import Derived.Test.YtnmnikpgjglonaaBv
import Derived.Test.YtnmnikpgjglonaaSs2
namespace Go.Proofs.Ytnmnikpgjglonaa.vr
open Go.RowKit Go.Proofs.Ytnmnikpgjglonaa.sl Go.Proofs.Ytnmnikpgjglonaa.bw Go.Proofs.Ytnmnikpgjglonaa.br Go.Proofs.Ytnmnikpgjglonaa.ss
set_option linter.unusedVariables false

theorem rany_yes (p : List Int → Bool) (rows : List (List Int)) (k : Nat) (hk : k < rows.length) (h : p (rows.getD k []) = true) : rows.any p = true := by
  rw [List.any_eq_true]
  refine ⟨rows.getD k [], ?_, h⟩
  rw [show rows.getD k [] = rows[k] from by simp [List.getD, List.getElem?_eq_getElem hk]]
  exact List.getElem_mem hk
theorem rany_no (p : List Int → Bool) (rows : List (List Int)) (h : ∀ k, k < rows.length → p (rows.getD k []) = false) : rows.any p = false := by
  rw [List.any_eq_false]
  intro x hx
  obtain ⟨j, hj, rfl⟩ := List.getElem_of_mem hx
  have := h j hj
  rw [show rows.getD j [] = rows[j] from by simp [List.getD, List.getElem?_eq_getElem hj]] at this
  rw [this]; simp

/-- slices.IndexFunc over rows at a closure over one variable. -/
theorem idxRows (p : List Int → Bool) (g : Nat) (cps : Array Value) (rows : List (List Int)) (v : Value) (B : Nat) (w : World) (ha : ss.Rows w B v rows) (hB : B ≤ w.heap.size) (hn : rows.length ≤ 1048576)
    (eg : ∀ args w, (callFunc g args).run Try.prog w = .ok (.enter g args) w) (hp : ∀ (k : Nat) (V : Value) (W : World), k < rows.length → Below w.heap.size w W → Ints W B V (rows.getD k []) → Calls Try.prog g (#[V] ++ cps) W fun e w' => e = .returned (.bool (p (rows.getD k []))) ∧ Below W.heap.size W w') :
    Calls Try.prog 84 #[v, .func (.func g) #[] cps] w fun e w' => ∃ z : Int, e = .returned (.int .i64 z) ∧ Hid (rows.any p = decide (0 ≤ z)) ∧ Below w.heap.size w w' := by
  have HP := hid hp
  clear hp
  rcases ha with ⟨rfl, ao, cap, rfl⟩ | ⟨hp, b, off, cap, V, rfl, hb, hc⟩
  · go_enter Try.func84, Try.ntmps84
    go_wp2
    refine wp_loop_rounds 1 ?_
    rw [rounds_succ]
    go_wp2
    go_ret
    exact ⟨-1, rfl, hid rfl, Below.refl _ _⟩
  · have HYes := hid (fun k h1 h2 => rany_yes p rows k h1 h2)
    have HNo := hid (rany_no p rows)
    obtain ⟨n, hnn⟩ : ∃ n, n = rows.length := ⟨_, rfl⟩
    rw [← hnn] at hp hc hn HP HYes HNo ⊢
    have HN := hid hnn
    have HC := hid hc
    clear hnn hc
    go_enter Try.func84, Try.ntmps84
    go_wp2
    go_loopw [8] (fun i wr => ∃ k : Nat, k ≤ n ∧ i = .int .i64 k ∧ (∀ j, j < k → p (rows.getD j []) = false) ∧ Below w.heap.size w wr) (fun i _ => n - (intOf i).toNat)
    case atStart => exact ⟨0, Nat.zero_le _, rfl, fun j hj => by omega, Below.refl _ _⟩
    case round =>
      obtain ⟨k, hk, rfl, hg, hbel⟩ := hrel
      have HG := hid hg
      have HB := hid hbel
      clear hg hbel
      by_cases hlt : k < n
      · have h1 : wr.cell? ⟨b, off + k, none⟩ = some (V k) := (HB.out.cell (p := ⟨b, off + k, none⟩) (by show b < _; omega)).trans (HC.out k hlt).1
        have HI := hid ((HC.out k hlt).2.chg (Chg.ofBelow (lo := 0) HB.out) (.inr (Nat.zero_le _)))
        have HPk := hid (HP.out k (V k) wr hlt HB.out HI.out)
        generalize V k = x at *
        clear HI
        go_wp2_with fail
        refine HPk.out.mono ?_
        rintro e w1 ⟨rfl, b1⟩
        have HB1 := hid (HB.out.trans (b1.mono HB.out.size))
        clear b1 HPk
        obtain ⟨q, hq⟩ : ∃ q, q = p (rows.getD k []) := ⟨_, rfl⟩
        rw [← hq]
        have HQ := hid hq
        clear hq
        cases q
        · go_wp2
          go_roundw
          case rel => exact ⟨k + 1, by omega, by go_num, fun j hj => by
            rcases Nat.lt_or_ge j k with h | h
            · exact HG.out j h
            · obtain rfl : j = k := by omega
              exact HQ.out.symm, HB1.out⟩
          case measure => simp [intOf]; omega
        · have HF := hid (HYes.out k hlt HQ.out.symm)
          go_wp2
          go_ret
          exact ⟨k, rfl, hid (by rw [HF.out]; simp), HB1.out⟩
      · obtain rfl : k = n := by omega
        have HF := hid (HNo.out HG.out)
        go_wp2
        go_ret
        exact ⟨-1, rfl, hid (by rw [HF.out]; rfl), HB.out⟩

theorem contRows (p : List Int → Bool) (g : Nat) (cps : Array Value) (rows : List (List Int)) (v : Value) (B : Nat) (w : World) (ha : ss.Rows w B v rows) (hB : B ≤ w.heap.size) (hn : rows.length ≤ 1048576)
    (eg : ∀ args w, (callFunc g args).run Try.prog w = .ok (.enter g args) w) (hp : ∀ (k : Nat) (V : Value) (W : World), k < rows.length → Below w.heap.size w W → Ints W B V (rows.getD k []) → Calls Try.prog g (#[V] ++ cps) W fun e w' => e = .returned (.bool (p (rows.getD k []))) ∧ Below W.heap.size W w') :
    Calls Try.prog 64 #[v, .func (.func g) #[] cps] w fun e w' => e = .returned (.bool (rows.any p)) ∧ Below w.heap.size w w' := by
  have H := hid (idxRows p g cps rows v B w ha hB hn eg hp)
  obtain ⟨ao, cap, rfl⟩ := rows_val ha
  clear ha hp
  generalize rows.length = n at *
  go_enter Try.func64, Try.ntmps64
  go_wp2_with fail
  refine H.out.mono ?_
  rintro e w1 ⟨z, rfl, HZ, b1⟩
  have HB := hid b1
  clear b1
  by_cases hz : 0 ≤ z
  · have HF : Hid (rows.any p = true) := hid (by rw [HZ.out]; simpa using hz)
    go_wp2
    go_ret
    exact ⟨by rw [HF.out]; rfl, HB.out⟩
  · have HF : Hid (rows.any p = false) := hid (by rw [HZ.out]; simpa using hz)
    have hz2 : decide (0 ≤ z) = false := decide_eq_false hz
    go_wp2
    go_ret
    exact ⟨by rw [HF.out]; rfl, HB.out⟩

end Go.Proofs.Ytnmnikpgjglonaa.vr
