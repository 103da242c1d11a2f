/-
  openGroups and ValidPieces of the program.
-/
import Derived.Test.YtiacfejileeieabDoorPvj
namespace Go.Proofs.YtiacfejileeieabDoor.pc
open Go.RowKit Go.Sort Go.Proofs.YtiacfejileeieabDoor.sl Go.Proofs.YtiacfejileeieabDoor.st
set_option linter.unusedVariables false
set_option linter.unusedSimpArgs false
set_option maxRecDepth 100000

theorem cnt_take (xs : List V) (k : Nat) (h : k < xs.length) : cnt (xs.take (k + 1)) = cnt (xs.take k) + (if opn (xs.getD k oz) then 1 else 0) := by
  rw [List.take_succ_eq_append_getElem h, cnt_app]
  have : xs.getD k oz = xs[k] := by simp [List.getD, List.getElem?_eq_getElem h]
  rw [this]; simp [cnt]

set_option maxHeartbeats 2000000 in
theorem openGroupsC (xs : List V) (v : Value) (B : Nat) (w : World) (ha : OpsC w B v xs) (hB : B ≤ w.heap.size) (hn : xs.length ≤ 1048576) :
    Calls Tryd.prog 52 #[v] w fun e w' => e = .returned (.int .i64 (cnt xs : Int)) ∧ Below w.heap.size w w' := by
  rcases ha with ⟨rfl, ao, cap, rfl, _⟩ | ⟨hp, b, off, cap, rfl, hcap, hcm, hb, hc⟩
  · go_enter Tryd.func52, Tryd.ntmps52
    go_wp2
    refine wp_loop_rounds 1 ?_
    rw [rounds_succ]
    go_wp2
    go_ret
    exact ⟨rfl, Below.refl _ _⟩
  · have HT := hid (cnt_take xs)
    have HL := hid (fun k => Nat.le_trans (cnt_le (xs.take k)) (by rw [List.length_take]; exact Nat.min_le_left _ _ : (xs.take k).length ≤ k))
    have HC := hid hc
    have HAll : Hid (cnt (xs.take xs.length) = cnt xs) := hid (by rw [List.take_length])
    have H0 : Hid (cnt (xs.take 0) = 0) := hid rfl
    clear hc
    obtain ⟨n, hnn⟩ : ∃ n, n = xs.length := ⟨_, rfl⟩
    rw [← hnn] at hp hn hcap HC HT HAll ⊢
    clear hnn
    go_enter Tryd.func52, Tryd.ntmps52
    go_wp2
    go_loopw [3, 8] (fun c i wr => ∃ k : Nat, k ≤ n ∧ i = .int .i64 k ∧ c = .int .i64 (cnt (xs.take k) : Int) ∧ Below w.heap.size w wr) (fun _ i _ => n - (intOf i).toNat)
    case atStart => exact ⟨0, Nat.zero_le _, rfl, by rw [H0.out]; rfl, Below.refl _ _⟩
    case round =>
      obtain ⟨k, hk, rfl, rfl, hbel⟩ := hrel
      have HB := hid hbel
      clear hbel
      by_cases hlt : k < n
      · have hA := (HC.out k hlt).below HB.out
        have HTk := hid (HT.out k hlt)
        have hcl := HL.out k
        have HO := hid (fun W => isOpenC (xs.getD k oz) W)
        generalize xs.getD k oz = x at *
        generalize opn x = q at *
        have c0 := hA.c0
        have c1 := hA.c1
        have c2 := hA.c2
        obtain ⟨x0, x1, x2⟩ := x
        simp only [V.val] at c0 c1 c2 HO
        clear hA
        have hal := (Below.refl wr.heap.size wr).alloc (Nat.le_refl _) (.cells #[.int .i64 x0, .int .i64 x1, .int .i64 x2] 51)
        have HAl := hid (HB.out.trans (hal.mono HB.out.size))
        have hwk : IntKind.i64.wrap ((cnt (xs.take k) : Int) + 1) = (cnt (xs.take k) : Int) + 1 := IntWalk.i64_in _ (by omega)
        clear hal
        generalize hcc : cnt (xs.take k) = c at *
        cases q with
        | false =>
          have HT2 : Hid (cnt (xs.take (k + 1)) = c) := hid (by rw [HTk.out]; simp)
          clear HTk hcc
          go_wp2_with (go_at_call 57; refine (HO.out _).mono ?_; rintro e w1 ⟨rfl, b1⟩; have HB1 := hid (HAl.out.trans (b1.mono HAl.out.size)); clear b1)
          go_roundw
          case rel => exact ⟨k + 1, by omega, by go_num, by rw [HT2.out], HB1.out⟩
          case measure => simp [intOf]; omega
        | true =>
          have HT2 : Hid (cnt (xs.take (k + 1)) = c + 1) := hid (by rw [HTk.out]; simp)
          clear HTk hcc
          go_wp2_with (go_at_call 57; refine (HO.out _).mono ?_; rintro e w1 ⟨rfl, b1⟩; have HB1 := hid (HAl.out.trans (b1.mono HAl.out.size)); clear b1)
          go_roundw
          case rel => exact ⟨k + 1, by omega, by go_num, by rw [HT2.out]; rfl, HB1.out⟩
          case measure => simp [intOf]; omega
      · obtain rfl : k = n := by omega
        go_wp2
        go_ret
        exact ⟨by rw [HAll.out]; rfl, HB.out⟩

set_option maxHeartbeats 2000000 in
theorem implVP (xs : List V) (v : Value) (B : Nat) (w : World) (ha : OpsC w B v xs) (hB : B ≤ w.heap.size) (hq : Small xs) :
    Calls Tryd.prog 27 #[v] w fun e w' => e = .returned (.bool (okP xs)) ∧ Below w.heap.size w w' := by
  have hn := hq.len
  obtain ⟨ao, cap, hv⟩ := opsC_val ha
  have HA := hid (arePiecesC xs.length xs v B 0 w rfl ha hB hn (by omega))
  have HO := hid (fun W (b : Below w.heap.size w W) => openGroupsC xs v B W (ha.below b) (Nat.le_trans hB b.size) hn)
  have HK : Hid (okP xs = (decide (xs.length ≤ 24) && (arP 0 xs && decide (cnt xs ≤ 1)))) := hid rfl
  have hcl := cnt_le xs
  clear ha hq
  generalize okP xs = r at *
  generalize arP 0 xs = q at *
  generalize cnt xs = c at *
  generalize xs.length = n at *
  subst hv
  by_cases h24 : n ≤ 24
  · have h24' : (n : Int) ≤ 24 := by omega
    cases q with
    | false =>
      go_enter Tryd.func27, Tryd.ntmps27
      go_wp2_with (go_at_call 51; refine (HA.out).mono ?_; rintro e w1 ⟨rfl, b1⟩; have B1 := hid b1; clear b1)
      go_ret
      exact ⟨by rw [HK.out]; simp, B1.out⟩
    | true =>
      go_enter Tryd.func27, Tryd.ntmps27
      go_wp2_with (first | (go_at_call 51; refine (HA.out).mono ?_; rintro e w1 ⟨rfl, b1⟩; have B1 := hid b1; clear b1) | (go_at_call 52; refine (HO.out _ B1.out).mono ?_; rintro e w2 ⟨rfl, b2⟩; have B2 := hid (B1.out.trans (b2.mono B1.out.size)); clear b2))
      go_ret
      refine ⟨?_, B2.out⟩
      have h24d : decide (n ≤ 24) = true := by simp; omega
      have e : decide ((c : Int) ≤ 1) = decide (c ≤ 1) := by rw [Bool.eq_iff_iff]; simp; omega
      rw [HK.out, h24d]
      show Ending.returned (.bool (decide ((c : Int) ≤ 1))) = Ending.returned (.bool (true && (true && decide (c ≤ 1))))
      rw [e]; rfl
  · have h24' : ¬ (n : Int) ≤ 24 := by omega
    go_enter Tryd.func27, Tryd.ntmps27
    go_wp2
    go_ret
    have h24d : decide (n ≤ 24) = false := by simp; omega
    exact ⟨by rw [HK.out, h24d]; rfl, Below.refl _ _⟩
end Go.Proofs.YtiacfejileeieabDoor.pc
