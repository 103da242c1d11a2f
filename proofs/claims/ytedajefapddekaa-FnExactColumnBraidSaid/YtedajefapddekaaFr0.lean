/-
  Reduced words of a free group: the model's contract for long words.
-/
import Derived.Test.YtedajefapddekaaFv
import Derived.Test.YtedajefapddekaaRd
namespace Go.Proofs.Ytedajefapddekaa.fv
open Go.RowKit Go.Proofs.Ytedajefapddekaa.sl Go.Proofs.Ytedajefapddekaa.pm Go.Proofs.Ytedajefapddekaa.bw Go.Proofs.Ytedajefapddekaa.br Go.Proofs.Ytedajefapddekaa.fn
set_option linter.unusedVariables false

set_option maxHeartbeats 800000 in
theorem specRedL (xs : List Int) (v : Value) (B : Nat) (w : World) (ha : Ints w B v xs) (hB : B ≤ w.heap.size) (hn : xs.length ≤ 1000000) (hb : ∀ j, j < xs.length → -100 ≤ xs.getD j 0 ∧ xs.getD j 0 ≤ 100) :
    Calls Try.prog 66 #[v] w fun e w' => ∃ v', e = .returned v' ∧ Own w' w.heap.size w'.heap.size v' (redL xs) ∧ Below w.heap.size w w' := by
  rcases ha with ⟨rfl, ao, cap, rfl⟩ | ⟨hp, b, off, cap, rfl, hbb, hc⟩
  · go_enter Try.func66, Try.ntmps66
    go_wp2
    refine wp_loop_rounds 1 ?_
    rw [rounds_succ]
    go_wp2
    go_ret
    exact ⟨_, rfl, Own.built w _ rfl, (Below.refl _ _).alloc (Nat.le_refl _) _⟩
  · obtain ⟨n, hnn⟩ : ∃ n, n = xs.length := ⟨_, rfl⟩
    rw [← hnn] at hp hc hn hb ⊢
    have HN := hid hnn
    have HC := hid hc
    have HBd := hid hb
    clear hnn hc hb
    go_enter Try.func66, Try.ntmps66
    go_wp2
    go_loopw [3, 4] (fun u i wr => ∃ k : Nat, k ≤ n ∧ i = .int .i64 k ∧ Own wr w.heap.size wr.heap.size u (redTo xs k) ∧ Below w.heap.size w wr)
      (fun _ i _ => n - (intOf i).toNat)
    case atStart => exact ⟨0, Nat.zero_le _, rfl, Own.built w _ rfl, (Below.refl _ _).alloc (Nat.le_refl _) _⟩
    case round =>
      obtain ⟨k, hk, rfl, hown, hbel⟩ := hrel
      have HO := hid hown
      have HB := hid hbel
      have hsz := hbel.size
      obtain ⟨ao2, cap2, rfl⟩ := own_val hown
      by_cases hlt : k < n
      · have hbx := HBd.out k hlt
        have h1 : wr.cell? ⟨b, off + k, none⟩ = some (.int .i64 (xs.getD k 0)) := (HB.out.cell (p := ⟨b, off + k, none⟩) (by show b < _; omega)).trans (HC.out k hlt)
        have HS := hid (redTo_succ xs k (by rw [← HN.out]; exact hlt))
        have hle := redTo_len xs k (by rw [← HN.out]; omega)
        generalize xs.getD k 0 = x at *
        by_cases h0 : redTo xs k = []
        · rw [h0] at HO HS
          rw [h0, List.length_nil]
          have HP : Hid (redTo xs (k + 1) = [] ++ [x]) := hid (by rw [HS.out]; rfl)
          clear hown hbel h0 HS hle
          go_wp2
          go_quiet (fail)
          have HO' : Hid (Own (wr.drewN nq) w.heap.size (wr.drewN nq).heap.size (.slice ao2 0 cap2) []) := hid (HO.out.drewN nq)
          have HB' : Hid (Below w.heap.size w (wr.drewN nq)) := hid (bdrewN HB.out nq)
          have h1' : (wr.drewN nq).cell? ⟨b, off + k, none⟩ = some (.int .i64 x) := h1
          have hsz' : w.heap.size ≤ (wr.drewN nq).heap.size := hsz
          generalize wr.drewN nq = wq at *
          clear h1 hsz HO HB
          go_wp2_with (at_builtin; refine wp_append rfl _ _ rfl w.heap.size wq.heap.size _ [] x HO'.out rfl rfl hsz' (by simp) ?_; intro v' w1 hown1 hchg1 hsz1)
          have HO1 := hid hown1
          have HB1 := hid (HB'.out.trans (hchg1.below (Nat.le_refl _) hsz'))
          clear hown1 hchg1
          go_wp2
          go_roundw
          case rel => exact ⟨k + 1, by omega, by go_num, by rw [HP.out]; exact HO1.out, HB1.out⟩
          case measure => simp [intOf]; omega
        · obtain ⟨m, hm⟩ : ∃ m, (redTo xs k).length = m + 1 := ⟨(redTo xs k).length - 1, by have := List.length_pos_iff.2 h0; omega⟩
          obtain ⟨g, hg⟩ : ∃ g, ao2 = some ⟨g, 0, none⟩ := by
            rcases hown.1.2 with ⟨h, h1⟩ | ⟨g, c, cur, h, _⟩
            · omega
            · cases h; exact ⟨g, rfl⟩
          subst hg
          have h2 := (hown.at' m (by omega)).1
          have hcc := (own_caps hown).1
          have hcm := (own_caps hown).2
          have HL := hid hm
          rw [hm] at HO hle hcc ⊢
          clear hown hbel h0 hm
          by_cases he : (redTo xs k).getD m 0 = -x
          · have HP : Hid (redTo xs (k + 1) = (redTo xs k).take m) := hid (by rw [HS.out]; exact push_pop _ x m HL.out he)
            rw [he] at h2
            clear he
            go_wp2
            go_quiet (fail)
            have HB' : Hid (Below w.heap.size w (wr.drewN nq)) := hid (bdrewN HB.out nq)
            have hc := own_cut (HO.out.drewN nq) (m := m) (by rw [HL.out]; omega)
            have HO' := hid (hc.hi (hi' := (wr.drewN nq).heap.size) (Nat.le_refl _) (Nat.le_refl _))
            clear hc
            generalize wr.drewN nq = wq at *
            go_wp2
            go_roundw
            case rel => exact ⟨k + 1, by omega, by go_num, by rw [HP.out]; exact HO'.out, HB'.out⟩
            case measure => simp [intOf]; omega
          · have HP : Hid (redTo xs (k + 1) = redTo xs k ++ [x]) := hid (by rw [HS.out]; exact push_app _ x m HL.out he)
            have hd : ((redTo xs k).getD m 0 == -x) = false := by simpa using he
            clear he
            generalize (redTo xs k).getD m 0 = y at *
            go_wp2
            go_quiet (fail)
            have HO' := hid (HO.out.drewN nq)
            have HB' : Hid (Below w.heap.size w (wr.drewN nq)) := hid (bdrewN HB.out nq)
            have h1' : (wr.drewN nq).cell? ⟨b, off + k, none⟩ = some (.int .i64 x) := h1
            have hsz' : w.heap.size ≤ (wr.drewN nq).heap.size := hsz
            have HO'' : Hid (Own (wr.drewN nq) w.heap.size (wr.drewN nq).heap.size (.slice (some ⟨g, 0, none⟩) (m + 1) cap2) (redTo xs k)) := HO'
            generalize wr.drewN nq = wq at *
            clear h1 h2 hsz HO HB HO'
            go_wp2_with (at_builtin; refine wp_append rfl _ _ rfl w.heap.size wq.heap.size _ (redTo xs k) x HO''.out rfl rfl hsz' (by rw [HL.out]; omega) ?_; intro v' w1 hown1 hchg1 hsz1)
            have HO1 := hid hown1
            have HB1 := hid (HB'.out.trans (hchg1.below (Nat.le_refl _) hsz'))
            clear hown1 hchg1
            go_wp2
            go_roundw
            case rel => exact ⟨k + 1, by omega, by go_num, by rw [HP.out]; exact HO1.out, HB1.out⟩
            case measure => simp [intOf]; omega
      · obtain rfl : k = n := by omega
        have HS : Hid (redTo xs k = redL xs) := hid (by rw [HN.out]; exact redTo_all xs)
        clear hown hbel
        generalize (redTo xs k).length = m at *
        go_wp2
        go_ret
        exact ⟨_, rfl, by rw [← HS.out]; exact HO.out, HB.out⟩


end Go.Proofs.Ytedajefapddekaa.fv
