/-
  The model's small tests of a machine: l00Rises, l07Lists, l07Info.
-/
import Derived.Test.YtlhpipcmebmpdabVm5
import Derived.Test.YtlhpipcmebmpdabVmh
namespace Go.Proofs.Ytlhpipcmebmpdab.mc
open Go.RowKit Go.Sort Go.Proofs.Ytlhpipcmebmpdab.sl Go.Proofs.Ytlhpipcmebmpdab.br Go.Proofs.Ytlhpipcmebmpdab.fn Go.Proofs.Ytlhpipcmebmpdab.ss
set_option linter.unusedVariables false
set_option linter.unusedSimpArgs false

theorem all_bad {p : Int → Bool} {xs : List Int} {k : Nat} (hk : k < xs.length) (h : p (xs.getD k 0) = false) : xs.all p = false := by
  rw [List.all_eq_false]
  exact ⟨xs.getD k 0, by rw [getD_get hk]; exact List.getElem_mem hk, by rw [h]; simp⟩
theorem all_good {p : Int → Bool} {xs : List Int} (h : ∀ k, k < xs.length → p (xs.getD k 0) = true) : xs.all p = true := by
  rw [List.all_eq_true]
  intro x hx
  obtain ⟨j, hj, rfl⟩ := List.getElem_of_mem hx
  have := h j hj
  rwa [getD_get hj] at this

set_option maxRecDepth 100000 in
set_option maxHeartbeats 1000000 in
theorem specRises (lo hi : Int) (xs : List Int) (v : Value) (B : Nat) (w : World) (ha : Ints w B v xs) (hn : xs.length ≤ 1099511627776) :
    Calls Try.prog 72 #[v, .int .i64 lo, .int .i64 hi] w fun e w' => e = .returned (.bool (xs.all (inB lo hi) && incB xs)) ∧ ∃ q, w' = w.drewN q := by
  obtain ⟨q, hq⟩ : ∃ q, q = (xs.all (inB lo hi) && incB xs) := ⟨_, rfl⟩
  rw [← hq]
  have HBad1 : Hid (∀ k, k < xs.length → inB lo hi (xs.getD k 0) = false → q = false) := hid (fun k h1 h2 => by rw [hq, all_bad h1 h2]; rfl)
  have HBad2 : Hid (∀ k, k + 1 < xs.length → ¬ xs.getD k 0 < xs.getD (k + 1) 0 → q = false) := hid (fun k h1 h2 => by rw [hq, inc_bad h1 h2, Bool.and_false])
  have HGood : Hid ((∀ k, k < xs.length → inB lo hi (xs.getD k 0) = true) → (∀ k, k + 1 < xs.length → xs.getD k 0 < xs.getD (k + 1) 0) → q = true) := hid (fun h1 h2 => by rw [hq, all_good h1, inc_good h2]; rfl)
  clear hq
  rcases ha with ⟨rfl, ao, cap, rfl⟩ | ⟨hp, b, off, cap, rfl, hb, hc⟩
  · have HF := hid (HGood.out (fun k h => by simp at h) (fun k h => by simp at h))
    go_enter Try.func72, Try.ntmps72
    go_wp2
    refine wp_loop_rounds 1 ?_
    rw [rounds_succ]
    go_wp2
    go_ret
    exact ⟨by rw [HF.out]; rfl, 0, rfl⟩
  · obtain ⟨n, hnn⟩ : ∃ n, n = xs.length := ⟨_, rfl⟩
    rw [← hnn] at hp hc hn HBad1 HBad2 HGood ⊢
    have HC := hid hc
    clear hnn hc
    go_enter Try.func72, Try.ntmps72
    go_wp2
    go_loopw [7] (fun i wr => ∃ k : Nat, k ≤ n ∧ i = .int .i64 k ∧ (∀ j, j < k → inB lo hi (xs.getD j 0) = true) ∧ (∀ j, j + 1 < k → xs.getD j 0 < xs.getD (j + 1) 0) ∧ ∃ q, wr = w.drewN q) (fun i _ => n - (intOf i).toNat)
    case atStart => exact ⟨0, Nat.zero_le _, rfl, fun j hj => by omega, fun j hj => by omega, 0, rfl⟩
    case round =>
      obtain ⟨k, hk, rfl, hg, hi2, qd, hwr⟩ := hrel
      have HG := hid hg
      have HI2 := hid hi2
      have HW := hid hwr
      clear hg hi2 hwr
      by_cases hlt : k < n
      · have hx : wr.cell? ⟨b, off + k, none⟩ = some (.int .i64 (xs.getD k 0)) := by rw [HW.out]; exact HC.out k hlt
        have HB1 := hid (HBad1.out k hlt)
        obtain ⟨t, ht⟩ : ∃ t, inB lo hi (xs.getD k 0) = t := ⟨_, rfl⟩
        have HI := hid (fun W => vr.inQ (xs.getD k 0) lo hi t ht W)
        cases t with
        | false =>
          have HF := hid (HB1.out ht)
          clear ht
          generalize xs.getD k 0 = x at *
          go_wp2
          go_quiet ((go_at_call 62; exact Calls.quiet_of_same (HI.out _)))
          go_wp2
          go_ret
          exact ⟨by rw [HF.out]; rfl, _, by rw [HW.out]; exact drewN_add _ _ _⟩
        | true =>
          have HG2 : Hid (∀ j, j < k + 1 → inB lo hi (xs.getD j 0) = true) := hid (fun j hj => by
            rcases Nat.lt_or_ge j k with h | h
            · exact HG.out j h
            · obtain rfl : j = k := by omega
              exact ht)
          clear ht
          by_cases hk0 : k = 0
          · generalize xs.getD k 0 = x at *
            have hd0 : decide ((0 : Int) < (k : Int)) = false := decide_eq_false (by omega)
            have hd0n : decide (0 < k) = false := decide_eq_false (by omega)
            have HSt : Hid (∀ i, i + 1 < k + 1 → xs.getD i 0 < xs.getD (i + 1) 0) := hid (fun i hi => by omega)
            clear hk0
            go_wp2
            go_quiet ((go_at_call 62; exact Calls.quiet_of_same (HI.out _)))
            go_wp2
            go_roundw
            case rel => exact ⟨k + 1, by omega, by go_num, HG2.out, HSt.out, _, by rw [HW.out]; exact drewN_add _ _ _⟩
            case measure => simp [intOf]; omega
          · obtain ⟨j, hj⟩ : ∃ j, k = j + 1 := ⟨k - 1, by omega⟩
            have hy : wr.cell? ⟨b, off + j, none⟩ = some (.int .i64 (xs.getD j 0)) := by rw [HW.out]; exact HC.out j (by omega)
            have HB2 := hid (HBad2.out j (by omega))
            have HSt : Hid (xs.getD j 0 < xs.getD (j + 1) 0 → ∀ i, i + 1 < k + 1 → xs.getD i 0 < xs.getD (i + 1) 0) := hid (fun h i hi => by
              rcases Nat.lt_or_ge (i + 1) k with h' | h'
              · exact HI2.out i h'
              · obtain rfl : i = j := by omega
                exact h)
            rw [← hj] at HB2 HSt
            generalize xs.getD k 0 = x at *
            generalize xs.getD j 0 = y at *
            have hwrp : IntKind.i64.wrap ((k : Int) - 1) = (j : Int) := by rw [show (k : Int) - 1 = (j : Int) from by omega]; exact IntWalk.i64_in _ (by omega)
            have hjn : j < n := by omega
            have hd0 : decide ((0 : Int) < (k : Int)) = true := decide_eq_true (by omega)
            have hd0n : decide (0 < k) = true := decide_eq_true (by omega)
            have hkp : 0 < k := by omega
            by_cases hxy : y < x
            · have hd1 : decide (x ≤ y) = false := decide_eq_false (by omega)
              have HSt2 := hid (HSt.out hxy)
              clear hxy hj
              go_wp2
              go_quiet ((go_at_call 62; exact Calls.quiet_of_same (HI.out _)))
              go_wp2
              go_roundw
              case rel => exact ⟨k + 1, by omega, by go_num, HG2.out, HSt2.out, _, by rw [HW.out]; exact drewN_add _ _ _⟩
              case measure => simp [intOf]; omega
            · have hd1 : decide (x ≤ y) = true := decide_eq_true (by omega)
              have HF := hid (HB2.out (by omega))
              clear hxy hj
              go_wp2
              go_quiet ((go_at_call 62; exact Calls.quiet_of_same (HI.out _)))
              go_wp2
              go_ret
              exact ⟨by rw [HF.out]; rfl, _, by rw [HW.out]; exact drewN_add _ _ _⟩
      · obtain rfl : k = n := by omega
        have HF := hid (HGood.out HG.out HI2.out)
        go_wp2
        go_ret
        exact ⟨by rw [HF.out]; rfl, qd, HW.out⟩

def lstW (rows : List (List Int)) : List Int := if rows.any longB then [] else rows.flatten
set_option maxRecDepth 100000 in
set_option maxHeartbeats 1000000 in
theorem specLists (rows : List (List Int)) (v : Value) (lo hi : Nat) (w : World) (ho : ss.ROwn w lo hi v rows) (hp : 0 < rows.length) (hn : rows.length ≤ 1048576) :
    Calls Try.prog 71 #[v] w fun e w' => ∃ v', e = .returned (.tuple #[v', .bool (!(rows.any longB))]) ∧ Own w' w.heap.size w'.heap.size v' (lstW rows) ∧ Below w.heap.size w w' := by
  have hhi := ho.1
  rcases ho.2 with ⟨h0, _⟩ | ⟨_, b, off, cap, V, L, H, rfl, hb1, hb2, hc⟩
  · subst h0; simp at hp
  · have HBad : Hid (∀ k, k < rows.length → longB (rows.getD k []) = true → rows.any longB = true ∧ lstW rows = []) := hid (fun k h1 h2 => by have := vr.rany_yes longB rows k h1 h2; exact ⟨this, by simp [lstW, this]⟩)
    have HGood : Hid ((∀ k, k < rows.length → longB (rows.getD k []) = false) → rows.any longB = false ∧ lstW rows = rows.flatten) := hid (fun h => by have := vr.rany_no longB rows h; exact ⟨this, by simp [lstW, this]⟩)
    have HFl := hid (fun k h => @br.flat_snoc rows k h)
    have HLe : Hid (∀ k, k ≤ rows.length → (∀ j, j < k → longB (rows.getD j []) = false) → ((rows.take k).flatten).length ≤ 4 * k) := hid (fun k hk h => by
      have := flat_le (rows.take k) 4 (fun r hr => by
        obtain ⟨j, hj, rfl⟩ := List.getElem_of_mem hr
        rw [List.length_take] at hj
        have h2 := h j (by omega)
        rw [show rows.getD j [] = rows[j]'(by omega) from by simp [List.getD, List.getElem?_eq_getElem (show j < rows.length by omega)]] at h2
        simp only [longB, decide_eq_false_iff_not] at h2
        simp; omega)
      rw [List.length_take] at this
      have h3 : min k rows.length = k := by omega
      rw [h3] at this; omega)
    obtain ⟨n, hnn⟩ : ∃ n, n = rows.length := ⟨_, rfl⟩
    rw [← hnn] at hp hc hn HBad HGood HFl HLe ⊢
    have HN := hid hnn
    have HC := hid hc
    have HE := hid (built1 w)
    have hal := (Below.refl w.heap.size w).alloc (Nat.le_refl _) (.cells #[] 2)
    clear hnn hc ho
    obtain ⟨q1, hq1⟩ : ∃ q, q = rows.any longB := ⟨_, rfl⟩
    obtain ⟨q2, hq2⟩ : ∃ q, q = lstW rows := ⟨_, rfl⟩
    rw [← hq1, ← hq2]
    rw [← hq1, ← hq2] at HBad HGood
    clear hq1 hq2
    go_enter Try.func71, Try.ntmps71
    go_wp2
    go_loopw [4, 5] (fun u i wr => ∃ k : Nat, k ≤ n ∧ i = .int .i64 k ∧ (∀ j, j < k → longB (rows.getD j []) = false) ∧ Own wr w.heap.size wr.heap.size u ((rows.take k).flatten) ∧ Below w.heap.size w wr) (fun _ i _ => n - (intOf i).toNat)
    case atStart => exact ⟨0, Nat.zero_le _, rfl, fun j hj => by omega, by simpa using HE.out, hal⟩
    case round =>
      obtain ⟨k, hk, rfl, hg, hown, hbel⟩ := hrel
      have HG := hid hg
      have HO := hid hown
      have HB := hid hbel
      have hsz := hbel.size
      clear hg hown hbel HE hal
      by_cases hlt : k < n
      · have h1 : wr.cell? ⟨b, off + k, none⟩ = some (V k) := (HB.out.cell (p := ⟨b, off + k, none⟩) (by show b < _; omega)).trans (HC.out k hlt).1
        have HOk := hid ((HC.out k hlt).2.1.chg (Chg.ofBelow (lo := 0) HB.out) (.inr (.inr (Nat.zero_le _))))
        have HBk := hid (HBad.out k hlt)
        have HFk := hid (HFl.out k hlt)
        have HLk := hid (HLe.out k hk HG.out)
        have HGk : Hid (longB (rows.getD k []) = false → ∀ j, j < k + 1 → longB (rows.getD j []) = false) := hid (fun h j hj => by
          rcases Nat.lt_or_ge j k with h' | h'
          · exact HG.out j h'
          · obtain rfl : j = k := by omega
            exact h)
        obtain ⟨ao, cp, hv⟩ := br.own_val HOk.out
        generalize rows.getD k [] = ys at *
        obtain ⟨ln, hln⟩ : ∃ ln, ln = ys.length := ⟨_, rfl⟩
        rw [← hln] at hv
        rw [hv] at h1
        rw [hv] at HOk
        have HLn := hid hln
        have HLg : Hid (longB ys = decide ((4 : Int) < (ln : Int))) := hid (by rw [hln]; rfl)
        clear hv hln
        by_cases h4 : (4 : Int) < (ln : Int)
        · have hd : decide ((4 : Int) < (ln : Int)) = true := decide_eq_true h4
          have HF := hid (HBk.out (by rw [HLg.out, hd]))
          clear h4
          go_wp2
          go_ret2
          exact ⟨_, by rw [HF.out.1]; rfl, by rw [HF.out.2]; exact Own.nil _ _, HB.out⟩
        · have hd : decide ((4 : Int) < (ln : Int)) = false := decide_eq_false h4
          have HG2 := hid (HGk.out (by rw [HLg.out, hd]))
          have h4n : ln ≤ 4 := by omega
          clear h4
          go_wp2_with (at_builtin; refine wp_appendAll rfl _ _ rfl w.heap.size wr.heap.size _ ((rows.take k).flatten) HO.out rfl _ ys _ HOk.out.ints (nilok_own HOk.out) rfl hsz (by have := HLk.out; have := HLn.out; omega) ?_; intro v' w3 hown3 hchg3; have HO3 := hid hown3; have HB3 := hid (HB.out.trans (hchg3.below (Nat.le_refl _) hsz)); clear hown3 hchg3)
          go_roundw
          case rel => exact ⟨k + 1, by omega, by go_num, HG2.out, by rw [HFk.out]; exact HO3.out, HB3.out⟩
          case measure => simp [intOf]; omega
      · obtain rfl : k = n := by omega
        have HF := hid (HGood.out HG.out)
        have HT : Hid ((rows.take k).flatten = rows.flatten) := hid (by rw [HN.out, List.take_length])
        go_wp2
        go_ret2
        exact ⟨_, by rw [HF.out.1]; rfl, by rw [HF.out.2, ← HT.out]; exact HO.out, HB.out⟩
end Go.Proofs.Ytlhpipcmebmpdab.mc
