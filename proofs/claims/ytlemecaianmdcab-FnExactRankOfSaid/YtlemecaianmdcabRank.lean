/-
  Contract of the model's RankOf.
-/
import Derived.Test.YtlemecaianmdcabFact
namespace Go.Proofs.Ytlemecaianmdcab.bt
open Go.RowKit Go.Proofs.Ytlemecaianmdcab.sl Go.Proofs.Ytlemecaianmdcab.pm

/-- The model's sum after k things. -/
def rsum (p : List Int) (k : Nat) : Nat := sumN k fun i => lessL p i * fact (p.length - 1 - i)
theorem rsum_le (p : List Int) (hn : p.length ≤ 12) (k : Nat) (hk : k ≤ 12) : rsum p k ≤ 69000000000 := by
  have h := sum_le k 5748019200 (fun i => lessL p i * fact (p.length - 1 - i)) (fun i _ => by
    have h1 := lessL_le p i
    have h2 := fact_le (p.length - 1 - i) (by omega)
    have h3 : lessL p i * fact (p.length - 1 - i) ≤ 12 * 479001600 := Nat.mul_le_mul (by omega) h2
    omega)
  unfold rsum
  omega
theorem rsum_step (p : List Int) (hn : p.length ≤ 12) (k : Nat) (hk : k < p.length) : wrap64 ((rsum p k : Int) + wrap64 ((lessL p k : Int) * (fact (p.length - 1 - k) : Int))) = (rsum p (k + 1) : Int) := by
  have h1 := rsum_le p hn k (by omega)
  have h2 := lessL_le p k
  have h3 := fact_le (p.length - 1 - k) (by omega)
  have h4 : lessL p k * fact (p.length - 1 - k) ≤ 12 * 479001600 := Nat.mul_le_mul (by omega) h3
  have h5 : rsum p k + lessL p k * fact (p.length - 1 - k) = rsum p (k + 1) := rfl
  rw [mulw _ _ (by omega), ← h5]
  rw [IntWalk.wrap64_in _ ⟨by omega, by omega⟩]
  omega

set_option maxHeartbeats 800000 in
theorem specRank (p : List Int) (v : Value) (B : Nat) (w : World) (ha : Ints w B v p) (hB : B ≤ w.heap.size) (hn : p.length ≤ 1099511627776) :
    Calls Try.prog 39 #[v] w fun e w' => e = .returned (.int .i64 (rankP p)) ∧ Below w.heap.size w w' := by
  have HA := hid ha
  by_cases h : permB p = true
  · have HF : Hid (rankP p = (rankN p : Int)) := hid (by rw [rankP, if_pos h])
    have hl := fn.perm_len h
    rcases ha with ⟨rfl, ao, cap, rfl⟩ | ⟨hp, b, off, cap, rfl, hb', hc⟩
    · go_enter Try.func39, Try.ntmps39
      go_wp2_with fail
      refine (specOk [] _ _ w HA.out hB hn).mono ?_
      rintro e w1 ⟨rfl, b1⟩
      have C1 := hid b1
      clear b1
      go_wp2
      refine wp_loop_rounds 1 ?_
      rw [rounds_succ]
      go_wp2
      go_ret
      exact ⟨by rw [HF.out]; rfl, C1.out⟩
    · have HC : Hid (∀ j, j < p.length → w.cell? ⟨b, off + j, none⟩ = some (.int .i64 (p.getD j 0))) := hid hc
      have HSt := hid (rsum_step p hl)
      have HRL := hid (rsum_le p hl)
      have HAll := hid (horner_all p)
      obtain ⟨n, hnn⟩ : ∃ n, n = p.length := ⟨_, rfl⟩
      rw [← hnn] at hp hl HA HSt ⊢
      have HN := hid hnn
      clear hc hnn
      go_enter Try.func39, Try.ntmps39
      go_wp2_with fail
      refine (specOk p _ _ w HA.out hB hn).mono ?_
      rintro e w1 ⟨rfl, b1⟩
      have C1 := hid b1
      clear b1
      go_wp2
      go_loopw [3, 4] (fun sv iv wr => ∃ i : Nat, i ≤ n ∧ iv = .int .i64 i ∧ sv = .int .i64 (rsum p i) ∧ Below w.heap.size w wr) (fun _ iv _ => n - (intOf iv).toNat)
      case atStart => exact ⟨0, by omega, rfl, rfl, C1.out⟩
      case round =>
        obtain ⟨i, hi, rfl, rfl, hbel⟩ := hrel
        obtain ⟨wo, hwo⟩ : ∃ wo : World, wo = wr := ⟨_, rfl⟩
        subst hwo
        have HB := hid hbel
        clear hbel
        by_cases hlt : i < n
        · have HS := hid (HSt.out i hlt)
          have hrl := HRL.out i (by omega)
          generalize rsum p i = s at *
          go_wp2
          go_loopw [5, 6] (fun lv jv wx => ∃ j : Nat, i + 1 ≤ j ∧ j ≤ n ∧ jv = .int .i64 j ∧ lv = .int .i64 (sumN j fun j => pr p i j) ∧ Below w.heap.size w wx) (fun _ jv _ => n - (intOf jv).toNat)
          case atStart =>
            refine ⟨i + 1, by omega, by omega, by go_num, ?_, HB.out⟩
            rw [sum_zero (i + 1) (fun j => pr p i j) (fun j hj => by unfold pr; rw [if_neg (by omega)])]
            rfl
          case round =>
            obtain ⟨j, hj1, hj2, rfl, rfl, hq⟩ := hrel
            have HQ := hid hq
            clear hq HB
            have hs2 := sum_le j 1 (fun j => pr p i j) (fun j _ => pr_le p i j)
            by_cases hjl : j < n
            · have HS2 : Hid ((sumN (j + 1) fun j => pr p i j) = (sumN j fun j => pr p i j) + pr p i j) := hid rfl
              generalize (sumN j fun j => pr p i j) = s2 at *
              obtain ⟨x, hx⟩ : ∃ x, x = p.getD i 0 := ⟨_, rfl⟩
              obtain ⟨y, hy⟩ : ∃ y, y = p.getD j 0 := ⟨_, rfl⟩
              have h1 : wr.cell? ⟨b, off + i, none⟩ = some (.int .i64 x) := by rw [hx]; exact (HQ.out.cell (p := ⟨b, off + i, none⟩) (by show b < _; omega)).trans (HC.out i (by rw [← HN.out]; omega))
              have h2 : wr.cell? ⟨b, off + j, none⟩ = some (.int .i64 y) := by rw [hy]; exact (HQ.out.cell (p := ⟨b, off + j, none⟩) (by show b < _; omega)).trans (HC.out j (by rw [← HN.out]; omega))
              have HX := hid hx
              have HY := hid hy
              clear hx hy
              by_cases hd : y < x
              · have HP := hid (pr_yes p i j ⟨by omega, by rw [← HN.out]; exact hjl, by rw [← HX.out, ← HY.out]; exact hd⟩)
                go_wp2
                go_quiet (fail)
                go_wp2
                go_roundw
                case rel => exact ⟨j + 1, by omega, by omega, by go_num, by rw [HS2.out, HP.out]; go_num, bdrewN HQ.out _⟩
                case measure => simp [intOf]; omega
              · have HP := hid (pr_no p i j (by rw [← HX.out, ← HY.out]; exact hd))
                go_wp2
                go_quiet (fail)
                go_wp2
                go_roundw
                case rel => exact ⟨j + 1, by omega, by omega, by go_num, by rw [HS2.out, HP.out]; go_num, bdrewN HQ.out _⟩
                case measure => simp [intOf]; omega
            · obtain rfl : j = n := by omega
              have HLL : Hid ((sumN j fun j => pr p i j) = lessL p i) := hid (by rw [lessL, ← HN.out])
              rw [HLL.out]
              have e1 : ((j : Int) - 1 - (i : Int)) = ((j - 1 - i : Nat) : Int) := by omega
              have HE := hid e1
              clear e1
              go_wp2_with fail
              rw [HE.out]
              refine (specFact (j - 1 - i) _ (by omega)).mono ?_
              rintro e w5 ⟨rfl, rfl⟩
              go_wp2
              go_roundw
              case rel => exact ⟨i + 1, by omega, by go_num, by rw [HS.out], HQ.out⟩
              case measure => simp [intOf]; omega
        · obtain rfl : i = n := by omega
          go_wp2
          go_ret
          refine ⟨?_, HB.out⟩
          rw [HF.out, ← HAll.out, ← HN.out]
          unfold rsum
          rw [← HN.out]
          rfl
  · have h' : permB p = false := by simpa using h
    have HF : Hid (rankP p = -1) := hid (by rw [rankP, if_neg h])
    clear h ha
    go_enter Try.func39, Try.ntmps39
    go_wp2_with fail
    refine (specOk p v _ w HA.out hB hn).mono ?_
    rintro e w1 ⟨rfl, b1⟩
    have C1 := hid b1
    clear b1
    go_wp2
    go_ret
    exact ⟨by rw [HF.out]; rfl, C1.out⟩
end Go.Proofs.Ytlemecaianmdcab.bt
