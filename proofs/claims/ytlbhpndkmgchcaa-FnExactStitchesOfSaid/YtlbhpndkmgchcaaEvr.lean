/-
  StitchesOf of both sides.
-/
import Derived.Test.YtlbhpndkmgchcaaEv6
import Derived.Shelf.Abstract
namespace Go.Proofs.Ytlbhpndkmgchcaa.ev
open Go.RowKit Go.Sort Go.Proofs.Ytlbhpndkmgchcaa.sl
set_option linter.unusedVariables false
set_option linter.unusedSimpArgs false

def isX (x : V) : Bool := x.a0 == 1
def stW (xs : List V) : List V := xs.filter fun x => !isX x
theorem stW_len (xs : List V) : (stW xs).length ≤ xs.length := List.length_filter_le _ _

set_option maxRecDepth 100000 in
set_option maxHeartbeats 1000000 in
theorem specSt (xs : List V) (v : Value) (B : Nat) (w : World) (ha : Ops w B v xs) (hB : B ≤ w.heap.size) (hq : Small xs) :
    Calls Try.prog 30 #[v] w fun e w' => ∃ v', e = .returned v' ∧ OOwn w' w.heap.size w'.heap.size v' (stW xs) ∧ Below w.heap.size w w' := by
  have hn := hq.len
  clear hq
  rcases ha with ⟨rfl, ao, cap, rfl, hao⟩ | ⟨hp, b, off, cap, rfl, hbb, hc⟩
  · go_enter Try.func30, Try.ntmps30
    go_wp2
    refine wp_loop_rounds 1 ?_
    rw [rounds_succ]
    go_wp2
    go_ret
    exact ⟨_, rfl, (ROwn.built w _ rfl).oown, (Below.refl _ _).alloc (Nat.le_refl _) _⟩
  · have HKn := hid (fun k h => keep_next isX xs k h)
    have HKl := hid (fun k h => keep_len isX xs k h)
    have HKa : Hid (keep isX xs xs.length = stW xs) := hid (keep_all isX xs)
    obtain ⟨n, hnn⟩ : ∃ n, n = xs.length := ⟨_, rfl⟩
    rw [← hnn] at hp hc hn HKn HKl HKa ⊢
    have HC := hid hc
    clear hnn hc
    go_enter Try.func30, Try.ntmps30
    go_wp2
    go_loopw [3, 4] (fun v i wr => ∃ k : Nat, k ≤ n ∧ i = .int .i64 k ∧ ROwn wr w.heap.size wr.heap.size v (keep isX xs k) ∧ Below w.heap.size w wr)
      (fun _ i _ => n - (intOf i).toNat)
    case atStart => exact ⟨0, Nat.zero_le _, rfl, ROwn.built w _ rfl, (Below.refl _ _).alloc (Nat.le_refl _) _⟩
    case round =>
      obtain ⟨k, hk, rfl, hown, hbel⟩ := hrel
      have HO := hid hown
      have HB := hid hbel
      have hsz := hbel.size
      clear hown hbel
      by_cases hlt : k < n
      · have HA := (HC.out k hlt).below HB.out
        have HNx := hid (HKn.out k hlt)
        have hl : (keep isX xs k).length ≤ 1048576 := by have := HKl.out k hk; omega
        generalize keep isX xs k = l at *
        generalize xs.getD k oz = x at *
        obtain ⟨x0, x1, x2, x3, x4, x5⟩ := x
        have hX : isX ⟨x0, x1, x2, x3, x4, x5⟩ = (x0 == 1) := rfl
        rw [hX] at HNx
        clear hX
        have c0 := HA.c0
        have c1 := HA.c1
        have c2 := HA.c2
        have c3 := HA.c3
        have c4 := HA.c4
        have c5 := HA.c5
        simp only at c0 c1 c2 c3 c4 c5
        clear HA
        by_cases h1 : x0 = 1
        · subst h1
          have HNx2 : Hid (keep isX xs (k + 1) = l) := hid (by rw [HNx.out]; rfl)
          go_wp2
          go_roundw
          case rel => exact ⟨k + 1, by omega, by go_num, by rw [HNx2.out]; exact HO.out, HB.out⟩
          case measure => simp [intOf]; omega
        · have h1b : (x0 == 1) = false := by simpa using h1
          have h1c : (x0 != 1) = true := by simpa using h1
          have HNx2 : Hid (keep isX xs (k + 1) = l ++ [⟨x0, x1, x2, x3, x4, x5⟩]) := hid (by rw [HNx.out, h1b]; rfl)
          clear h1
          go_wp2_with (at_builtin; refine wp_append1 rfl _ _ rfl w.heap.size wr.heap.size _ l ⟨x0, x1, x2, x3, x4, x5⟩ HO.out rfl rfl hsz hl ?_; intro v' w5 hown5 hchg5 hsz5; have HO5 := hid hown5; have HB5 := hid (HB.out.trans (hchg5.below (Nat.le_refl _) hsz)); clear hown5 hchg5 c0 c1 c2 c3 c4 c5)
          go_roundw
          case rel => exact ⟨k + 1, by omega, by go_num, by rw [HNx2.out]; exact HO5.out, HB5.out⟩
          case measure => simp [intOf]; omega
      · obtain rfl : k = n := by omega
        go_wp2
        go_ret
        exact ⟨_, rfl, by rw [← HKa.out]; exact HO.out.oown, HB.out⟩

theorem predX : PredFor isX 74 #[] := by
  intro x W
  obtain ⟨x0, x1, x2, x3, x4, x5⟩ := x
  obtain ⟨q, hq⟩ : ∃ q, q = (x0 == 1) := ⟨_, rfl⟩
  have HQ : Hid (isX ⟨x0, x1, x2, x3, x4, x5⟩ = q) := hid (by rw [hq]; rfl)
  rw [HQ.out]
  replace hq := hq.symm
  simp only [V.val, Array.append_empty]
  have hb := (Below.refl W.heap.size W).alloc (Nat.le_refl _) (.cells #[.int .i64 x0, .int .i64 x1, .int .i64 x2, .int .i64 x3, .int .i64 x4, .int .i64 x5] 87)
  go_enter Try.func74, Try.ntmps74
  go_wp2
  go_ret
  exact ⟨rfl, hb⟩

set_option maxRecDepth 100000 in
theorem implSt (xs : List V) (v : Value) (B : Nat) (w : World) (ha : Ops w B v xs) (hB : B ≤ w.heap.size) (hq : Small xs) :
    Calls Try.prog 31 #[v] w fun e w' => ∃ v', e = .returned v' ∧ OOwn w' w.heap.size w'.heap.size v' (stW xs) ∧ Below w.heap.size w w' := by
  have eg := enters_of Try.func74 (by kernel_rfl) rfl
  have HCl := hid (cloneE xs v B w ha hB hq)
  have HD := hid (fun v lo hi W (h : ROwn W lo hi v xs) => deleteE isX 74 xs v lo hi W h.oown h.cap hq.len eg predX)
  have HS : Hid (stW xs = xs.filter fun x => !isX x) := hid rfl
  obtain ⟨ao, cap, rfl⟩ := ops_val ha
  clear ha hq eg
  generalize xs.length = n at *
  rw [← HS.out] at HD
  go_enter Try.func31, Try.ntmps31
  go_wp2_with fail
  refine HCl.out.mono ?_
  rintro e w1 ⟨v1, rfl, o1, b1⟩
  have HD1 := hid (HD.out _ _ _ _ o1)
  have HB1 := hid b1
  have hs1 := b1.size
  clear o1 b1 HD HCl
  go_wp2_with fail
  refine HD1.out.mono ?_
  rintro e w2 ⟨ao2, cap2, rfl, o2, c2⟩
  have HO2 := hid o2
  have HB2 := hid (HB1.out.trans (c2.below (Nat.le_refl _) hs1))
  have hs2 := c2.size
  clear o2 c2
  go_wp2
  go_ret
  exact ⟨_, rfl, by
    obtain ⟨hh, hr⟩ := HO2.out
    refine ⟨Nat.le_refl _, ?_⟩
    rcases hr with hr | ⟨hp, g, cap, hv, e1, e2, e3⟩
    · exact .inl hr
    · exact .inr ⟨hp, g, cap, hv, e1, by omega, e3⟩, HB2.out⟩
end Go.Proofs.Ytlbhpndkmgchcaa.ev
