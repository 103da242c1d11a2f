/-
  DoubleBraid: the words of the blocks, by the program.
-/
import Derived.Test.YtedajefapddekaaDb0
namespace Go.Proofs.Ytedajefapddekaa.db
open Go.RowKit Go.Proofs.Ytedajefapddekaa.sl Go.Proofs.Ytedajefapddekaa.pm Go.Proofs.Ytedajefapddekaa.fn Go.Proofs.Ytedajefapddekaa.br Go.Proofs.Ytedajefapddekaa.bw Go.Proofs.Ytedajefapddekaa.wk
set_option linter.unusedVariables false

theorem ints_take {w : World} {lo hi g n cap i : Nat} {L : List Int} (o : sl.Own w lo hi (.slice (some ⟨g, 0, none⟩) n cap) L) (h : i ≤ L.length) : Ints w hi (.slice (some ⟨g, 0, none⟩) i cap) (L.take i) := by
  by_cases h0 : i = 0
  · subst h0; exact .inl ⟨by simp, _, _, rfl⟩
  · refine .inr ⟨by simp; omega, g, 0, cap, by simp; omega, o.2.1 g rfl, fun j hj => ?_⟩
    simp at hj
    rw [Nat.zero_add, (o.at' j (by omega)).1]
    have h1 : j < i := by omega
    simp [List.getD, h1]
/-- Sizes of blocks. -/
def Sm (xs : List Int) : Prop := ∀ j, 0 ≤ xs.getD j 0 ∧ xs.getD j 0 ≤ 4
theorem sm_sum (xs : List Int) (h : Sm xs) (k : Nat) (hk : xs.length ≤ 100) : 0 ≤ sumL (xs.take k) ∧ sumL (xs.take k) ≤ 400 := by
  have H : ∀ n, n ≤ xs.length → 0 ≤ sumL (xs.take n) ∧ sumL (xs.take n) ≤ 4 * (n : Int) := by
    intro n
    induction n with
    | zero => intro _; simp [sumL]
    | succ n ih =>
      intro hn
      have h1 := ih (by omega)
      have h2 := h n
      have e : sumL (xs.take (n + 1)) = sumL (xs.take n) + xs.getD n 0 := by
        rw [List.take_succ_eq_append_getElem (show n < xs.length by omega)]
        unfold sumL
        rw [List.foldl_append]
        simp [List.getD, List.getElem?_eq_getElem (show n < xs.length by omega)]
      rw [e]
      omega
  by_cases hl : k ≤ xs.length
  · have := H k hl; omega
  · have := H xs.length (Nat.le_refl _)
    rw [List.take_of_length_le (show xs.length ≤ k by omega)]
    rw [List.take_length] at this
    omega
theorem sg_one (x : Int) : sg x = 1 ∨ sg x = -1 := by unfold sg; split <;> simp

set_option maxRecDepth 100000 in
set_option maxHeartbeats 4000000 in
theorem crossC (now : List Int) (x : Int) (q bp n cap lo hi : Nat) (ao : Option Addr) (w : World) (hx : -100 ≤ x ∧ x ≤ 100) (hq : ab x = (q : Int) + 1) (c0 : w.cell? ⟨bp, 0, none⟩ = some (.slice ao n cap)) (o : sl.Own w lo hi (.slice ao n cap) now) (hbp : bp < lo ∨ hi ≤ bp) (hqn : q + 1 < now.length) (hn : now.length ≤ 100) (hs : Sm now) :
    Calls Try.prog 107 #[.int .i64 x, .pointer (some ⟨bp, 0, none⟩)] w fun e w' => ∃ v', e = .returned v' ∧ sl.Own w' w.heap.size w'.heap.size v' (swO (sg x) (sumL (now.take q)) (now.getD q 0).toNat (now.getD (q + 1) 0).toNat) ∧ sl.Own w' lo hi (.slice ao n cap) (swapAt now q) ∧ Chg lo hi w w' := by
  obtain ⟨g, cap', hv, hg1, hg2⟩ := own_slice o (by omega)
  simp only [Value.slice.injEq] at hv
  obtain ⟨rfl, rfl, rfl⟩ := hv
  obtain ⟨hc1, hc2⟩ := own_caps o
  have h1 := (o.at' q (by omega)).1
  have h2 := (o.at' (q + 1) hqn).1
  have a1 := hs q
  have a2 := hs (q + 1)
  have a3 := sm_sum now hs q hn
  have HGen := hid (fun W => gen_at x q hx hq W)
  have HSg := hid (fun W => implSign x W)
  have HSgn := hid (sg_one x)
  have HTk := hid (ints_take o (show q ≤ now.length by omega))
  have HSum := hid (fun W (hI : Ints W hi (.slice (some ⟨g, 0, none⟩) q cap) (now.take q)) => implSum (now.take q) 4 _ hi W hI (by simp; omega) (by omega) (fun j hj => by
    have hj' : j < q := by simp at hj; omega
    have := hs j
    have e : (now.take q).getD j 0 = now.getD j 0 := by simp [List.getD, hj']
    rw [e]; omega))
  have HEx := hid (fun W (oW : sl.Own W lo hi (.slice (some ⟨g, 0, none⟩) now.length cap) now) => implExchange now _ lo hi q W oW (by omega) hqn)
  have hblt := World.block_lt_of_cell? w _ c0
  obtain ⟨s, hsm⟩ : ∃ s, s = sumL (now.take q) := ⟨_, rfl⟩
  obtain ⟨a, ha⟩ : ∃ a : Nat, now.getD q 0 = (a : Int) := Int.eq_ofNat_of_zero_le a1.1
  obtain ⟨b, hb⟩ : ∃ b : Nat, now.getD (q + 1) 0 = (b : Int) := Int.eq_ofNat_of_zero_le a2.1
  rw [ha] at h1 a1 ⊢
  rw [hb] at h2 a2 ⊢
  rw [← hsm] at a3 HSum ⊢
  rw [Int.toNat_natCast, Int.toNat_natCast]
  have HCr := hid (fun W => implCross (sg x) s a b W HSgn.out (by omega) (by omega) (by omega))
  have HN := hid hn
  generalize sg x = sx at *
  obtain ⟨m, hm⟩ : ∃ m, m = now.length := ⟨_, rfl⟩
  rw [← hm] at c0 o HEx hqn hn hc1 ⊢
  have HO := hid o
  have hqm : (q : Int) + 1 < (m : Int) := by omega
  have hqw : IntKind.i64.wrap ((q : Int) + 1) = (q : Int) + 1 := IntWalk.i64_in _ (by omega)
  clear o hsm ha hb hs hm
  go_enter Try.func107, Try.ntmps107
  have HSq : Hid (∀ W, Ints W hi (.slice (some ⟨g, 0, none⟩) q cap) (now.take q) → Calls Try.prog 75 #[.slice (some ⟨g, 0, none⟩) q cap] W fun e w' => e = .returned (.int .i64 s) ∧ w' = W) := hid (fun W hI => (HSum.out W hI).mono fun _ _ h => ⟨h.1, h.2.symm⟩)
  go_wp2_with (go_at_call 108; refine (HGen.out _).mono ?_; rintro e w9 ⟨rfl, rfl⟩)
  go_quiet ((go_at_call 75; exact Calls.quiet_of_same (HSq.out _ HTk.out)))
  go_wp2_with (first | (go_at_call 109; refine (HEx.out _ (HO.out.drewN nq)).mono ?_; rintro e w3 ⟨rfl, o3, ch3⟩; have HO3 := hid o3; have HC3 : Hid (Chg lo hi w w3) := hid ⟨ch3.os, ch3.tape, ch3.output, ch3.size, ch3.block⟩; have hz3 := HC3.out.size; have c3 : w3.cell? ⟨bp, 0, none⟩ = some (.slice (some ⟨g, 0, none⟩) m cap) := (World.cell?_of_block (w := w) (w' := w3) (a := ⟨bp, 0, none⟩) (HC3.out.block bp hblt (by omega))).trans c0; clear o3 ch3) | (go_at_call 110; refine (HSg.out _).mono ?_; rintro e w9 ⟨rfl, hw9⟩; subst hw9) | (go_at_call 63; refine (HCr.out _).mono ?_; rintro e w4 ⟨v4, rfl, o4, b4⟩; have HO4 := hid o4; have HB4 := hid b4; clear o4 b4))
  go_ret
  refine ⟨_, rfl, HO4.out.lo hz3, HO3.out.chg (Chg.ofBelow (lo := 0) HB4.out) (.inr (.inr (Nat.zero_le _))), HC3.out.trans ?_⟩
  have h := HB4.out
  exact ⟨h.os, h.tape, h.output, h.size, fun k hk _ => h.block k hk⟩
end Go.Proofs.Ytedajefapddekaa.db
