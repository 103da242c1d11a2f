/-
  slices.Concat of rows that lie anywhere in a block; rows whose lists are nil or have an address.
-/
import Derived.Test.YtnmnikpgjglonaaCc
import Derived.Test.YtnmnikpgjglonaaSs2
namespace Go.Proofs.Ytnmnikpgjglonaa.cu
open Go.RowKit Go.Proofs.Ytnmnikpgjglonaa.sl Go.Proofs.Ytnmnikpgjglonaa.pm Go.Proofs.Ytnmnikpgjglonaa.bw Go.Proofs.Ytnmnikpgjglonaa.fn Go.Proofs.Ytnmnikpgjglonaa.br
set_option linter.unusedVariables false

/-- Rows whose lists are nil or have an address. -/
def RowsN (w : World) (B : Nat) (v : Value) (rows : List (List Int)) : Prop :=
  (rows = [] ∧ ∃ ao cap, v = .slice ao 0 cap) ∨
  (0 < rows.length ∧ ∃ (b off cap : Nat) (V : Nat → Value), v = .slice (some ⟨b, off, none⟩) rows.length cap ∧ b < B ∧ ∀ j, j < rows.length → w.cell? ⟨b, off + j, none⟩ = some (V j) ∧ Ints w B (V j) (rows.getD j []) ∧ NilOk (V j))
theorem RowsN.rows {w : World} {B : Nat} {v : Value} {rows : List (List Int)} (h : RowsN w B v rows) : ss.Rows w B v rows := by
  rcases h with h | ⟨hp, b, off, cap, V, hv, hb, hc⟩
  · exact .inl h
  · exact .inr ⟨hp, b, off, cap, V, hv, hb, fun j hj => ⟨(hc j hj).1, (hc j hj).2.1⟩⟩
theorem RowsN.chg {w w' : World} {B lo hi : Nat} {v : Value} {rows : List (List Int)} (h : RowsN w B v rows) (c : Chg lo hi w w') (h1 : B ≤ lo ∨ hi ≤ lo) : RowsN w' B v rows := by
  rcases h with h | ⟨hp, b, off, cap, V, hv, hb, hc⟩
  · exact .inl h
  · refine .inr ⟨hp, b, off, cap, V, hv, hb, fun j hj => ⟨?_, (hc j hj).2.1.chg c h1, (hc j hj).2.2⟩⟩
    have hlt := World.block_lt_of_cell? w _ (hc j hj).1
    rw [World.cell?_of_block (w := w) (w' := w') (a := ⟨b, off + j, none⟩) (c.block b hlt (by omega))]
    exact (hc j hj).1
theorem RowsN.below {w w' : World} {B : Nat} {v : Value} {rows : List (List Int)} (h : RowsN w B v rows) (b : Below w.heap.size w w') : RowsN w' B v rows := h.chg (Chg.ofBelow (lo := 0) b) (.inr (Nat.zero_le _))
theorem RowsN.al {w : World} {B : Nat} {v : Value} {rows : List (List Int)} (h : RowsN w B v rows) (o : Obj) : RowsN (w.alloc o) B v rows := h.below ((Below.refl _ _).alloc (Nat.le_refl _) _)
theorem _root_.Go.Proofs.Ytnmnikpgjglonaa.ss.ROwn.rn {w : World} {lo hi : Nat} {v : Value} {rows : List (List Int)} (h : ss.ROwn w lo hi v rows) : RowsN w hi v rows := by
  rcases h.2 with h | ⟨hp, g, off, cap, V, L, H, hv, h1, h2, h3⟩
  · exact .inl h
  · exact .inr ⟨hp, g, off, cap, V, hv, h2, fun j hj => ⟨(h3 j hj).1, (h3 j hj).2.1.ints.mono (h3 j hj).2.2.2.1, nilok_own (h3 j hj).2.1⟩⟩

def WdsO (w : World) (B g off : Nat) (L : List (List Int)) : Prop :=
  ∀ j, j < L.length → ∃ ao cap, w.cell? ⟨g, off + j, none⟩ = some (.slice ao (L.getD j []).length cap) ∧ Ints w B (.slice ao (L.getD j []).length cap) (L.getD j []) ∧ NilOk (.slice ao (L.getD j []).length cap)
theorem WdsO.below {w w' : World} {B g off lo : Nat} {L : List (List Int)} (h : WdsO w B g off L) (hb : Below lo w w') (h1 : g < lo) (h2 : B ≤ lo) : WdsO w' B g off L := by
  intro j hj
  obtain ⟨ao, cap, hc, hi, hn⟩ := h j hj
  exact ⟨ao, cap, (hb.cell (p := ⟨g, off + j, none⟩) h1).trans hc, hi.chg (lo := lo) (hi := w.heap.size) ⟨hb.os, hb.tape, hb.output, hb.size, fun k hk hk' => hb.block k (by omega)⟩ (.inl h2), hn⟩

set_option maxHeartbeats 800000 in
theorem concatO (L : List (List Int)) (g off c B : Nat) (w : World) (hw : WdsO w B g off L) (hB : B ≤ w.heap.size) (hg : g < w.heap.size) (hL : L.length ≤ 1000) (ht : L.flatten.length ≤ 1048576) :
    Calls Try.prog 48 #[.slice (some ⟨g, off, none⟩) L.length c] w fun e w' => ∃ v', e = .returned v' ∧ Own w' w.heap.size w'.heap.size v' L.flatten ∧ Below w.heap.size w w' := by
  obtain ⟨m, hmm⟩ : ∃ m, m = L.length := ⟨_, rfl⟩
  rw [← hmm] at hL ⊢
  have HM := hid hmm
  have HW := hid hw
  clear hmm hw
  go_enter Try.func48, Try.ntmps48
  go_wp2
  go_loop [3, 11] (fun t i => ∃ k : Nat, k ≤ m ∧ i = .int .i64 k ∧ t = .int .i64 (tot L k)) (fun _ i => m - (intOf i).toNat)
  case atStart => exact ⟨0, Nat.zero_le _, rfl, rfl⟩
  case round =>
    obtain ⟨k, hk, rfl, rfl⟩ := hrel
    have hle := tot_le L k
    by_cases hlt : k < m
    · obtain ⟨ao, cap, hc, _, _⟩ := HW.out k (by rw [← HM.out]; exact hlt)
      have hle2 := tot_le L (k + 1)
      have hs := tot_succ L k (by rw [← HM.out]; exact hlt)
      have HS := hid hs
      rw [hs] at hle2
      clear hs
      generalize (L.getD k []).length = q at *
      generalize tot L k = t at *
      go_wp2
      go_round
      case rel => exact ⟨k + 1, by omega, by go_num, by rw [HS.out]; go_num⟩
      case measure => simp [intOf]; omega
    · obtain rfl : k = m := by omega
      generalize tot L k = t at *
      go_wp2_with fail
      refine (growNil t w (by omega)).mono ?_
      rintro e w1 ⟨ao1, cap1, rfl, o1, b1⟩
      have HO1 := hid o1
      have HB1 := hid b1
      have hz1 := b1.size
      have HW1 := hid (HW.out.below b1 hg hB)
      clear o1 b1 HW
      go_wp2
      go_loopw [6, 27] (fun v i wr => ∃ j : Nat, j ≤ k ∧ i = .int .i64 j ∧ Own wr w.heap.size wr.heap.size v ((L.take j).flatten) ∧ Below w.heap.size w wr ∧ WdsO wr B g off L) (fun _ i _ => k - (intOf i).toNat)
      case atStart => exact ⟨0, Nat.zero_le _, rfl, HO1.out, HB1.out, HW1.out⟩
      case round =>
        obtain ⟨j, hj, rfl, hown, hbel, hwds⟩ := hrel
        have HO := hid hown
        have HB := hid hbel
        have HWr := hid hwds
        have hsz := hbel.size
        clear hown hbel hwds HO1 HB1 HW1
        by_cases hjl : j < k
        · obtain ⟨ao, cap, hc, hints, hnil⟩ := HWr.out j (by rw [← HM.out]; exact hjl)
          have HI := hid hints
          have HNil := hid hnil
          have HS := hid (flat_snoc L j (by rw [← HM.out]; exact hjl))
          have hle1 := tot_le L j
          have hle2 := tot_le L (j + 1)
          rw [tot_succ L j (by rw [← HM.out]; exact hjl)] at hle2
          have HT : Hid (((L.take j).flatten).length + (L.getD j []).length ≤ 1099511627776) := hid (by unfold tot at hle2; omega)
          clear hints hnil hle1 hle2
          generalize L.getD j [] = ys at *
          go_wp2_with (at_builtin; refine wp_appendAll rfl _ _ rfl w.heap.size wr.heap.size _ ((L.take j).flatten) HO.out rfl _ ys B HI.out HNil.out rfl hsz HT.out ?_; intro v' w3 hown3 hchg3)
          have HO3 := hid hown3
          have HB3 := hid (HB.out.trans (hchg3.below (Nat.le_refl _) hsz))
          have HW3 := hid (HWr.out.below (hchg3.below (B := w.heap.size) (Nat.le_refl _) hsz) hg hB)
          clear hown3 hchg3
          go_wp2
          go_roundw
          case rel => exact ⟨j + 1, by omega, by go_num, by rw [HS.out]; exact HO3.out, HB3.out, HW3.out⟩
          case measure => simp [intOf]; omega
        · obtain rfl : j = k := by omega
          have HS : Hid ((L.take j).flatten = L.flatten) := hid (by rw [HM.out, List.take_length])
          go_wp2
          go_ret
          exact ⟨_, rfl, by rw [← HS.out]; exact HO.out, HB.out⟩
end Go.Proofs.Ytnmnikpgjglonaa.cu
