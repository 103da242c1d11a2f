/-
  Words that are joined: contracts of slices.Grow at the nil slice, slices.Concat and impl.joined.
-/
import Derived.Test.YtedajefapddekaaMr
import Derived.Test.YtedajefapddekaaWd
import Derived.Lib.AppendZeros
namespace Go.Proofs.Ytedajefapddekaa.br
open Go.RowKit Go.Proofs.Ytedajefapddekaa.sl Go.Proofs.Ytedajefapddekaa.pm Go.Proofs.Ytedajefapddekaa.bw Go.Proofs.Ytedajefapddekaa.fn

theorem infoInt : Try.prog.underlying 3 = some (.int .i64) := by kernel_rfl

theorem growNil (n : Nat) (w : World) (hn : n ≤ 1048576) :
    Calls Try.prog 105 #[.slice none 0 0, .int .i64 n] w fun e w' => ∃ ao cap, e = .returned (.slice ao 0 cap) ∧ Own w' w.heap.size w'.heap.size (.slice ao 0 cap) [] ∧ Below w.heap.size w w' := by
  obtain ⟨i0, hi, hz0, hz1, hz2⟩ := info_parts info64
  by_cases h0 : n = 0
  · subst h0
    go_enter Try.func105, Try.ntmps105
    go_wp2
    go_ret
    exact ⟨none, 0, rfl, Own.nil _ _, Below.refl _ _⟩
  · have hz := fun ty => Lib.run_append_nil_zeros (P := Try.prog) w 30 3 ty 2 i0 (.int .i64 0) .i64 .i64 Try.underlying30 infoInt hi hz0 n (by omega) (by rw [hz1]; omega) (by omega) (by rw [hz2]; omega)
    have hG1 := grownCap_ge w n 0 2
    have hG2 := grownCap_le_maxLen w n 0 2 (by unfold maxLen; omega)
    have HOwn : Hid (∀ G : Nat, n ≤ G → G ≤ maxLen → Own (w.drew.alloc (.cells (Builtin.zeroCells (Value.int .i64 0).cells n ++ Builtin.zeroCells (Value.int .i64 0).cells (G - n)) 2)) w.heap.size (w.drew.alloc (.cells (Builtin.zeroCells (Value.int .i64 0).cells n ++ Builtin.zeroCells (Value.int .i64 0).cells (G - n)) 2)).heap.size (.slice (some ⟨w.heap.size, 0, none⟩) 0 G) []) := hid (fun G h1 h2 => by
      have h := World.ownsRow_made (base := w.heap.size) (e := 2) (size := 1) w.drew (Builtin.zeroCells (Value.int .i64 0).cells n ++ Builtin.zeroCells (Value.int .i64 0).cells (G - n)) G (Nat.le_refl _) h2 (by
        have e1 : (Value.int .i64 0).cells.size = 1 := rfl
        simp only [Array.size_append, size_zeroCells, e1]; omega)
      exact Own.mk' (xs := []) h)
    obtain ⟨G, hG⟩ : ∃ G, G = grownCap w n 0 2 := ⟨_, rfl⟩
    rw [← hG] at hz hG1 hG2
    have HO := hid (HOwn.out G hG1 hG2)
    unfold maxLen at hG2
    generalize hW : w.drew.alloc (.cells (Builtin.zeroCells (Value.int .i64 0).cells n ++ Builtin.zeroCells (Value.int .i64 0).cells (G - n)) 2) = w2 at *
    have HB : Hid (Below w.heap.size w w2) := hid (by rw [← hW]; exact ((Below.refl w.heap.size w).drew).alloc (Nat.le_refl _) _)
    clear hG hW HOwn hi hz0 hz1 hz2
    go_enter Try.func105, Try.ntmps105
    go_wp2_with (at_builtin; refine Lib.wpList_append_run _ rfl _ _ _ _ rfl _ _ rfl rfl _ _ (hz _) ?_)
    go_ret
    exact ⟨_, _, rfl, HO.out, HB.out⟩

/-- A slice of slices of numbers. -/
def Wds (w : World) (B : Nat) (g : Nat) (L : List (List Int)) : Prop :=
  ∀ j, j < L.length → ∃ ao cap, w.cell? ⟨g, j, none⟩ = some (.slice ao (L.getD j []).length cap) ∧ Ints w B (.slice ao (L.getD j []).length cap) (L.getD j []) ∧ NilOk (.slice ao (L.getD j []).length cap)
theorem Wds.below {w w' : World} {B g lo : Nat} {L : List (List Int)} (h : Wds w B g L) (hb : Below lo w w') (h1 : g < lo) (h2 : B ≤ lo) : Wds w' B g L := by
  intro j hj
  obtain ⟨ao, cap, hc, hi, hn⟩ := h j hj
  exact ⟨ao, cap, (hb.cell (p := ⟨g, j, none⟩) h1).trans hc, hi.chg (lo := lo) (hi := w.heap.size) ⟨hb.os, hb.tape, hb.output, hb.size, fun k hk hk' => hb.block k (by omega)⟩ (.inl h2), hn⟩
def tot (L : List (List Int)) (k : Nat) : Nat := ((L.take k).flatten).length
theorem flat_snoc (L : List (List Int)) (k : Nat) (h : k < L.length) : (L.take (k + 1)).flatten = (L.take k).flatten ++ L.getD k [] := by
  rw [List.take_succ_eq_append_getElem h, List.flatten_append]; simp [List.getD, List.getElem?_eq_getElem h]
theorem tot_succ (L : List (List Int)) (k : Nat) (h : k < L.length) : tot L (k + 1) = tot L k + (L.getD k []).length := by
  rw [tot, flat_snoc L k h, List.length_append]; rfl
theorem tot_le (L : List (List Int)) (k : Nat) : tot L k ≤ L.flatten.length := by
  have h : L.flatten = (L.take k).flatten ++ (L.drop k).flatten := by rw [← List.flatten_append, List.take_append_drop]
  rw [tot, h, List.length_append]; omega

set_option maxHeartbeats 800000 in
theorem concat (L : List (List Int)) (g c B : Nat) (w : World) (hw : Wds w B g L) (hB : B ≤ w.heap.size) (hg : g < w.heap.size) (hL : L.length ≤ 1000) (ht : L.flatten.length ≤ 1048576) :
    Calls Try.prog 71 #[.slice (some ⟨g, 0, none⟩) L.length c] w fun e w' => ∃ v', e = .returned v' ∧ Own w' w.heap.size w'.heap.size v' L.flatten ∧ Below w.heap.size w w' := by
  obtain ⟨m, hmm⟩ : ∃ m, m = L.length := ⟨_, rfl⟩
  rw [← hmm] at hL ⊢
  have HM := hid hmm
  have HW := hid hw
  clear hmm hw
  go_enter Try.func71, Try.ntmps71
  go_wp2
  go_loop [3, 11] (fun t i => ∃ k : Nat, k ≤ m ∧ i = .int .i64 k ∧ t = .int .i64 (tot L k)) (fun _ i => m - (intOf i).toNat)
  case atStart => exact ⟨0, Nat.zero_le _, rfl, rfl⟩
  case round =>
    obtain ⟨k, hk, rfl, rfl⟩ := hrel
    have hle := tot_le L k
    by_cases hlt : k < m
    · obtain ⟨ao, cap, hc, _, _⟩ := HW.out k (by rw [← HM.out]; exact hlt)
      have hle2 := tot_le L (k + 1)
      have hs := tot_succ L k (by rw [← HM.out]; exact hlt)
      have HS := hid hs
      rw [hs] at hle2
      clear hs
      generalize (L.getD k []).length = q at *
      generalize tot L k = t at *
      go_wp2
      go_round
      case rel => exact ⟨k + 1, by omega, by go_num, by rw [HS.out]; go_num⟩
      case measure => simp [intOf]; omega
    · obtain rfl : k = m := by omega
      generalize tot L k = t at *
      go_wp2_with fail
      refine (growNil t w (by omega)).mono ?_
      rintro e w1 ⟨ao1, cap1, rfl, o1, b1⟩
      have HO1 := hid o1
      have HB1 := hid b1
      have hz1 := b1.size
      have HW1 := hid (HW.out.below b1 hg hB)
      clear o1 b1 HW
      go_wp2
      go_loopw [6, 27] (fun v i wr => ∃ j : Nat, j ≤ k ∧ i = .int .i64 j ∧ Own wr w.heap.size wr.heap.size v ((L.take j).flatten) ∧ Below w.heap.size w wr ∧ Wds wr B g L) (fun _ i _ => k - (intOf i).toNat)
      case atStart => exact ⟨0, Nat.zero_le _, rfl, HO1.out, HB1.out, HW1.out⟩
      case round =>
        obtain ⟨j, hj, rfl, hown, hbel, hwds⟩ := hrel
        have HO := hid hown
        have HB := hid hbel
        have HWr := hid hwds
        have hsz := hbel.size
        clear hown hbel hwds HO1 HB1 HW1
        by_cases hjl : j < k
        · obtain ⟨ao, cap, hc, hints, hnil⟩ := HWr.out j (by rw [← HM.out]; exact hjl)
          have HI := hid hints
          have HNil := hid hnil
          have HS := hid (flat_snoc L j (by rw [← HM.out]; exact hjl))
          have hle1 := tot_le L j
          have hle2 := tot_le L (j + 1)
          rw [tot_succ L j (by rw [← HM.out]; exact hjl)] at hle2
          have HT : Hid (((L.take j).flatten).length + (L.getD j []).length ≤ 1099511627776) := hid (by unfold tot at hle2; omega)
          clear hints hnil hle1 hle2
          generalize L.getD j [] = ys at *
          go_wp2_with (at_builtin; refine wp_appendAll rfl _ _ rfl w.heap.size wr.heap.size _ ((L.take j).flatten) HO.out rfl _ ys B HI.out HNil.out rfl hsz HT.out ?_; intro v' w3 hown3 hchg3)
          have HO3 := hid hown3
          have HB3 := hid (HB.out.trans (hchg3.below (Nat.le_refl _) hsz))
          have HW3 := hid (HWr.out.below (hchg3.below (B := w.heap.size) (Nat.le_refl _) hsz) hg hB)
          clear hown3 hchg3
          go_wp2
          go_roundw
          case rel => exact ⟨j + 1, by omega, by go_num, by rw [HS.out]; exact HO3.out, HB3.out, HW3.out⟩
          case measure => simp [intOf]; omega
        · obtain rfl : j = k := by omega
          have HS : Hid ((L.take j).flatten = L.flatten) := hid (by rw [HM.out, List.take_length])
          go_wp2
          go_ret
          exact ⟨_, rfl, by rw [← HS.out]; exact HO.out, HB.out⟩

/-- What joined answers. -/
def joinOk (s : Int) (L : List (List Int)) : Bool := decide (s ≤ 12) && decide (L.flatten.length ≤ 40)
def joinS (s : Int) (L : List (List Int)) : Int := if joinOk s L = true then s else 0
def joinW (s : Int) (L : List (List Int)) : List Int := if joinOk s L = true then L.flatten else []
def joinC (s : Int) (L : List (List Int)) : Int := if joinOk s L = true then 0 else 5

set_option maxHeartbeats 800000 in
theorem implJoined (s : Int) (L : List (List Int)) (g c B : Nat) (w : World) (hw : Wds w B g L) (hB : B ≤ w.heap.size) (hg : g < w.heap.size) (hL : L.length ≤ 1000) (ht : L.flatten.length ≤ 1048576) :
    Calls Try.prog 74 #[.int .i64 s, .slice (some ⟨g, 0, none⟩) L.length c] w fun e w' => ∃ ao cap, e = .returned (.tuple #[.agg #[.int .i64 (joinS s L), .slice ao (joinW s L).length cap], .int .i64 (joinC s L)]) ∧ Own w' w.heap.size w'.heap.size (.slice ao (joinW s L).length cap) (joinW s L) ∧ Below w.heap.size w w' := by
  have b0 : Below w.heap.size w (w.alloc (.cells #[.int .i64 0, .slice none 0 0] 39)) := (Below.refl _ _).alloc (Nat.le_refl _) _
  have HC := hid (concat L g c B (w.alloc (.cells #[.int .i64 0, .slice none 0 0] 39)) (hw.below b0 hg hB) (by simp; omega) (by simp; omega) hL ht)
  clear b0 hw
  have finish : ∀ (w1 : World), Below (w.alloc (.cells #[.int .i64 0, .slice none 0 0] 39)).heap.size (w.alloc (.cells #[.int .i64 0, .slice none 0 0] 39)) w1 → w1.cell? ⟨w.heap.size, 0, none⟩ = some (.int .i64 0) ∧ w1.cell? ⟨w.heap.size, 1, none⟩ = some (.slice none 0 0) ∧ w1.frozen? ⟨w.heap.size, 0, none⟩ = false ∧ w1.frozen? ⟨w.heap.size, 1, none⟩ = false ∧ Below w.heap.size w w1 ∧ w.heap.size + 1 ≤ w1.heap.size := fun w1 b => by
    have hb := box1 b
    have h0 := hb.1 0
    have h1 := hb.1 1
    simp at h0 h1
    exact ⟨h0, h1, (b.frozen (p := ⟨w.heap.size, 0, none⟩) (by simp)).trans (World.frozen?_alloc_at _ _ _ _ rfl), (b.frozen (p := ⟨w.heap.size, 1, none⟩) (by simp)).trans (World.frozen?_alloc_at _ _ _ _ rfl), hb.2.1, hb.2.2⟩
  have HFn := hid finish
  clear finish
  have hmm : ∃ m, m = L.flatten.length := ⟨_, rfl⟩
  obtain ⟨m, hm⟩ := hmm
  have HMm := hid hm
  rw [← hm] at ht
  by_cases h1 : s ≤ 12
  · have hd1 : decide (12 < s) = false := by simp; omega
    by_cases h2 : m ≤ 40
    · have hok : joinOk s L = true := by simp only [joinOk, Bool.and_eq_true, decide_eq_true_eq]; exact ⟨h1, by rw [← HMm.out]; exact h2⟩
      have HF : Hid (joinS s L = s ∧ joinW s L = L.flatten ∧ joinC s L = 0) := hid ⟨by rw [joinS, if_pos hok], by rw [joinW, if_pos hok], by rw [joinC, if_pos hok]⟩
      have hd2 : decide ((40 : Int) < (m : Int)) = false := by simp; omega
      rw [HF.out.1, HF.out.2.1, HF.out.2.2, ← hm]
      clear hok hm
      go_enter Try.func74, Try.ntmps74
      go_wp2_with fail
      refine HC.out.mono ?_
      rintro e w1 ⟨v1, rfl, o1, b1⟩
      obtain ⟨ao1, cap1, hv1⟩ := own_val o1
      rw [← HMm.out] at hv1
      subst hv1
      obtain ⟨r0, r1, f0, f1, hb, hz⟩ := HFn.out w1 b1
      have HB := hid hb
      have HO := hid (o1.lo (lo' := w.heap.size + 1) (by simp))
      clear o1 b1 hb
      go_wp2
      refine bodyPost_ret (v := .tuple #[.agg #[.int .i64 s, .slice ao1 m cap1], .int .i64 0]) (by simp [results, Try.results74, go_sem, r0, r1]) rfl ⟨ao1, cap1, rfl, ?_, ?_⟩
      · have h := own_other (own_other HO.out w.heap.size 0 (.int .i64 s) (by omega)) w.heap.size 1 (.slice ao1 m cap1) (by omega)
        have h2 := h.lo (lo' := w.heap.size) (by omega)
        simpa using h2
      · exact (HB.out.setCell (by simp) _).setCell (by simp) _
    · have hok : joinOk s L = false := by simp only [joinOk, Bool.and_eq_false_iff, decide_eq_false_iff_not]; exact .inr (by rw [← HMm.out]; exact h2)
      have HF : Hid (joinS s L = 0 ∧ joinW s L = [] ∧ joinC s L = 5) := hid ⟨by rw [joinS, hok]; rfl, by rw [joinW, hok]; rfl, by rw [joinC, hok]; rfl⟩
      have hd2 : decide ((40 : Int) < (m : Int)) = true := by simp; omega
      rw [HF.out.1, HF.out.2.1, HF.out.2.2, List.length_nil]
      clear hok hm
      go_enter Try.func74, Try.ntmps74
      go_wp2_with fail
      refine HC.out.mono ?_
      rintro e w1 ⟨v1, rfl, o1, b1⟩
      obtain ⟨ao1, cap1, hv1⟩ := own_val o1
      rw [← HMm.out] at hv1
      subst hv1
      obtain ⟨r0, r1, f0, f1, hb, hz⟩ := HFn.out w1 b1
      have HB := hid hb
      clear o1 b1 hb
      go_wp2
      refine bodyPost_ret (v := .tuple #[.agg #[.int .i64 0, .slice none 0 0], .int .i64 5]) (by simp [results, Try.results74, go_sem, r0, r1]) rfl ⟨none, 0, rfl, Own.nil _ _, ?_⟩
      exact (HB.out.setCell (by simp) _).setCell (by simp) _
  · have hok : joinOk s L = false := by simp only [joinOk, Bool.and_eq_false_iff, decide_eq_false_iff_not]; exact .inl h1
    have hd1 : decide (12 < s) = true := by simp; omega
    have HF : Hid (joinS s L = 0 ∧ joinW s L = [] ∧ joinC s L = 5) := hid ⟨by rw [joinS, hok]; rfl, by rw [joinW, hok]; rfl, by rw [joinC, hok]; rfl⟩
    rw [HF.out.1, HF.out.2.1, HF.out.2.2, List.length_nil]
    clear hok hm
    go_enter Try.func74, Try.ntmps74
    go_wp2_with fail
    refine HC.out.mono ?_
    rintro e w1 ⟨v1, rfl, o1, b1⟩
    obtain ⟨ao1, cap1, hv1⟩ := own_val o1
    rw [← HMm.out] at hv1
    subst hv1
    obtain ⟨r0, r1, f0, f1, hb, hz⟩ := HFn.out w1 b1
    have HB := hid hb
    clear o1 b1 hb
    go_wp2
    refine bodyPost_ret (v := .tuple #[.agg #[.int .i64 0, .slice none 0 0], .int .i64 5]) (by simp [results, Try.results74, go_sem, r0, r1]) rfl ⟨none, 0, rfl, Own.nil _ _, ?_⟩
    exact (HB.out.setCell (by simp) _).setCell (by simp) _
end Go.Proofs.Ytedajefapddekaa.br
