/-
  The operations of moves, one after the other: impl.mapAll at the operations of moves, slices.Concat at slices of operations, opsOfMoves.
-/
import Derived.Test.YtedajefapddekaaOz0
import Derived.Test.YtedajefapddekaaPz0
namespace Go.Proofs.Ytedajefapddekaa.mo
open Go.RowKit Go.Sort Go.Proofs.Ytedajefapddekaa.sl Go.Proofs.Ytedajefapddekaa.pm
set_option linter.unusedVariables false
set_option maxRecDepth 100000

theorem infoOO : (Try.prog.info? 22).map (fun i => (i.zero, i.size, i.bytes)) = some (some (.slice none 0 0), 1, 24) := by kernel_rfl
theorem row_below {w w' : World} {base : Nat} {e : TypeId} {size n : Nat} {v : Value} {xs : List Value} (h : w.ownsRow base e size v n xs) (b : Below w.heap.size w w') : w'.ownsRow base e size v n xs := by
  refine ⟨h.1, ?_⟩
  rcases h.2 with hn | ⟨g, cap, cur, hv, hb, hg, rest⟩
  · exact .inl hn
  · refine .inr ⟨g, cap, cur, hv, hb, ?_, rest⟩
    rw [b.block g (Array.getElem?_eq_some_iff.1 hg).1]
    exact hg

/-- A slice of slices of operations. -/
def WdsO (w : World) (B : Nat) (g : Nat) (L : List (List qo.V)) : Prop :=
  ∀ j, j < L.length → ∃ v, w.cell? ⟨g, j, none⟩ = some v ∧ qo.Ops w B v (L.getD j [])
theorem WdsO.below {w w' : World} {B g : Nat} {L : List (List qo.V)} (h : WdsO w B g L) (b : Below w.heap.size w w') (hg : g < w.heap.size) : WdsO w' B g L := by
  intro j hj
  obtain ⟨v, hc, hi⟩ := h j hj
  exact ⟨v, (b.cell (p := ⟨g, j, none⟩) hg).trans hc, hi.below b⟩
theorem WdsO.below' {w w' : World} {B g lo : Nat} {L : List (List qo.V)} (h : WdsO w B g L) (b : Below lo w w') (hg : g < lo) (hB : B ≤ lo) : WdsO w' B g L := by
  intro j hj
  obtain ⟨v, hc, hi⟩ := h j hj
  exact ⟨v, (b.cell (p := ⟨g, j, none⟩) hg).trans hc, hi.chg (lo := lo) (hi := w.heap.size) ⟨b.os, b.tape, b.output, b.size, fun k hk hk' => b.block k (by omega)⟩ (.inl hB)⟩
def totO (L : List (List qo.V)) (k : Nat) : Nat := ((L.take k).flatten).length
theorem flat_snocO (L : List (List qo.V)) (k : Nat) (h : k < L.length) : (L.take (k + 1)).flatten = (L.take k).flatten ++ L.getD k [] := by
  rw [List.take_succ_eq_append_getElem h, List.flatten_append]; simp [List.getD, List.getElem?_eq_getElem h]
theorem totO_succ (L : List (List qo.V)) (k : Nat) (h : k < L.length) : totO L (k + 1) = totO L k + (L.getD k []).length := by
  rw [totO, flat_snocO L k h, List.length_append]; rfl
theorem totO_le (L : List (List qo.V)) (k : Nat) : totO L k ≤ L.flatten.length := by
  have h : L.flatten = (L.take k).flatten ++ (L.drop k).flatten := by rw [← List.flatten_append, List.take_append_drop]
  rw [totO, h, List.length_append]; omega

set_option maxHeartbeats 4000000 in
theorem concatG (L : List (List qo.V)) (g c B : Nat) (w : World) (hw : WdsO w B g L) (hB : B ≤ w.heap.size) (hg : g < w.heap.size) (hL : L.length ≤ 1000) (ht : L.flatten.length ≤ 1000000) (h0 : 0 < L.flatten.length) :
    Calls Try.prog 126 #[.slice (some ⟨g, 0, none⟩) L.length c] w fun e w' => ∃ v', e = .returned v' ∧ qo.ROwn w' w.heap.size w'.heap.size v' L.flatten ∧ Below w.heap.size w w' := by
  obtain ⟨m, hmm⟩ : ∃ m, m = L.length := ⟨_, rfl⟩
  rw [← hmm] at hL ⊢
  have HM := hid hmm
  have HW := hid hw
  have H0 := hid h0
  clear hmm hw h0
  go_enter Try.func126, Try.ntmps126
  go_wp2
  go_loop [3, 11] (fun t i => ∃ k : Nat, k ≤ m ∧ i = .int .i64 k ∧ t = .int .i64 (totO L k)) (fun _ i => m - (intOf i).toNat)
  case atStart => exact ⟨0, Nat.zero_le _, rfl, rfl⟩
  case round =>
    obtain ⟨k, hk, rfl, rfl⟩ := hrel
    have hle := totO_le L k
    by_cases hlt : k < m
    · obtain ⟨v, hc, hi⟩ := HW.out k (by rw [← HM.out]; exact hlt)
      obtain ⟨ao, cap, hv⟩ := qo.ops_val hi
      subst hv
      have hle2 := totO_le L (k + 1)
      have hs := totO_succ L k (by rw [← HM.out]; exact hlt)
      have HS := hid hs
      rw [hs] at hle2
      clear hs hi
      generalize (L.getD k []).length = q at *
      generalize totO L k = t at *
      go_wp2
      go_round
      case rel => exact ⟨k + 1, by omega, by go_num, by rw [HS.out]; go_num⟩
      case measure => simp [intOf]; omega
    · obtain rfl : k = m := by omega
      have hpos : 0 < totO L k := by have := H0.out; unfold totO; rw [HM.out, List.take_length]; exact this
      generalize totO L k = t at *
      go_wp2_with fail
      refine (growNilO t w (by omega) hpos).mono ?_
      rintro e w1 ⟨cap1, rfl, o1, b1⟩
      have HO1 := hid o1
      have HB1 := hid b1
      have HW1 := hid (HW.out.below b1 hg)
      clear o1 b1 HW
      go_wp2
      go_loopw [6, 27] (fun v i wr => ∃ j : Nat, j ≤ k ∧ i = .int .i64 j ∧ qo.ROwn wr w.heap.size wr.heap.size v ((L.take j).flatten) ∧ Below w.heap.size w wr ∧ WdsO wr B g L) (fun _ i _ => k - (intOf i).toNat)
      case atStart => exact ⟨0, Nat.zero_le _, rfl, HO1.out, HB1.out, HW1.out⟩
      case round =>
        obtain ⟨j, hj, rfl, hown, hbel, hwds⟩ := hrel
        have HO := hid hown
        have HB := hid hbel
        have HWr := hid hwds
        have hsz := hbel.size
        clear hown hbel hwds HO1 HB1 HW1
        by_cases hjl : j < k
        · obtain ⟨v2, hc, hints⟩ := HWr.out j (by rw [← HM.out]; exact hjl)
          have HI := hid hints
          obtain ⟨ao, cap, hv2⟩ := qo.ops_val hints
          subst hv2
          have HS := hid (flat_snocO L j (by rw [← HM.out]; exact hjl))
          have hle1 := totO_le L j
          have hle2 := totO_le L (j + 1)
          rw [totO_succ L j (by rw [← HM.out]; exact hjl)] at hle2
          have HT1 : Hid (((L.take j).flatten).length ≤ 1048576) := hid (by unfold totO at hle1; omega)
          have HT2 : Hid ((L.getD j []).length ≤ 1048576) := hid (by omega)
          clear hints hle1 hle2
          generalize L.getD j [] = ys at *
          go_wp2_with (at_builtin; refine qo.wp_appendS rfl _ _ rfl w.heap.size wr.heap.size _ _ ((L.take j).flatten) ys B HO.out rfl HI.out rfl hsz HT1.out HT2.out ?_; intro v' w3 hown3 hchg3; have HO3 := hid hown3; have HB3 := hid (HB.out.trans (hchg3.below (Nat.le_refl _) hsz)); have HW3 := hid (HWr.out.below' (hchg3.below (B := w.heap.size) (Nat.le_refl _) hsz) hg hB); clear hown3 hchg3)
          go_roundw
          case rel => exact ⟨j + 1, by omega, by go_num, by rw [HS.out]; exact HO3.out, HB3.out, HW3.out⟩
          case measure => simp [intOf]; omega
        · obtain rfl : j = k := by omega
          have HS : Hid ((L.take j).flatten = L.flatten) := hid (by rw [HM.out, List.take_length])
          go_wp2
          go_ret
          exact ⟨_, rfl, by rw [← HS.out]; exact HO.out, HB.out⟩

def mvs (ms : List mv.V) : List (List qo.V) := ms.map fun m => opL m.a0 m.a1
theorem mvs_len (ms : List mv.V) : (mvs ms).length = ms.length := by simp [mvs]
theorem mvs_at (ms : List mv.V) (j : Nat) (h : j < ms.length) : (mvs ms).getD j [] = opL (ms.getD j mv.oz).a0 (ms.getD j mv.oz).a1 := by simp [mvs, List.getD, h]
def okM (m : mv.V) : Prop := (0 ≤ m.a0 ∧ m.a0 ≤ 23) ∧ (0 ≤ m.a1 ∧ m.a1 ≤ 23)

set_option maxHeartbeats 4000000 in
theorem mapMv (ms : List mv.V) (v : Value) (B : Nat) (w : World) (ha : mv.Ops w B v ms) (hB : B ≤ w.heap.size) (hn : ms.length ≤ 1000) (hok : ∀ j, j < ms.length → okM (ms.getD j mv.oz)) :
    Calls Try.prog 127 #[.func (.func 57) #[] #[], v] w fun e w' => e = .returned (.slice (some ⟨w.heap.size, 0, none⟩) ms.length ms.length) ∧ w.heap.size < w'.heap.size ∧ WdsO w' w'.heap.size w.heap.size (mvs ms) ∧ Below w.heap.size w w' := by
  obtain ⟨i0, hi, hz0, hz1, hz2⟩ := info_parts infoOO
  have HA := hid ha
  have HOk := hid hok
  obtain ⟨ao, cap, hv⟩ := mv.ops_val ha
  obtain ⟨n, hnn⟩ : ∃ n, n = ms.length := ⟨_, rfl⟩
  rw [← hnn] at hv hn ⊢
  have HN := hid hnn
  clear hnn ha hok
  subst hv
  go_enter Try.func127, Try.ntmps127
  go_wp2_with (at_make; refine wpList_make_own _ rfl _ _ 146 rfl w.heap.size 22 i0 _ 1 Try.underlying146 hi hz0 hz1 .i64 .i64 _ n rfl rfl (by omega) (by rw [hz2]; omega) (by unfold maxLen; omega) (Nat.le_refl _) ?_; intro W3 hown3 hgrow3; have HS3 := hid hown3; have HB3 := hid ((Below.refl w.heap.size w).grown hgrow3 (Nat.le_refl _) (fun k hk => by cases hk)); clear hown3 hgrow3)
  go_loopw [5, 13] (fun s i wr => ∃ (k : Nat) (vals : List Value), k ≤ n ∧ s = .slice (some ⟨w.heap.size, 0, none⟩) k n ∧ i = .int .i64 k ∧ vals.length = k ∧ wr.ownsRow w.heap.size 22 1 (.slice (some ⟨w.heap.size, 0, none⟩) k n) k vals ∧ (∀ j, j < k → qo.ROwn wr (w.heap.size + 1) wr.heap.size (vals.getD j undef) (opL (ms.getD j mv.oz).a0 (ms.getD j mv.oz).a1)) ∧ Below w.heap.size w wr ∧ w.heap.size + 1 ≤ wr.heap.size) (fun _ i _ => n - (intOf i).toNat)
  case atStart => exact ⟨0, [], Nat.zero_le _, rfl, rfl, rfl, HS3.out, fun j hj => by omega, HB3.out, (HS3.out.lt w.heap.size rfl).2⟩
  case round =>
    obtain ⟨k, vals, hk, rfl, rfl, hvl, hrow, hrows, hbel, hs1⟩ := hrel
    have HVl := hid hvl
    have HRow := hid hrow
    have HRs := hid hrows
    have HB := hid hbel
    have hsz := hbel.size
    clear hrow hrows hbel HS3 HB3 hvl
    by_cases hlt : k < n
    · rcases HA.out with ⟨hx, _⟩ | ⟨hp, b, off, cap', hv, hb, hc⟩
      · have := HN.out; rw [hx] at this; simp at this; omega
      · simp only [Value.slice.injEq] at hv
        obtain ⟨rfl, hlen, rfl⟩ := hv
        clear hlen
        have hAt : mv.At wr b (off + k * 2) (ms.getD k mv.oz) := (hc k (by rw [← HN.out]; exact hlt)).blk HB.out.size (HB.out.block b (by omega))
        have HK := hid (HOk.out k (by rw [← HN.out]; exact hlt))
        clear hc hp
        obtain ⟨x, hx⟩ : ∃ x, x = ms.getD k mv.oz := ⟨_, rfl⟩
        rw [← hx] at hAt HK
        have HX := hid hx
        clear hx
        obtain ⟨x0, x1⟩ := x
        obtain ⟨_, c0, c1⟩ := hAt
        simp only at c0 c1
        have HOp := hid (implOps x0 x1 HK.out (wr.alloc (.cells #[.int .i64 x0, .int .i64 x1] 71)))
        have HBa := hid ((Below.refl wr.heap.size wr).alloc (Nat.le_refl _) (.cells #[.int .i64 x0, .int .i64 x1] 71))
        have hsa : (wr.alloc (.cells #[.int .i64 x0, .int .i64 x1] 71)).heap.size = wr.heap.size + 1 := by simp
        go_wp2_with fail
        generalize wr.alloc (.cells #[.int .i64 x0, .int .i64 x1] 71) = wa at *
        refine HOp.out.mono ?_
        rintro e w4 ⟨v4, rfl, o4, b4⟩
        obtain ⟨a4, c4, rfl⟩ := qo.rown_val o4
        have HB4 := hid (HBa.out.trans (b4.mono (by omega)))
        have HO4 := hid (o4.lo (lo' := w.heap.size + 1) (by omega))
        have hs4 : wr.heap.size ≤ w4.heap.size := HB4.out.size
        have HRow4 := hid (row_below HRow.out HB4.out)
        have HRs4 := hid (fun j (hj : j < k) => ((HRs.out j hj).below HB4.out).hi hs4 (Nat.le_refl _))
        have HBw4 := hid (HB.out.trans (HB4.out.mono hsz))
        clear o4 b4 c0 c1
        have hl4 : (opL x0 x1).length = 4 := rfl
        go_wp2_with (at_builtin; refine wpList_append_fits _ rfl _ _ 146 rfl w.heap.size 22 i0 1 Try.underlying146 hi hz1 w.heap.size k n vals rfl (HRow4.out.alloc _) ⟨w4.heap.size, 0, none⟩ 1 1 [.slice a4 4 c4] rfl rfl (by intro j u hj; match j, hj with | 0, hj => (simp only [List.getElem?_cons_zero, Option.some.injEq] at hj; subst hj; rw [Addr.add_lit, World.cell?_alloc_at _ _ _ _ rfl]; rfl)) (by intro u hu; simp at hu; subst hu; rfl) (by omega) ?_; intro w5 hown5 hgrow5; have HRow5 := hid hown5; have HC5 := hid (show Chg w.heap.size (w.heap.size + 1) (w4.alloc (.cells #[.slice a4 4 c4] 22)) w5 from ⟨hgrow5.os, hgrow5.tape, hgrow5.output, hgrow5.size, fun q hq hq' => hgrow5.block q hq (by intro e; injection e; omega)⟩); have HB5 := hid ((HBw4.out.alloc (by omega) (.cells #[.slice a4 4 c4] 22)).grown hgrow5 (by simp; omega) (fun q hq => by cases hq; exact Nat.le_refl _)); have hs5 := hgrow5.size; clear hown5 hgrow5)
        go_roundw
        case rel =>
          have hs45 : w4.heap.size + 1 ≤ w5.heap.size := by simpa using hs5
          refine ⟨k + 1, vals ++ [.slice a4 4 c4], by omega, rfl, by go_num, by rw [List.length_append, HVl.out]; rfl, HRow5.out, fun j hj => ?_, HB5.out, by omega⟩
          have hA : ∀ (y : Value) (L : List qo.V), qo.ROwn w4 (w.heap.size + 1) w4.heap.size y L → qo.ROwn w5 (w.heap.size + 1) w5.heap.size y L := fun y L h =>
            ((h.below ((Below.refl w4.heap.size w4).alloc (Nat.le_refl _) _)).chg HC5.out (.inr (.inl (Nat.le_refl _)))).hi (by omega) (Nat.le_refl _)
          by_cases e : j = k
          · subst e
            rw [← HX.out, List.getD, List.getElem?_append_right (by rw [HVl.out]; exact Nat.le_refl _), HVl.out, Nat.sub_self]
            exact hA _ _ HO4.out
          · rw [List.getD, List.getElem?_append_left (by rw [HVl.out]; omega)]
            exact hA _ _ (HRs4.out j (by omega))
        case measure => simp [intOf]; omega
    · obtain rfl : k = n := by omega
      go_wp2
      go_ret
      refine ⟨rfl, by omega, fun j hj => ?_, HB.out⟩
      rw [mvs_len, ← HN.out] at hj
      refine ⟨vals.getD j undef, ?_, ?_⟩
      · rw [HRow.out.cellAt j (by omega)]
        simp [List.getD, List.getElem?_eq_getElem (show j < vals.length by rw [HVl.out]; exact hj)]
      · rw [mvs_at ms j (by rw [← HN.out]; exact hj)]
        exact (HRs.out j hj).oown.ops
end Go.Proofs.Ytedajefapddekaa.mo
