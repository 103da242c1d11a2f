/-
  slices.Concat over rows; slices.Concat of long lists.
-/
import Derived.Test.YtlhpipcmebmpdabVm2
import Derived.Test.YtlhpipcmebmpdabCc
namespace Go.Proofs.Ytlhpipcmebmpdab.mc
open Go.RowKit Go.Sort Go.Proofs.Ytlhpipcmebmpdab.sl Go.Proofs.Ytlhpipcmebmpdab.br Go.Proofs.Ytlhpipcmebmpdab.fn Go.Proofs.Ytlhpipcmebmpdab.ss
set_option linter.unusedVariables false
set_option linter.unusedSimpArgs false

/-- A slice of slices, its values told; their block lies below B. -/
def VRow (w : World) (B : Nat) (v : Value) (ys : List Value) : Prop := ∃ b off cap, v = .slice (some ⟨b, off, none⟩) ys.length cap ∧ b < B ∧ (∀ j y, ys[j]? = some y → w.cell? ⟨b, off + j, none⟩ = some y) ∧ ∀ y ∈ ys, y.oneCell' = true
theorem VRow.below {w w' : World} {B lo : Nat} {v : Value} {ys : List Value} (h : VRow w B v ys) (hb : Below lo w w') (h2 : B ≤ lo) : VRow w' B v ys := by
  obtain ⟨b, off, cap, hv, hlt, hc, h1⟩ := h
  exact ⟨b, off, cap, hv, hlt, fun j y hj => (hb.cell (p := ⟨b, off + j, none⟩) (by show b < lo; omega)).trans (hc j y hj), h1⟩

theorem wp_appendRows {ops : Array Oper} {rest : List Oper} {o : Oper} {a : Act} {Q : Exit → Act → World → Prop} {w : World} (hgd : o.guard = none) (s x : Operand)
    (hop : o.op = .call { callee := .builtin .append, args := #[s, x], argTypes := #[22, 22] })
    (lo : Nat) (v : Value) (xs : List Value) (ho : w.ownsRow lo 25 1 v xs.length xs) (hs : a.eval s = v) (u : Value) (ys : List Value) (C : Nat) (hu : VRow w C u ys) (hx : a.eval x = u) (hlo : lo ≤ w.heap.size) (hn : xs.length + ys.length ≤ 4194304)
    (hK : ∀ v' w', w'.ownsRow lo 25 1 v' (xs ++ ys).length (xs ++ ys) → Below lo w w' → wpList Try.prog ops Q rest (a.put o.dst v') w') : wpList Try.prog ops Q (o :: rest) a w := by
  obtain ⟨i0, hi', hz0, hz1, hz2⟩ := info_parts infoS
  obtain ⟨b, off, cap, hv, hlt, hc, h1⟩ := hu
  refine wpList_append_own _ hgd s x 22 hop lo 25 i0 (.slice none 0 0) 1 24 Try.underlying22 hi' hz0 hz1 hz2 rfl (by decide) v xs.length xs hs ho ⟨b, off, none⟩ ys.length cap ys (hx.trans hv) (by simp) ?_ h1 ?_ ?_ hlo ?_
  · intro j q hj
    rw [Addr.add_lit]; exact hc j q hj
  · unfold maxLen; omega
  · omega
  · intro v' w' h1 h2 _
    refine hK v' w' (by rw [List.length_append]; exact h1) ⟨h2.os, h2.tape, h2.output, h2.size, fun k hk => ?_⟩
    exact h2.block k (by omega) (by intro e; have h4 := (ho.lt k e.symm).1; omega)

theorem growNilS (n : Nat) (w : World) (h0 : 0 < n) (hn : n ≤ 1048576) :
    Calls Try.prog 115 #[.slice none 0 0, .int .i64 n] w fun e w' => ∃ v', e = .returned v' ∧ w'.ownsRow w.heap.size 25 1 v' 0 [] ∧ Below w.heap.size w w' := by
  obtain ⟨i0, hi, hz0, hz1, hz2⟩ := info_parts infoS
  have hz := fun ty => Lib.run_append_nil_zeros (P := Try.prog) w 22 3 ty 25 i0 (.slice none 0 0) .i64 .i64 Try.underlying22 infoInt hi hz0 n (by omega) (by rw [hz1]; omega) (by omega) (by rw [hz2]; omega)
  have hG1 := grownCap_ge w n 0 25
  have hG2 := grownCap_le_maxLen w n 0 25 (by unfold maxLen; omega)
  have HOwn : Hid (∀ G : Nat, n ≤ G → G ≤ maxLen → (w.drew.alloc (.cells (Builtin.zeroCells (Value.slice none 0 0).cells n ++ Builtin.zeroCells (Value.slice none 0 0).cells (G - n)) 25)).ownsRow w.heap.size 25 1 (.slice (some ⟨w.heap.size, 0, none⟩) 0 G) 0 []) := hid (fun G h1 h2 => by
    exact World.ownsRow_made (base := w.heap.size) (e := 25) (size := 1) w.drew (Builtin.zeroCells (Value.slice none 0 0).cells n ++ Builtin.zeroCells (Value.slice none 0 0).cells (G - n)) G (Nat.le_refl _) h2 (by
      have e1 : (Value.slice none 0 0).cells.size = 1 := rfl
      simp only [Array.size_append, size_zeroCells, e1]; omega))
  obtain ⟨G, hG⟩ : ∃ G, G = grownCap w n 0 25 := ⟨_, rfl⟩
  rw [← hG] at hz hG1 hG2
  have HO := hid (HOwn.out G hG1 hG2)
  unfold maxLen at hG2
  generalize hW : w.drew.alloc (.cells (Builtin.zeroCells (Value.slice none 0 0).cells n ++ Builtin.zeroCells (Value.slice none 0 0).cells (G - n)) 25) = w2 at *
  have HB : Hid (Below w.heap.size w w2) := hid (by rw [← hW]; exact ((Below.refl w.heap.size w).drew).alloc (Nat.le_refl _) _)
  clear hG hW HOwn hi hz0 hz1 hz2
  go_enter Try.func115, Try.ntmps115
  go_wp2_with (at_builtin; refine Lib.wpList_append_run _ rfl _ _ _ _ rfl _ _ rfl rfl _ _ (hz _) ?_)
  go_ret
  exact ⟨_, rfl, HO.out, HB.out⟩

def totV (P : List (List Value)) (k : Nat) : Nat := ((P.take k).flatten).length
theorem flatV_snoc (L : List (List Value)) (k : Nat) (h : k < L.length) : (L.take (k + 1)).flatten = (L.take k).flatten ++ L.getD k [] := by
  rw [List.take_succ_eq_append_getElem h, List.flatten_append]; simp [List.getD, List.getElem?_eq_getElem h]
theorem totV_succ (L : List (List Value)) (k : Nat) (h : k < L.length) : totV L (k + 1) = totV L k + (L.getD k []).length := by
  rw [totV, flatV_snoc L k h, List.length_append]; rfl
theorem totV_le (L : List (List Value)) (k : Nat) : totV L k ≤ L.flatten.length := by
  have h : L.flatten = (L.take k).flatten ++ (L.drop k).flatten := by rw [← List.flatten_append, List.take_append_drop]
  rw [totV, h, List.length_append]; omega
theorem totV_all (L : List (List Value)) : totV L L.length = L.flatten.length := by rw [totV, List.take_length]

/-- A block that holds slices of slices. -/
def VRows (w : World) (B g : Nat) (P : List (List Value)) : Prop := ∀ j, j < P.length → ∃ v, w.cell? ⟨g, j, none⟩ = some v ∧ VRow w B v (P.getD j [])
theorem VRows.below {w w' : World} {B g lo : Nat} {P : List (List Value)} (h : VRows w B g P) (hb : Below lo w w') (h1 : g < lo) (h2 : B ≤ lo) : VRows w' B g P := by
  intro j hj
  obtain ⟨v, hc, hv⟩ := h j hj
  exact ⟨v, (hb.cell (p := ⟨g, j, none⟩) h1).trans hc, hv.below hb h2⟩

set_option maxRecDepth 100000 in
set_option maxHeartbeats 1000000 in
theorem concatR (P : List (List Value)) (g c B : Nat) (w : World) (hw : VRows w B g P) (hB : B ≤ w.heap.size) (hg : g < w.heap.size) (hL : P.length ≤ 1000) (hp : 0 < P.flatten.length) (ht : P.flatten.length ≤ 1048576) :
    Calls Try.prog 102 #[.slice (some ⟨g, 0, none⟩) P.length c] w fun e w' => ∃ v', e = .returned v' ∧ w'.ownsRow w.heap.size 25 1 v' P.flatten.length P.flatten ∧ Below w.heap.size w w' := by
  obtain ⟨m, hmm⟩ : ∃ m, m = P.length := ⟨_, rfl⟩
  rw [← hmm] at hL ⊢
  have HM := hid hmm
  have HW := hid hw
  have HTa := hid (totV_all P)
  have HPos := hid hp
  clear hmm hw hp
  go_enter Try.func102, Try.ntmps102
  go_wp2
  go_loop [3, 11] (fun t i => ∃ k : Nat, k ≤ m ∧ i = .int .i64 k ∧ t = .int .i64 (totV P k)) (fun _ i => m - (intOf i).toNat)
  case atStart => exact ⟨0, Nat.zero_le _, rfl, rfl⟩
  case round =>
    obtain ⟨k, hk, rfl, rfl⟩ := hrel
    have hle := totV_le P k
    by_cases hlt : k < m
    · obtain ⟨v, hc, b, off, cap, hv, _⟩ := HW.out k (by rw [← HM.out]; exact hlt)
      subst hv
      have hle2 := totV_le P (k + 1)
      have hs := totV_succ P k (by rw [← HM.out]; exact hlt)
      have HS := hid hs
      rw [hs] at hle2
      clear hs
      generalize (P.getD k []).length = q at *
      generalize totV P k = t at *
      go_wp2
      go_round
      case rel => exact ⟨k + 1, by omega, by go_num, by rw [HS.out]; go_num⟩
      case measure => simp [intOf]; omega
    · obtain rfl : k = m := by omega
      have hpos : 0 < totV P k := by rw [HM.out, HTa.out]; exact HPos.out
      generalize totV P k = t at *
      go_wp2_with fail
      refine (growNilS t w hpos (by omega)).mono ?_
      rintro e w1 ⟨v1, rfl, o1, b1⟩
      have HO1 := hid o1
      have HB1 := hid b1
      have hz1 := b1.size
      have HW1 := hid (HW.out.below b1 hg hB)
      clear o1 b1 HW
      go_wp2
      go_loopw [6, 27] (fun v i wr => ∃ j : Nat, j ≤ k ∧ i = .int .i64 j ∧ wr.ownsRow w.heap.size 25 1 v ((P.take j).flatten).length ((P.take j).flatten) ∧ Below w.heap.size w wr ∧ VRows wr B g P) (fun _ i _ => k - (intOf i).toNat)
      case atStart => exact ⟨0, Nat.zero_le _, rfl, HO1.out, HB1.out, HW1.out⟩
      case round =>
        obtain ⟨j, hj, rfl, hown, hbel, hwds⟩ := hrel
        have HO := hid hown
        have HB := hid hbel
        have HWr := hid hwds
        have hsz := hbel.size
        clear hown hbel hwds HO1 HB1 HW1
        by_cases hjl : j < k
        · obtain ⟨u, hc, hvr⟩ := HWr.out j (by rw [← HM.out]; exact hjl)
          have HV := hid hvr
          have HS := hid (flatV_snoc P j (by rw [← HM.out]; exact hjl))
          have hle1 := totV_le P j
          have hle2 := totV_le P (j + 1)
          rw [totV_succ P j (by rw [← HM.out]; exact hjl)] at hle2
          have HT : Hid (((P.take j).flatten).length + (P.getD j []).length ≤ 4194304) := hid (by unfold totV at hle2; omega)
          obtain ⟨b, off, cap, hv, _⟩ := hvr
          clear hle1 hle2
          generalize P.getD j [] = ys at *
          obtain ⟨ln, hln⟩ : ∃ ln, ln = ys.length := ⟨_, rfl⟩
          rw [← hln] at hv
          subst hv
          clear hln
          go_wp2_with (at_builtin; refine wp_appendRows rfl _ _ rfl w.heap.size _ ((P.take j).flatten) HO.out rfl _ ys B HV.out rfl hsz HT.out ?_; intro v' w3 hown3 hbel3)
          have HO3 := hid hown3
          have HB3 := hid (HB.out.trans hbel3)
          have HW3 := hid (HWr.out.below hbel3 hg hB)
          clear hown3 hbel3
          go_wp2
          go_roundw
          case rel => exact ⟨j + 1, by omega, by go_num, by rw [HS.out]; exact HO3.out, HB3.out, HW3.out⟩
          case measure => simp [intOf]; omega
        · obtain rfl : j = k := by omega
          have HS : Hid ((P.take j).flatten = P.flatten) := hid (by rw [HM.out, List.take_length])
          go_wp2
          go_ret
          exact ⟨_, rfl, by rw [← HS.out]; exact HO.out, HB.out⟩

/-! ### long lists -/
theorem growNilB (n : Nat) (w : World) (hn : n ≤ 4194304) :
    Calls Try.prog 114 #[.slice none 0 0, .int .i64 n] w fun e w' => ∃ ao cap, e = .returned (.slice ao 0 cap) ∧ Own w' w.heap.size w'.heap.size (.slice ao 0 cap) [] ∧ Below w.heap.size w w' := by
  obtain ⟨i0, hi, hz0, hz1, hz2⟩ := info_parts info64
  by_cases h0 : n = 0
  · subst h0
    go_enter Try.func114, Try.ntmps114
    go_wp2
    go_ret
    exact ⟨none, 0, rfl, Own.nil _ _, Below.refl _ _⟩
  · have hz := fun ty => Lib.run_append_nil_zeros (P := Try.prog) w 25 3 ty 2 i0 (.int .i64 0) .i64 .i64 Try.underlying25 infoInt hi hz0 n (by omega) (by rw [hz1]; omega) (by omega) (by rw [hz2]; omega)
    have hG1 := grownCap_ge w n 0 2
    have hG2 := grownCap_le_maxLen w n 0 2 (by unfold maxLen; omega)
    have HOwn : Hid (∀ G : Nat, n ≤ G → G ≤ maxLen → Own (w.drew.alloc (.cells (Builtin.zeroCells (Value.int .i64 0).cells n ++ Builtin.zeroCells (Value.int .i64 0).cells (G - n)) 2)) w.heap.size (w.drew.alloc (.cells (Builtin.zeroCells (Value.int .i64 0).cells n ++ Builtin.zeroCells (Value.int .i64 0).cells (G - n)) 2)).heap.size (.slice (some ⟨w.heap.size, 0, none⟩) 0 G) []) := hid (fun G h1 h2 => by
      have h := World.ownsRow_made (base := w.heap.size) (e := 2) (size := 1) w.drew (Builtin.zeroCells (Value.int .i64 0).cells n ++ Builtin.zeroCells (Value.int .i64 0).cells (G - n)) G (Nat.le_refl _) h2 (by
        have e1 : (Value.int .i64 0).cells.size = 1 := rfl
        simp only [Array.size_append, size_zeroCells, e1]; omega)
      exact Own.mk' (xs := []) h)
    obtain ⟨G, hG⟩ : ∃ G, G = grownCap w n 0 2 := ⟨_, rfl⟩
    rw [← hG] at hz hG1 hG2
    have HO := hid (HOwn.out G hG1 hG2)
    unfold maxLen at hG2
    generalize hW : w.drew.alloc (.cells (Builtin.zeroCells (Value.int .i64 0).cells n ++ Builtin.zeroCells (Value.int .i64 0).cells (G - n)) 2) = w2 at *
    have HB : Hid (Below w.heap.size w w2) := hid (by rw [← hW]; exact ((Below.refl w.heap.size w).drew).alloc (Nat.le_refl _) _)
    clear hG hW HOwn hi hz0 hz1 hz2
    go_enter Try.func114, Try.ntmps114
    go_wp2_with (at_builtin; refine Lib.wpList_append_run _ rfl _ _ _ _ rfl _ _ rfl rfl _ _ (hz _) ?_)
    go_ret
    exact ⟨_, _, rfl, HO.out, HB.out⟩
set_option maxHeartbeats 800000 in
theorem concatB (L : List (List Int)) (g c B : Nat) (w : World) (hw : Wds w B g L) (hB : B ≤ w.heap.size) (hg : g < w.heap.size) (hL : L.length ≤ 1000) (ht : L.flatten.length ≤ 4194304) :
    Calls Try.prog 101 #[.slice (some ⟨g, 0, none⟩) L.length c] w fun e w' => ∃ v', e = .returned v' ∧ Own w' w.heap.size w'.heap.size v' L.flatten ∧ Below w.heap.size w w' := by
  obtain ⟨m, hmm⟩ : ∃ m, m = L.length := ⟨_, rfl⟩
  rw [← hmm] at hL ⊢
  have HM := hid hmm
  have HW := hid hw
  clear hmm hw
  go_enter Try.func101, Try.ntmps101
  go_wp2
  go_loop [3, 11] (fun t i => ∃ k : Nat, k ≤ m ∧ i = .int .i64 k ∧ t = .int .i64 (br.tot L k)) (fun _ i => m - (intOf i).toNat)
  case atStart => exact ⟨0, Nat.zero_le _, rfl, rfl⟩
  case round =>
    obtain ⟨k, hk, rfl, rfl⟩ := hrel
    have hle := br.tot_le L k
    by_cases hlt : k < m
    · obtain ⟨ao, cap, hc, _, _⟩ := HW.out k (by rw [← HM.out]; exact hlt)
      have hle2 := br.tot_le L (k + 1)
      have hs := br.tot_succ L k (by rw [← HM.out]; exact hlt)
      have HS := hid hs
      rw [hs] at hle2
      clear hs
      generalize (L.getD k []).length = q at *
      generalize br.tot L k = t at *
      go_wp2
      go_round
      case rel => exact ⟨k + 1, by omega, by go_num, by rw [HS.out]; go_num⟩
      case measure => simp [intOf]; omega
    · obtain rfl : k = m := by omega
      generalize br.tot L k = t at *
      go_wp2_with fail
      refine (growNilB t w (by omega)).mono ?_
      rintro e w1 ⟨ao1, cap1, rfl, o1, b1⟩
      have HO1 := hid o1
      have HB1 := hid b1
      have hz1 := b1.size
      have HW1 := hid (HW.out.below b1 hg hB)
      clear o1 b1 HW
      go_wp2
      go_loopw [6, 27] (fun v i wr => ∃ j : Nat, j ≤ k ∧ i = .int .i64 j ∧ Own wr w.heap.size wr.heap.size v ((L.take j).flatten) ∧ Below w.heap.size w wr ∧ Wds wr B g L) (fun _ i _ => k - (intOf i).toNat)
      case atStart => exact ⟨0, Nat.zero_le _, rfl, HO1.out, HB1.out, HW1.out⟩
      case round =>
        obtain ⟨j, hj, rfl, hown, hbel, hwds⟩ := hrel
        have HO := hid hown
        have HB := hid hbel
        have HWr := hid hwds
        have hsz := hbel.size
        clear hown hbel hwds HO1 HB1 HW1
        by_cases hjl : j < k
        · obtain ⟨ao, cap, hc, hints, hnil⟩ := HWr.out j (by rw [← HM.out]; exact hjl)
          have HI := hid hints
          have HNil := hid hnil
          have HS := hid (br.flat_snoc L j (by rw [← HM.out]; exact hjl))
          have hle1 := br.tot_le L j
          have hle2 := br.tot_le L (j + 1)
          rw [br.tot_succ L j (by rw [← HM.out]; exact hjl)] at hle2
          have HT : Hid (((L.take j).flatten).length + (L.getD j []).length ≤ 1099511627776) := hid (by unfold br.tot at hle2; omega)
          clear hints hnil hle1 hle2
          generalize L.getD j [] = ys at *
          go_wp2_with (at_builtin; refine wp_appendAll rfl _ _ rfl w.heap.size wr.heap.size _ ((L.take j).flatten) HO.out rfl _ ys B HI.out HNil.out rfl hsz HT.out ?_; intro v' w3 hown3 hchg3)
          have HO3 := hid hown3
          have HB3 := hid (HB.out.trans (hchg3.below (Nat.le_refl _) hsz))
          have HW3 := hid (HWr.out.below (hchg3.below (B := w.heap.size) (Nat.le_refl _) hsz) hg hB)
          clear hown3 hchg3
          go_wp2
          go_roundw
          case rel => exact ⟨j + 1, by omega, by go_num, by rw [HS.out]; exact HO3.out, HB3.out, HW3.out⟩
          case measure => simp [intOf]; omega
        · obtain rfl : j = k := by omega
          have HS : Hid ((L.take j).flatten = L.flatten) := hid (by rw [HM.out, List.take_length])
          go_wp2
          go_ret
          exact ⟨_, rfl, by rw [← HS.out]; exact HO.out, HB.out⟩
end Go.Proofs.Ytlhpipcmebmpdab.mc
