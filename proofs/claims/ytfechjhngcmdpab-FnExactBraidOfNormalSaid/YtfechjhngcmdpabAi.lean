/-
  Images of a free group's generators: slices.ContainsFunc over rows, contracts of both tests.
-/
import Derived.Test.YtfechjhngcmdpabFc
import Derived.Test.YtfechjhngcmdpabSs2
namespace Go.Proofs.Ytfechjhngcmdpab.ai
open Go.RowKit Go.Proofs.Ytfechjhngcmdpab.sl Go.Proofs.Ytfechjhngcmdpab.pm Go.Proofs.Ytfechjhngcmdpab.bw Go.Proofs.Ytfechjhngcmdpab.br Go.Proofs.Ytfechjhngcmdpab.fn Go.Proofs.Ytfechjhngcmdpab.fv Go.Proofs.Ytfechjhngcmdpab.ss
set_option linter.unusedVariables false

/-- The value reads as a list of lists whose capacities fit. -/
def RowsC (w : World) (B : Nat) (v : Value) (rows : List (List Int)) : Prop :=
  (rows = [] ∧ ∃ ao cap, v = .slice ao 0 cap) ∨
  (0 < rows.length ∧ ∃ (b off cap : Nat) (V : Nat → Value), v = .slice (some ⟨b, off, none⟩) rows.length cap ∧ b < B ∧ ∀ j, j < rows.length → w.cell? ⟨b, off + j, none⟩ = some (V j) ∧ Ints w B (V j) (rows.getD j []) ∧ CapOk (V j))
theorem RowsC.rows {w : World} {B : Nat} {v : Value} {rows : List (List Int)} (h : RowsC w B v rows) : ss.Rows w B v rows := by
  rcases h with h | ⟨hp, b, off, cap, V, hv, hb, hc⟩
  · exact .inl h
  · exact .inr ⟨hp, b, off, cap, V, hv, hb, fun j hj => ⟨(hc j hj).1, (hc j hj).2.1⟩⟩
theorem RowsC.chg {w w' : World} {B lo hi : Nat} {v : Value} {rows : List (List Int)} (h : RowsC w B v rows) (c : Chg lo hi w w') (h1 : B ≤ lo ∨ hi ≤ lo) : RowsC w' B v rows := by
  rcases h with h | ⟨hp, b, off, cap, V, hv, hb, hc⟩
  · exact .inl h
  · refine .inr ⟨hp, b, off, cap, V, hv, hb, fun j hj => ⟨?_, (hc j hj).2.1.chg c h1, (hc j hj).2.2⟩⟩
    have hlt := World.block_lt_of_cell? w _ (hc j hj).1
    rw [World.cell?_of_block (w := w) (w' := w') (a := ⟨b, off + j, none⟩) (c.block b hlt (by omega))]
    exact (hc j hj).1
theorem RowsC.mono {w : World} {B B' : Nat} {v : Value} {rows : List (List Int)} (h : RowsC w B v rows) (hB : B ≤ B') : RowsC w B' v rows := by
  rcases h with h | ⟨hp, b, off, cap, V, hv, hb, hc⟩
  · exact .inl h
  · exact .inr ⟨hp, b, off, cap, V, hv, by omega, fun j hj => ⟨(hc j hj).1, (hc j hj).2.1.mono hB, (hc j hj).2.2⟩⟩
theorem _root_.Go.Proofs.Ytfechjhngcmdpab.ss.ROwn.c {w : World} {lo hi : Nat} {v : Value} {rows : List (List Int)} (h : ss.ROwn w lo hi v rows) : RowsC w hi v rows := by
  rcases h.2 with h | ⟨hp, g, off, cap, V, L, H, hv, h1, h2, h3⟩
  · exact .inl h
  · exact .inr ⟨hp, g, off, cap, V, hv, h2, fun j hj => ⟨(h3 j hj).1, (h3 j hj).2.1.ints.mono (h3 j hj).2.2.2.1, capok_own (h3 j hj).2.1⟩⟩

theorem rany_yes (p : List Int → Bool) (rows : List (List Int)) (k : Nat) (hk : k < rows.length) (h : p (rows.getD k []) = true) : rows.any p = true := by
  rw [List.any_eq_true]
  refine ⟨rows.getD k [], ?_, h⟩
  rw [show rows.getD k [] = rows[k] from by simp [List.getD, List.getElem?_eq_getElem hk]]
  exact List.getElem_mem hk
theorem rany_no (p : List Int → Bool) (rows : List (List Int)) (h : ∀ k, k < rows.length → p (rows.getD k []) = false) : rows.any p = false := by
  rw [List.any_eq_false]
  intro x hx
  obtain ⟨j, hj, rfl⟩ := List.getElem_of_mem hx
  have := h j hj
  rw [show rows.getD j [] = rows[j] from by simp [List.getD, List.getElem?_eq_getElem hj]] at this
  rw [this]; simp

/-- slices.IndexFunc over rows at a closure over one variable. -/
theorem idxRows (p : List Int → Bool) (g : Nat) (cps : Array Value) (rows : List (List Int)) (v : Value) (B : Nat) (w : World) (ha : ss.Rows w B v rows) (hB : B ≤ w.heap.size) (hn : rows.length ≤ 1048576)
    (eg : ∀ args w, (callFunc g args).run Try.prog w = .ok (.enter g args) w) (hp : ∀ (k : Nat) (V : Value) (W : World), k < rows.length → Below w.heap.size w W → Ints W B V (rows.getD k []) → Calls Try.prog g (#[V] ++ cps) W fun e w' => e = .returned (.bool (p (rows.getD k []))) ∧ Below W.heap.size W w') :
    Calls Try.prog 101 #[v, .func (.func g) #[] cps] w fun e w' => ∃ z : Int, e = .returned (.int .i64 z) ∧ Hid (rows.any p = decide (0 ≤ z)) ∧ Below w.heap.size w w' := by
  have HP := hid hp
  clear hp
  rcases ha with ⟨rfl, ao, cap, rfl⟩ | ⟨hp, b, off, cap, V, rfl, hb, hc⟩
  · go_enter Try.func101, Try.ntmps101
    go_wp2
    refine wp_loop_rounds 1 ?_
    rw [rounds_succ]
    go_wp2
    go_ret
    exact ⟨-1, rfl, hid rfl, Below.refl _ _⟩
  · have HYes := hid (fun k h1 h2 => rany_yes p rows k h1 h2)
    have HNo := hid (rany_no p rows)
    obtain ⟨n, hnn⟩ : ∃ n, n = rows.length := ⟨_, rfl⟩
    rw [← hnn] at hp hc hn HP HYes HNo ⊢
    have HN := hid hnn
    have HC := hid hc
    clear hnn hc
    go_enter Try.func101, Try.ntmps101
    go_wp2
    go_loopw [8] (fun i wr => ∃ k : Nat, k ≤ n ∧ i = .int .i64 k ∧ (∀ j, j < k → p (rows.getD j []) = false) ∧ Below w.heap.size w wr) (fun i _ => n - (intOf i).toNat)
    case atStart => exact ⟨0, Nat.zero_le _, rfl, fun j hj => by omega, Below.refl _ _⟩
    case round =>
      obtain ⟨k, hk, rfl, hg, hbel⟩ := hrel
      have HG := hid hg
      have HB := hid hbel
      clear hg hbel
      by_cases hlt : k < n
      · have h1 : wr.cell? ⟨b, off + k, none⟩ = some (V k) := (HB.out.cell (p := ⟨b, off + k, none⟩) (by show b < _; omega)).trans (HC.out k hlt).1
        have HI := hid ((HC.out k hlt).2.chg (Chg.ofBelow (lo := 0) HB.out) (.inr (Nat.zero_le _)))
        have HPk := hid (HP.out k (V k) wr hlt HB.out HI.out)
        generalize V k = x at *
        clear HI
        go_wp2_with fail
        refine HPk.out.mono ?_
        rintro e w1 ⟨rfl, b1⟩
        have HB1 := hid (HB.out.trans (b1.mono HB.out.size))
        clear b1 HPk
        obtain ⟨q, hq⟩ : ∃ q, q = p (rows.getD k []) := ⟨_, rfl⟩
        rw [← hq]
        have HQ := hid hq
        clear hq
        cases q
        · go_wp2
          go_roundw
          case rel => exact ⟨k + 1, by omega, by go_num, fun j hj => by
            rcases Nat.lt_or_ge j k with h | h
            · exact HG.out j h
            · obtain rfl : j = k := by omega
              exact HQ.out.symm, HB1.out⟩
          case measure => simp [intOf]; omega
        · have HF := hid (HYes.out k hlt HQ.out.symm)
          go_wp2
          go_ret
          exact ⟨k, rfl, hid (by rw [HF.out]; simp), HB1.out⟩
      · obtain rfl : k = n := by omega
        have HF := hid (HNo.out HG.out)
        go_wp2
        go_ret
        exact ⟨-1, rfl, hid (by rw [HF.out]; rfl), HB.out⟩

theorem contRows (p : List Int → Bool) (g : Nat) (cps : Array Value) (rows : List (List Int)) (v : Value) (B : Nat) (w : World) (ha : ss.Rows w B v rows) (hB : B ≤ w.heap.size) (hn : rows.length ≤ 1048576)
    (eg : ∀ args w, (callFunc g args).run Try.prog w = .ok (.enter g args) w) (hp : ∀ (k : Nat) (V : Value) (W : World), k < rows.length → Below w.heap.size w W → Ints W B V (rows.getD k []) → Calls Try.prog g (#[V] ++ cps) W fun e w' => e = .returned (.bool (p (rows.getD k []))) ∧ Below W.heap.size W w') :
    Calls Try.prog 59 #[v, .func (.func g) #[] cps] w fun e w' => e = .returned (.bool (rows.any p)) ∧ Below w.heap.size w w' := by
  have H := hid (idxRows p g cps rows v B w ha hB hn eg hp)
  obtain ⟨ao, cap, rfl⟩ := rows_val ha
  clear ha hp
  generalize rows.length = n at *
  go_enter Try.func59, Try.ntmps59
  go_wp2_with fail
  refine H.out.mono ?_
  rintro e w1 ⟨z, rfl, HZ, b1⟩
  have HB := hid b1
  clear b1
  by_cases hz : 0 ≤ z
  · have HF : Hid (rows.any p = true) := hid (by rw [HZ.out]; simpa using hz)
    go_wp2
    go_ret
    exact ⟨by rw [HF.out]; rfl, HB.out⟩
  · have HF : Hid (rows.any p = false) := hid (by rw [HZ.out]; simpa using hz)
    have hz2 : decide (0 ≤ z) = false := decide_eq_false hz
    go_wp2
    go_ret
    exact ⟨by rw [HF.out]; rfl, HB.out⟩

/-- Every row is a word in as many generators as there are rows. -/
def imB (rows : List (List Int)) : Bool := rows.all (frB (rows.length : Int))
theorem im_not (rows : List (List Int)) : imB rows = !(rows.any fun r => !frB (rows.length : Int) r) := by simp [imB, List.all_eq_not_any_not]
theorem im_at {rows : List (List Int)} (h : imB rows = true) (k : Nat) (hk : k < rows.length) : frB (rows.length : Int) (rows.getD k []) = true := by
  simp only [imB, List.all_eq_true] at h
  rw [show rows.getD k [] = rows[k] from by simp [List.getD, List.getElem?_eq_getElem hk]]
  exact h _ (List.getElem_mem hk)
theorem im_bad {rows : List (List Int)} (k : Nat) (hk : k < rows.length) (h : frB (rows.length : Int) (rows.getD k []) = false) : imB rows = false := by
  rw [im_not, rany_yes _ rows k hk (by rw [h]; rfl)]; rfl
theorem im_small {rows : List (List Int)} (h : imB rows = true) : rows.length ≤ 12 := by
  by_cases h0 : rows.length = 0
  · omega
  · have := (fr_parts (im_at h 0 (by omega))).2.1
    omega
theorem im_good {rows : List (List Int)} (h : ∀ k, k < rows.length → frB (rows.length : Int) (rows.getD k []) = true) : imB rows = true := by
  rw [im_not, rany_no]; · rfl
  · intro k hk; rw [h k hk]; rfl

theorem imgC (b : Nat) (n : Int) (xs : List Int) (V : Value) (B : Nat) (W : World) (h0 : W.cell? ⟨b, 0, none⟩ = some (.int .i64 n)) (ha : Ints W B V xs) (hB : B ≤ W.heap.size) (hn : xs.length ≤ 1099511627776) :
    Calls Try.prog 60 #[V, .pointer (some ⟨b, 0, none⟩)] W fun e w' => e = .returned (.bool (!frB n xs)) ∧ Below W.heap.size W w' := by
  have HV := hid (implFree n xs V B W ha hB hn)
  obtain ⟨ao, cap, rfl⟩ := ints_val ha
  clear ha
  generalize frB n xs = q at *
  generalize xs.length = l at *
  go_enter Try.func60, Try.ntmps60
  go_wp2_with fail
  refine HV.out.mono ?_
  rintro e w1 ⟨rfl, b1⟩
  have HB := hid b1
  clear b1
  go_wp2
  go_ret
  exact ⟨rfl, HB.out⟩

theorem implImages (rows : List (List Int)) (v : Value) (B : Nat) (w : World) (ha : ss.Rows w B v rows) (hB : B ≤ w.heap.size) (hn : rows.length ≤ 1048576) (hs : Short rows 1099511627776) :
    Calls Try.prog 33 #[v] w fun e w' => e = .returned (.bool (imB rows)) ∧ Below w.heap.size w w' := by
  have eg := enters_of Try.func60 (by kernel_rfl) rfl
  have HC : Hid (Calls Try.prog 59 #[v, .func (.func 60) #[] #[.pointer (some ⟨w.heap.size, 0, none⟩)]] (w.alloc (.cells #[.int .i64 (rows.length : Int)] 2)) fun e w' => e = .returned (.bool (rows.any fun r => !frB (rows.length : Int) r)) ∧ Below (w.alloc (.cells #[.int .i64 (rows.length : Int)] 2)).heap.size (w.alloc (.cells #[.int .i64 (rows.length : Int)] 2)) w') :=
    hid (contRows (fun r => !frB (rows.length : Int) r) 60 #[.pointer (some ⟨w.heap.size, 0, none⟩)] rows v B _ (ha.al _) (by simp; omega) hn eg (fun k V W hk hb hi =>
      imgC w.heap.size (rows.length : Int) (rows.getD k []) V B W ((hb.cell (p := ⟨w.heap.size, 0, none⟩) (by simp)).trans (World.cell?_alloc_at _ _ _ _ rfl)) hi (by have := hb.size; simp at this; omega) (hs k hk)))
  have HNt := hid (im_not rows)
  obtain ⟨ao, cap, rfl⟩ := rows_val ha
  clear ha hs eg
  generalize (rows.any fun r => !frB (rows.length : Int) r) = q at *
  generalize rows.length = n at *
  go_enter Try.func33, Try.ntmps33
  go_wp2_with fail
  refine HC.out.mono ?_
  rintro e w1 ⟨rfl, b1⟩
  have HB := hid (((Below.refl w.heap.size w).alloc (Nat.le_refl _) (.cells #[.int .i64 (n : Int)] 2)).trans (b1.mono (by simp)))
  clear b1
  go_wp2
  go_ret
  exact ⟨by rw [HNt.out]; rfl, HB.out⟩

set_option maxHeartbeats 800000 in
theorem specImages (rows : List (List Int)) (v : Value) (B : Nat) (w : World) (ha : ss.Rows w B v rows) (hn : rows.length ≤ 1048576) (hs : Short rows 1099511627776) :
    Calls Try.prog 30 #[v] w fun e w' => e = .returned (.bool (imB rows)) ∧ w = w' := by
  rcases ha with ⟨rfl, ao, cap, rfl⟩ | ⟨hp, b, off, cap, V, rfl, hb, hc⟩
  · go_enter Try.func30, Try.ntmps30
    go_wp2
    refine wp_loop_rounds 1 ?_
    rw [rounds_succ]
    go_wp2
    go_ret
    exact ⟨rfl, rfl⟩
  · have HBad := hid (fun k => @im_bad rows k)
    have HGood := hid (@im_good rows)
    have HSm := hid (@im_small rows)
    obtain ⟨n, hnn⟩ : ∃ n, n = rows.length := ⟨_, rfl⟩
    rw [← hnn] at hp hc hn HBad HGood HSm ⊢
    have HN := hid hnn
    have HC := hid hc
    have HS := hid hs
    clear hnn hc hs
    go_enter Try.func30, Try.ntmps30
    go_wp2
    go_loop [4] (fun i => ∃ k : Nat, k ≤ n ∧ i = .int .i64 k ∧ ∀ j, j < k → frB (n : Int) (rows.getD j []) = true) (fun i => n - (intOf i).toNat)
    case atStart => exact ⟨0, Nat.zero_le _, rfl, fun j hj => by omega⟩
    case round =>
      obtain ⟨k, hk, rfl, hg⟩ := hrel
      have HG := hid hg
      clear hg
      by_cases hlt : k < n
      · have h1 := (HC.out k hlt).1
        have HV := hid (specFreeOk (n : Int) (rows.getD k []) (V k) B w (HC.out k hlt).2 (HS.out k (by rw [← HN.out]; exact hlt)))
        generalize V k = x at *
        obtain ⟨q, hq⟩ : ∃ q, q = frB (n : Int) (rows.getD k []) := ⟨_, rfl⟩
        rw [← hq] at HV
        have HQ := hid hq
        clear hq
        cases q
        · have HF : Hid (imB rows = false) := hid (HBad.out k hlt HQ.out.symm)
          go_wp2_with (go_at_call 31; refine HV.out.mono ?_; rintro e w' ⟨rfl, rfl⟩)
          go_ret
          exact ⟨by rw [HF.out]; rfl, rfl⟩
        · go_wp2_with (go_at_call 31; refine HV.out.mono ?_; rintro e w' ⟨rfl, rfl⟩)
          go_round
          case rel => exact ⟨k + 1, by omega, by go_num, fun j hj => by
            rcases Nat.lt_or_ge j k with h | h
            · exact HG.out j h
            · obtain rfl : j = k := by omega
              exact HQ.out.symm⟩
          case measure => simp [intOf]; omega
      · obtain rfl : k = n := by omega
        have HF : Hid (imB rows = true) := hid (HGood.out HG.out)
        have h12 := HSm.out HF.out
        have h12d : decide ((k : Int) ≤ 12) = true := by simp; omega
        go_wp2
        go_ret
        exact ⟨by rw [HF.out]; rfl, rfl⟩
end Go.Proofs.Ytfechjhngcmdpab.ai
