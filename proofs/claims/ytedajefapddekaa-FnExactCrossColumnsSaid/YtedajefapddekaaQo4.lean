/-
  markOpS, heldOpS.
-/
import Derived.Test.YtedajefapddekaaQo3
namespace Go.Proofs.Ytedajefapddekaa.qo
open Go.RowKit Go.Sort Go.Proofs.Ytedajefapddekaa.sl
set_option linter.unusedVariables false
set_option linter.unusedSimpArgs false

/-- The cells of a block are there and may be written. -/
def Wr (w : World) (g m : Nat) : Prop := g < w.heap.size ∧ ∀ o, o < m → w.frozen? ⟨g, o, none⟩ = false ∧ ∃ u, w.cell? ⟨g, o, none⟩ = some u
theorem Wr.set {w : World} {g m : Nat} (h : Wr w g m) (i : Nat) (v : Value) (hi : i < m) : Wr (w.setCell ⟨g, i, none⟩ v) g m := by
  refine ⟨by simpa using h.1, fun o ho => ⟨by rw [World.frozen?_setCell]; exact (h.2 o ho).1, ?_⟩⟩
  obtain ⟨u, hu⟩ := (h.2 o ho).2
  by_cases e : o = i
  · subst e; exact ⟨v, ss.same_at hu⟩
  · exact ⟨u, by rw [ss.other_at e]; exact hu⟩
theorem Wr.below {w w' : World} {g m : Nat} (h : Wr w g m) (b : Below w.heap.size w w') : Wr w' g m :=
  ⟨Nat.lt_of_lt_of_le h.1 b.size, fun o ho => ⟨(b.frozen (p := ⟨g, o, none⟩) h.1).trans (h.2 o ho).1, by obtain ⟨u, hu⟩ := (h.2 o ho).2; exact ⟨u, (b.cell (p := ⟨g, o, none⟩) h.1).trans hu⟩⟩⟩
theorem chg_set {lo hi g i : Nat} {w w' : World} (h : Chg lo hi w w') (v : Value) (h1 : lo ≤ g) (h2 : g < hi) : Chg lo hi w (w'.setCell ⟨g, i, none⟩ v) := by
  have hb := (Below.refl g w').setCell (p := ⟨g, i, none⟩) (Nat.le_refl _) v
  refine ⟨hb.os.trans h.os, hb.tape.trans h.tape, hb.output.trans h.output, Nat.le_trans h.size hb.size, fun k hk hk' => ?_⟩
  rw [← h.block k hk hk']
  exact Below.heap_setCell w' ⟨g, i, none⟩ v k (by show k ≠ g; omega)

/-- What is written into the element j. -/
def mkO (k0 : Int) (j : Nat) : V := ⟨k0 + 8 * (j : Int), k0 + 8 * (j : Int) + 1, k0 + 8 * (j : Int) + 2, k0 + 8 * (j : Int) + 3, k0 + 8 * (j : Int) + 4, k0 + 8 * (j : Int) + 5, k0 + 8 * (j : Int) + 6, k0 + 8 * (j : Int) + 7⟩
def marksO (k0 : Int) (n : Nat) : List V := (List.range n).map (mkO k0)
theorem marksO_len (k0 : Int) (n : Nat) : (marksO k0 n).length = n := by simp [marksO]
theorem marksO_at (k0 : Int) (n j : Nat) (h : j < n) : (marksO k0 n).getD j oz = mkO k0 j := by simp [marksO, List.getD, h]
theorem mark_step {w : World} {g n k : Nat} {k0 : Int} (hw : Wr w g (n * 8)) (ha : ∀ j, j < k → At w g (0 + j * 8) (mkO k0 j)) (hk : k < n) (y0 y1 y2 y3 y4 y5 y6 y7 : Int)
    (hy : y0 = k0 + 8 * (k : Int) ∧ y1 = k0 + 8 * (k : Int) + 1 ∧ y2 = k0 + 8 * (k : Int) + 2 ∧ y3 = k0 + 8 * (k : Int) + 3 ∧ y4 = k0 + 8 * (k : Int) + 4 ∧ y5 = k0 + 8 * (k : Int) + 5 ∧ y6 = k0 + 8 * (k : Int) + 6 ∧ y7 = k0 + 8 * (k : Int) + 7) :
    ∀ j, j < k + 1 → At (((((((((w.setCell ⟨g, k * 8, none⟩ (.int .i64 y0)).setCell ⟨g, k * 8 + 1, none⟩ (.int .i64 y1)).setCell ⟨g, k * 8 + 2, none⟩ (.int .i64 y2)).setCell ⟨g, k * 8 + 3, none⟩ (.int .i64 y3)).setCell ⟨g, k * 8 + 4, none⟩ (.int .i64 y4)).setCell ⟨g, k * 8 + 5, none⟩ (.int .i64 y5)).setCell ⟨g, k * 8 + 6, none⟩ (.int .i64 y6)).setCell ⟨g, k * 8 + 7, none⟩ (.int .i64 y7))) g (0 + j * 8) (mkO k0 j) := by
  obtain ⟨rfl, rfl, rfl, rfl, rfl, rfl, rfl, rfl⟩ := hy
  intro j hj
  show At (setN w g (k * 8) (mkO k0 k)) g (0 + j * 8) (mkO k0 j)
  by_cases e : j = k
  · subst e
    rw [Nat.zero_add]
    exact setN_at hw.1 (fun i hi => (hw.2 _ (by omega)).2)
  · exact (ha j (by omega)).setN (by omega)
theorem OOwn.wr {w : World} {lo hi g cap : Nat} {n : Nat} {xs : List V} (o : OOwn w lo hi (.slice (some ⟨g, 0, none⟩) n cap) xs) (hp : 0 < xs.length) : lo ≤ g ∧ g < hi ∧ Wr w g (xs.length * 8) ∧ ∀ j, j < xs.length → At w g (0 + j * 8) (xs.getD j oz) := by
  obtain ⟨hh, hr⟩ := o
  rcases hr with ⟨rfl, _⟩ | ⟨_, g', cap', hv, h1, h2, h3, h4⟩
  · simp at hp
  · simp only [Value.slice.injEq, Option.some.injEq, Addr.mk.injEq] at hv
    obtain ⟨⟨rfl, _⟩, _⟩ := hv
    refine ⟨h1, h2, ⟨by omega, fun o ho => ⟨h3 o ho, ?_⟩⟩, h4⟩
    have A := h4 (o / 8) (by omega)
    have := A.cellOf (o % 8) (Nat.mod_lt _ (by omega))
    exact ⟨_, by rw [← this]; congr 2; omega⟩
theorem OOwn.ofWr {w : World} {lo g cap : Nat} {xs : List V} (hp : 0 < xs.length) (h1 : lo ≤ g) (hw : Wr w g (xs.length * 8)) (ha : ∀ j, j < xs.length → At w g (0 + j * 8) (xs.getD j oz)) : OOwn w lo w.heap.size (.slice (some ⟨g, 0, none⟩) xs.length cap) xs :=
  ⟨Nat.le_refl _, .inr ⟨hp, g, cap, rfl, h1, hw.1, fun o ho => (hw.2 o ho).1, ha⟩⟩
theorem oown_slice {w : World} {lo hi : Nat} {v : Value} {xs : List V} (o : OOwn w lo hi v xs) (hp : 0 < xs.length) : ∃ g cap, v = .slice (some ⟨g, 0, none⟩) xs.length cap := by
  rcases o.2 with ⟨rfl, _⟩ | ⟨_, g, cap, hv, _⟩
  · simp at hp
  · exact ⟨g, cap, hv⟩

set_option maxRecDepth 100000 in
set_option maxHeartbeats 800000 in
theorem markOS (xs : List V) (v : Value) (lo hi : Nat) (k0 : Int) (w : World) (ho : OOwn w lo hi v xs) (hq : Small xs) (hk0 : 0 ≤ k0) (hk1 : k0 ≤ 1099511627776) :
    Calls Try.prog 18 #[v, .int .i64 k0] w fun e w' => e = .returned (.int .i64 (k0 + ((8 * xs.length : Nat) : Int))) ∧ OOwn w' lo hi v (marksO k0 xs.length) ∧ Chg lo hi w w' := by
  have hn := hq.len
  clear hq
  obtain ⟨hh, hr⟩ := ho
  rcases hr with ⟨rfl, ao, cap, rfl, hao⟩ | ⟨hp, g, cap, rfl, h1, h2, h3, h4⟩
  · go_enter Try.func18, Try.ntmps18
    go_wp2
    refine wp_loop_rounds 1 ?_
    rw [rounds_succ]
    go_wp2
    go_ret
    exact ⟨by simp, ⟨hh, .inl ⟨rfl, _, _, rfl, hao⟩⟩, ⟨rfl, rfl, rfl, Nat.le_refl _, fun _ _ _ => rfl⟩⟩
  · have HW : Hid (Wr w g (xs.length * 8)) := hid ⟨by omega, fun o ho => ⟨h3 o ho, by
      have A := (h4 (o / 8) (by omega)).cellOf (o % 8) (Nat.mod_lt _ (by omega))
      exact ⟨_, by rw [← A]; congr 2; omega⟩⟩⟩
    have HC0 : Hid (Chg lo hi w w) := hid ⟨rfl, rfl, rfl, Nat.le_refl _, fun _ _ _ => rfl⟩
    clear h3 h4
    have HH := hid hh
    clear hh
    generalize xs.length = n at *
    go_enter Try.func18, Try.ntmps18
    go_wp2
    go_loopw [1, 5] (fun q i wr => ∃ k : Nat, k ≤ n ∧ i = .int .i64 k ∧ q = .int .i64 (k0 + 8 * (k : Int)) ∧ (∀ j, j < k → At wr g (0 + j * 8) (mkO k0 j)) ∧ Wr wr g (n * 8) ∧ Chg lo hi w wr) (fun _ i _ => n - (intOf i).toNat)
    case atStart => exact ⟨0, Nat.zero_le _, rfl, by simp, fun j hj => by omega, HW.out, HC0.out⟩
    case round =>
      obtain ⟨k, hk, rfl, rfl, ha1, hw1, hc1⟩ := hrel
      have HAt := hid ha1
      clear ha1
      have HCw := hid hc1
      have HWw := hid hw1
      clear hw1 hc1 HW HC0
      by_cases hlt : k < n
      · obtain ⟨y, hy⟩ : ∃ y, y = k0 + 8 * (k : Int) := ⟨_, rfl⟩
        have hyb : 0 ≤ y ∧ y ≤ 1100000000000 := by omega
        have HY : Hid (k0 + 8 * ((k + 1 : Nat) : Int) = y + 8) := hid (by omega)
        have HYY := hid hy
        rw [← hy]
        clear hy
        obtain ⟨f0, u0, z0⟩ := HWw.out.2 (k * 8) (by omega)
        obtain ⟨f1, u1, z1⟩ := HWw.out.2 (k * 8 + 1) (by omega)
        obtain ⟨f2, u2, z2⟩ := HWw.out.2 (k * 8 + 2) (by omega)
        obtain ⟨f3, u3, z3⟩ := HWw.out.2 (k * 8 + 3) (by omega)
        obtain ⟨f4, u4, z4⟩ := HWw.out.2 (k * 8 + 4) (by omega)
        obtain ⟨f5, u5, z5⟩ := HWw.out.2 (k * 8 + 5) (by omega)
        obtain ⟨f6, u6, z6⟩ := HWw.out.2 (k * 8 + 6) (by omega)
        obtain ⟨f7, u7, z7⟩ := HWw.out.2 (k * 8 + 7) (by omega)
        go_wp2
        clear f0 z0 f1 z1 f2 z2 f3 z3 f4 z4 f5 z5 f6 z6 f7 z7
        go_roundw
        case rel =>
          refine ⟨k + 1, by omega, by go_num, by rw [HY.out]; go_num, ?_, ?_, ?_⟩
          · exact mark_step HWw.out HAt.out hlt _ _ _ _ _ _ _ _ (by have := HYY.out; omega)
          · exact ((((((((HWw.out.set (k * 8) _ (by omega)).set (k * 8 + 1) _ (by omega)).set (k * 8 + 2) _ (by omega)).set (k * 8 + 3) _ (by omega)).set (k * 8 + 4) _ (by omega)).set (k * 8 + 5) _ (by omega)).set (k * 8 + 6) _ (by omega)).set (k * 8 + 7) _ (by omega))
          · exact (chg_set (chg_set (chg_set (chg_set (chg_set (chg_set (chg_set (chg_set HCw.out _ h1 h2) _ h1 h2) _ h1 h2) _ h1 h2) _ h1 h2) _ h1 h2) _ h1 h2) _ h1 h2)
        case measure => simp [intOf]; omega
      · obtain rfl : k = n := by omega
        go_wp2
        go_ret
        exact ⟨by simp, ⟨Nat.le_trans HH.out HCw.out.size, .inr ⟨by rw [marksO_len]; exact hp, g, cap, by rw [marksO_len], h1, h2, fun o ho => (HWw.out.2 o (by rw [marksO_len] at ho; exact ho)).1, fun j hj => by rw [marksO_len] at hj; rw [marksO_at _ _ _ hj]; exact HAt.out j hj⟩⟩, HCw.out⟩

set_option maxRecDepth 100000 in
set_option maxHeartbeats 800000 in
theorem heldOS (n : Nat) (v : Value) (B : Nat) (k0 : Int) (w : World) (ha : Ops w B v (marksO k0 n)) (hn : n ≤ 1048576) (hk0 : 0 ≤ k0) (hk1 : k0 ≤ 1099511627776) :
    Calls Try.prog 19 #[v, .int .i64 k0] w fun e w' => e = .returned (.int .i64 (k0 + ((8 * n : Nat) : Int))) ∧ w = w' := by
  by_cases h0 : n = 0
  · subst h0
    obtain ⟨ao, cap, rfl⟩ := ops_val ha
    rw [marksO_len]
    clear ha
    go_enter Try.func19, Try.ntmps19
    go_wp2
    refine wp_loop_rounds 1 ?_
    rw [rounds_succ]
    go_wp2
    go_ret
    exact ⟨by simp, rfl⟩
  · rcases ha with ⟨h, _⟩ | ⟨hp, b, off, cap, rfl, hb, hc⟩
    · exact absurd (by rw [← marksO_len k0 n, h]; rfl) h0
    rw [marksO_len] at hp hc ⊢
    have HC : Hid (∀ j, j < n → At w b (off + j * 8) (mkO k0 j)) := hid (fun j hj => by rw [← marksO_at k0 n j hj]; exact hc j hj)
    clear hc h0
    go_enter Try.func19, Try.ntmps19
    go_wp2
    go_loop [1, 5] (fun q i => ∃ k : Nat, k ≤ n ∧ i = .int .i64 k ∧ q = .int .i64 (k0 + 8 * (k : Int))) (fun _ i => n - (intOf i).toNat)
    case atStart => exact ⟨0, Nat.zero_le _, rfl, by simp⟩
    case round =>
      obtain ⟨k, hk, rfl, rfl⟩ := hrel
      by_cases hlt : k < n
      · have HA := HC.out k hlt
        unfold mkO at HA
        obtain ⟨y, hy⟩ : ∃ y, y = k0 + 8 * (k : Int) := ⟨_, rfl⟩
        have hyb : 0 ≤ y ∧ y ≤ 1100000000000 := by omega
        have HY : Hid (k0 + 8 * ((k + 1 : Nat) : Int) = y + 8) := hid (by omega)
        rw [← hy] at HA ⊢
        clear hy
        have c0 := HA.c0
        have c1 := HA.c1
        have c2 := HA.c2
        have c3 := HA.c3
        have c4 := HA.c4
        have c5 := HA.c5
        have c6 := HA.c6
        have c7 := HA.c7
        simp only at c0 c1 c2 c3 c4 c5 c6 c7
        clear HA
        go_wp2
        go_round
        case rel => exact ⟨k + 1, by omega, by go_num, by rw [HY.out]; go_num⟩
        case measure => simp [intOf]; omega
      · obtain rfl : k = n := by omega
        go_wp2
        go_ret
        exact ⟨by simp, rfl⟩
end Go.Proofs.Ytedajefapddekaa.qo
