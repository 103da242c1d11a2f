/-
  toOpS: a copy of operations in a block of the call's own.
-/
import Derived.Test.YtaconeliiicloaaOq
namespace Go.Proofs.Ytaconeliiicloaa.os
open Go.RowKit Go.Sort Go.Proofs.Ytaconeliiicloaa.sl Go.Proofs.Ytaconeliiicloaa.vo Go.Proofs.Ytaconeliiicloaa.nd
set_option linter.unusedVariables false
set_option linter.unusedSimpArgs false

theorem infoO : (Try.prog.info? 90).map (fun i => (i.zero, i.size, i.bytes)) = some (some (.agg #[.int .i64 0, .int .i64 0, .int .i64 0, .int .i64 0, .int .i64 0, .int .i64 0, .int .i64 0, .int .i64 0]), 8, 64) := by kernel_rfl

def set8 (w : World) (g o : Nat) (x : OpV) : World :=
  (((((((w.setCell ⟨g, o, none⟩ (.int .i64 x.k)).setCell ⟨g, o + 1, none⟩ (.int .i64 x.d)).setCell ⟨g, o + 2, none⟩ (.int .i64 x.fb)).setCell ⟨g, o + 3, none⟩ (.int .i64 x.fa)).setCell ⟨g, o + 4, none⟩ (.int .i64 x.tb)).setCell ⟨g, o + 5, none⟩ (.int .i64 x.ta)).setCell ⟨g, o + 6, none⟩ (.int .i64 x.c)).setCell ⟨g, o + 7, none⟩ (.int .i64 x.r)
theorem set8_other {w : World} {g o q : Nat} {x : OpV} (h : q < o ∨ o + 8 ≤ q) : (set8 w g o x).cell? ⟨g, q, none⟩ = w.cell? ⟨g, q, none⟩ := by
  unfold set8
  iterate 8 (rw [ss.other_at (by omega)])
theorem set8_frozen (w : World) (g o : Nat) (x : OpV) (a : Addr) : (set8 w g o x).frozen? a = w.frozen? a := by
  unfold set8; simp only [World.frozen?_setCell]
theorem set8_size (w : World) (g o : Nat) (x : OpV) : (set8 w g o x).heap.size = w.heap.size := by
  unfold set8; simp
theorem set8_at {w : World} {g o : Nat} {x : OpV} (hg : g < w.heap.size) (h : ∀ i, i < 8 → ∃ u, w.cell? ⟨g, o + i, none⟩ = some u) : At (set8 w g o x) g o x := by
  obtain ⟨u0, h0⟩ := h 0 (by omega)
  obtain ⟨u1, h1⟩ := h 1 (by omega)
  obtain ⟨u2, h2⟩ := h 2 (by omega)
  obtain ⟨u3, h3⟩ := h 3 (by omega)
  obtain ⟨u4, h4⟩ := h 4 (by omega)
  obtain ⟨u5, h5⟩ := h 5 (by omega)
  obtain ⟨u6, h6⟩ := h 6 (by omega)
  obtain ⟨u7, h7⟩ := h 7 (by omega)
  rw [Nat.add_zero] at h0
  refine ⟨by rw [set8_size]; exact hg, ?_, ?_, ?_, ?_, ?_, ?_, ?_, ?_⟩ <;> unfold set8
  · iterate 7 (rw [ss.other_at (by omega)])
    exact ss.same_at h0
  · iterate 6 (rw [ss.other_at (by omega)])
    exact ss.same_at (by rw [ss.other_at (by omega)]; exact h1)
  · iterate 5 (rw [ss.other_at (by omega)])
    exact ss.same_at (by iterate 2 (rw [ss.other_at (by omega)])
                         exact h2)
  · iterate 4 (rw [ss.other_at (by omega)])
    exact ss.same_at (by iterate 3 (rw [ss.other_at (by omega)])
                         exact h3)
  · iterate 3 (rw [ss.other_at (by omega)])
    exact ss.same_at (by iterate 4 (rw [ss.other_at (by omega)])
                         exact h4)
  · iterate 2 (rw [ss.other_at (by omega)])
    exact ss.same_at (by iterate 5 (rw [ss.other_at (by omega)])
                         exact h5)
  · iterate 1 (rw [ss.other_at (by omega)])
    exact ss.same_at (by iterate 6 (rw [ss.other_at (by omega)])
                         exact h6)
  · exact ss.same_at (by iterate 7 (rw [ss.other_at (by omega)])
                         exact h7)
theorem At.set8 {w : World} {g o q : Nat} {x y : OpV} (h : At w g q y) (hq : q + 8 ≤ o ∨ o + 8 ≤ q) : At (os.set8 w g o x) g q y := by
  refine ⟨by rw [set8_size]; exact h.lt, ?_, ?_, ?_, ?_, ?_, ?_, ?_, ?_⟩ <;> rw [set8_other (by omega)]
  · exact h.c0
  · exact h.c1
  · exact h.c2
  · exact h.c3
  · exact h.c4
  · exact h.c5
  · exact h.c6
  · exact h.c7
theorem set8_below {w0 w : World} {B g o : Nat} {x : OpV} (h : Below B w0 w) (hg : B ≤ g) : Below B w0 (set8 w g o x) := by
  unfold set8
  iterate 8 (refine Below.setCell ?_ (by exact hg) _)
  exact h

/-- So many operations are copied. -/
structure Prt (g n k : Nat) (xs : List OpV) (wr : World) : Prop where
  gsz : g < wr.heap.size
  fr : ∀ o, o < n * 8 → wr.frozen? ⟨g, o, none⟩ = false ∧ ∃ u, wr.cell? ⟨g, o, none⟩ = some u
  row : ∀ j, j < k → At wr g (0 + j * 8) (xs.getD j oz)
theorem Prt.below {g n k : Nat} {xs : List OpV} {wr w1 : World} (p : Prt g n k xs wr) (b : Below wr.heap.size wr w1) : Prt g n k xs w1 :=
  ⟨Nat.lt_of_lt_of_le p.gsz b.size, fun o ho => ⟨(b.frozen (p := ⟨g, o, none⟩) p.gsz).trans (p.fr o ho).1, by obtain ⟨u, hu⟩ := (p.fr o ho).2; exact ⟨u, (b.cell (p := ⟨g, o, none⟩) p.gsz).trans hu⟩⟩, fun j hj => (p.row j hj).below b⟩
theorem Prt.step {g n k : Nat} {xs : List OpV} {w1 : World} (p : Prt g n k xs w1) (hk : k < n) : Prt g n (k + 1) xs (set8 w1 g (k * 8) (xs.getD k oz)) := by
  refine ⟨by rw [set8_size]; exact p.gsz, fun o ho => ⟨by rw [set8_frozen]; exact (p.fr o ho).1, ?_⟩, fun j hj => ?_⟩
  · by_cases h : o < k * 8 ∨ k * 8 + 8 ≤ o
    · rw [set8_other h]; exact (p.fr o ho).2
    · have A := set8_at (x := xs.getD k oz) p.gsz (o := k * 8) (fun i hi => (p.fr _ (by omega)).2)
      obtain ⟨i, hi⟩ : ∃ i, o = k * 8 + i := ⟨o - k * 8, by omega⟩
      subst hi
      have hi8 : i < 8 := by omega
      match i, hi8 with
      | 0, _ => exact ⟨_, A.c0⟩
      | 1, _ => exact ⟨_, A.c1⟩
      | 2, _ => exact ⟨_, A.c2⟩
      | 3, _ => exact ⟨_, A.c3⟩
      | 4, _ => exact ⟨_, A.c4⟩
      | 5, _ => exact ⟨_, A.c5⟩
      | 6, _ => exact ⟨_, A.c6⟩
      | 7, _ => exact ⟨_, A.c7⟩
  · by_cases e : j = k
    · subst e
      rw [Nat.zero_add]
      exact set8_at p.gsz (fun i hi => (p.fr _ (by omega)).2)
    · exact (p.row j (by omega)).set8 (by omega)
theorem Prt.done {lo g n : Nat} {xs : List OpV} {wr : World} (p : Prt g n n xs wr) (hlo : lo ≤ g) (hn : n = xs.length) (hp : 0 < n) (cap : Nat) : OOwn wr lo wr.heap.size (.slice (some ⟨g, 0, none⟩) n cap) xs := by
  subst hn
  exact ⟨Nat.le_refl _, .inr ⟨hp, g, cap, rfl, hlo, p.gsz, fun o ho => (p.fr o ho).1, p.row⟩⟩

set_option maxRecDepth 100000 in
set_option maxHeartbeats 2000000 in
theorem toOS (xs : List OpV) (v : Value) (B : Nat) (w : World) (ha : Ops w B v xs) (hB : B ≤ w.heap.size) (hq : Small xs) :
    Calls Try.prog 25 #[v] w fun e w' => ∃ v', e = .returned v' ∧ OOwn w' w.heap.size w'.heap.size v' xs ∧ Below w.heap.size w w' := by
  obtain ⟨i0, hi, hz0, hz1, hz2⟩ := info_parts infoO
  have hn := hq.len
  clear hq
  rcases ha with ⟨rfl, ao, cap, rfl, hao⟩ | ⟨hp, b, off, cap, rfl, hb, hc⟩
  · go_enter Try.func25, Try.ntmps25
    go_wp2_with (at_make; refine wpList_make_full _ rfl (.tmp 6) (.tmp 6) 38 rfl w.heap.size 90 i0 _ 8 Try.underlying38 hi hz0 hz1 .i64 .i64 _ _ 0 rfl rfl (by rfl) (by rfl) (by omega) (by unfold maxLen; omega) (Nat.le_refl _) ?_; intro w1 hown1 hgrow1)
    refine wp_loop_rounds 1 ?_
    rw [rounds_succ]
    go_wp2
    go_ret
    exact ⟨_, rfl, ⟨Nat.le_refl _, .inl ⟨rfl, _, _, rfl, fun h => by cases h⟩⟩, (Below.refl _ _).grown hgrow1 (Nat.le_refl _) (fun k hk => by cases hk)⟩
  · obtain ⟨n, hnn⟩ : ∃ n, n = xs.length := ⟨_, rfl⟩
    rw [← hnn] at hp hc hn ⊢
    have HN := hid hnn
    have HC := hid hc
    clear hnn hc
    go_enter Try.func25, Try.ntmps25
    go_wp2_with (at_make; refine wpList_make_full _ rfl (.tmp 6) (.tmp 6) 38 rfl w.heap.size 90 i0 _ 8 Try.underlying38 hi hz0 hz1 .i64 .i64 _ _ n rfl rfl (by omega) (by omega) (by rw [hz2]; omega) (by unfold maxLen; omega) (Nat.le_refl _) ?_; intro w1 hown1 hgrow1)
    have HP0 : Hid (Prt w.heap.size n 0 xs w1) := hid ⟨(hown1.lt _ rfl).2, fun o ho => ⟨hown1.frozenAt o, by
      have hx := hown1.cellAt o ho
      have hl : (madeCells (Value.agg #[.int .i64 0, .int .i64 0, .int .i64 0, .int .i64 0, .int .i64 0, .int .i64 0, .int .i64 0, .int .i64 0]).cells (n * 8)).toList.length = n * 8 := hown1.1
      rw [hx]
      exact ⟨_, List.getElem?_eq_getElem (by rw [hl]; exact ho)⟩⟩, fun j hj => by omega⟩
    have HB1 := hid ((Below.refl w.heap.size w).grown hgrow1 (Nat.le_refl _) (fun k hk => by cases hk))
    clear hown1 hgrow1
    go_loopw [4] (fun i wr => ∃ k : Nat, k ≤ n ∧ i = .int .i64 k ∧ Prt w.heap.size n k xs wr ∧ Below w.heap.size w wr) (fun i _ => n - (intOf i).toNat)
    case atStart => exact ⟨0, Nat.zero_le _, rfl, HP0.out, HB1.out⟩
    case round =>
      obtain ⟨k, hk, rfl, hpr, hbel⟩ := hrel
      have HPr := hid hpr
      have HBel := hid hbel
      clear hbel
      by_cases hlt : k < n
      · have HA := (HC.out k hlt).below HBel.out
        have HT := hid (fun W => toO (xs.getD k oz).k (xs.getD k oz).d (xs.getD k oz).fb (xs.getD k oz).fa (xs.getD k oz).tb (xs.getD k oz).ta (xs.getD k oz).c (xs.getD k oz).r W)
        have HS := hid (fun W (p : Prt w.heap.size n k xs W) => p.step hlt)
        clear hpr
        generalize xs.getD k oz = x at *
        obtain ⟨x0, x1, x2, x3, x4, x5, x6, x7⟩ := x
        simp only at HT
        have c0 := HA.c0
        have c1 := HA.c1
        have c2 := HA.c2
        have c3 := HA.c3
        have c4 := HA.c4
        have c5 := HA.c5
        have c6 := HA.c6
        have c7 := HA.c7
        simp only at c0 c1 c2 c3 c4 c5 c6 c7
        clear HA
        go_wp2_with fail
        refine (HT.out _).mono ?_
        rintro e w2 ⟨rfl, b2⟩
        clear c0 c1 c2 c3 c4 c5 c6 c7
        have HP2 := hid (HPr.out.below b2)
        have HB2 := hid (HBel.out.trans (b2.mono HBel.out.size))
        clear b2 HPr HBel
        have HP3 := hid (HS.out w2 HP2.out)
        have HB3 := hid (set8_below (g := w.heap.size) (o := k * 8) (x := ⟨x0, x1, x2, x3, x4, x5, x6, x7⟩) HB2.out (Nat.le_refl _))
        obtain ⟨f0, u0, h0⟩ := HP2.out.fr (k * 8) (by omega)
        obtain ⟨f1, u1, h1⟩ := HP2.out.fr (k * 8 + 1) (by omega)
        obtain ⟨f2, u2, h2⟩ := HP2.out.fr (k * 8 + 2) (by omega)
        obtain ⟨f3, u3, h3⟩ := HP2.out.fr (k * 8 + 3) (by omega)
        obtain ⟨f4, u4', h4⟩ := HP2.out.fr (k * 8 + 4) (by omega)
        obtain ⟨f5, u5', h5⟩ := HP2.out.fr (k * 8 + 5) (by omega)
        obtain ⟨f6, u6', h6⟩ := HP2.out.fr (k * 8 + 6) (by omega)
        obtain ⟨f7, u7', h7⟩ := HP2.out.fr (k * 8 + 7) (by omega)
        go_wp2
        clear f0 f1 f2 f3 f4 f5 f6 f7 h0 h1 h2 h3 h4 h5 h6 h7
        go_roundw
        case rel => exact ⟨k + 1, by omega, by go_num, HP3.out, HB3.out⟩
        case measure => simp [intOf]; omega
      · obtain rfl : k = n := by omega
        have HD := hid (hpr.done (Nat.le_refl _) HN.out hp k)
        clear hpr
        go_wp2
        go_ret
        exact ⟨_, rfl, HD.out, HBel.out⟩
end Go.Proofs.Ytaconeliiicloaa.os
