/-
  markMachine: writes into a machine of the call's own.
-/
import Derived.Test.YtlhpipcmebmpdabMc2
namespace Go.Proofs.Ytlhpipcmebmpdab.mc
open Go.RowKit Go.Sort Go.Proofs.Ytlhpipcmebmpdab.sl Go.Proofs.Ytlhpipcmebmpdab.br
set_option linter.unusedVariables false
set_option linter.unusedSimpArgs false

/-- What a law that marks a machine knows of its sizes. -/
structure MTot (m : Mch) : Prop where
  t0 : ss.tot m.fr ≤ 1048576
  t1 : ss.tot m.bk ≤ 1048576
  t3 : ss.tot (nf.prs m.ls) ≤ 1048576
theorem tot_of {left : Int} {m : Mch} (h0 : 0 ≤ left) (h1 : left ≤ 1048576) (h : 0 ≤ szV left m) : MTot m := by
  obtain ⟨_, a, b, c, d, a0, a1, b0, b1, c0, c1, d0, d1, e0, e1, e2, e3, e4⟩ := szV_parts h0 h
  exact ⟨ss.tot_le h0 h1 e0, ss.tot_le a0 (by omega) e1, ss.tot_le c0 (by omega) e3⟩

/-- A machine's box, its lists alone. -/
structure BxC (W : World) (p : Nat) (f0 f1 f2 f3 f4 : Value) : Prop where
  lt : p < W.heap.size
  c2 : W.cell? ⟨p, 2, none⟩ = some f0
  c3 : W.cell? ⟨p, 3, none⟩ = some f1
  c4 : W.cell? ⟨p, 4, none⟩ = some f2
  c5 : W.cell? ⟨p, 5, none⟩ = some f3
  c6 : W.cell? ⟨p, 6, none⟩ = some f4
theorem BxC.chg {W W' : World} {p lo hi : Nat} {f0 f1 f2 f3 f4 : Value} (h : BxC W p f0 f1 f2 f3 f4) (c : Chg lo hi W W') (hp : p < lo ∨ hi ≤ p) : BxC W' p f0 f1 f2 f3 f4 := by
  have e : ∀ i, W'.cell? ⟨p, i, none⟩ = W.cell? ⟨p, i, none⟩ := fun i => World.cell?_of_block (w := W) (w' := W') (a := ⟨p, i, none⟩) (c.block p h.lt (by omega))
  exact ⟨Nat.lt_of_lt_of_le h.lt c.size, (e _).trans h.c2, (e _).trans h.c3, (e _).trans h.c4, (e _).trans h.c5, (e _).trans h.c6⟩
theorem bxc_new (w : World) (T : TypeId) (a b : Int) (f0 f1 f2 f3 f4 : Value) : BxC (w.alloc (.cells #[.int .i64 a, .int .i64 b, f0, f1, f2, f3, f4] T)) w.heap.size f0 f1 f2 f3 f4 :=
  ⟨by simp, World.cell?_alloc_at _ _ _ _ rfl, World.cell?_alloc_at _ _ _ _ rfl, World.cell?_alloc_at _ _ _ _ rfl, World.cell?_alloc_at _ _ _ _ rfl, World.cell?_alloc_at _ _ _ _ rfl⟩

/-- The cells of a block are there and may be written. -/
def WrM (w : World) (g m : Nat) : Prop := g < w.heap.size ∧ ∀ o, o < m → w.frozen? ⟨g, o, none⟩ = false ∧ ∃ u, w.cell? ⟨g, o, none⟩ = some u
theorem WrM.set {w : World} {g m : Nat} (h : WrM w g m) (i : Nat) (v : Value) (hi : i < m) : WrM (w.setCell ⟨g, i, none⟩ v) g m := by
  refine ⟨by simpa using h.1, fun o ho => ⟨by rw [World.frozen?_setCell]; exact (h.2 o ho).1, ?_⟩⟩
  obtain ⟨u, hu⟩ := (h.2 o ho).2
  by_cases e : o = i
  · subst e; exact ⟨v, ss.same_at hu⟩
  · exact ⟨u, by rw [ss.other_at e]; exact hu⟩
theorem WrM.blk {w w' : World} {g m : Nat} (h : WrM w g m) (hs : w.heap.size ≤ w'.heap.size) (hb : w'.heap[g]? = w.heap[g]?) : WrM w' g m := by
  refine ⟨Nat.lt_of_lt_of_le h.1 hs, fun o ho => ⟨?_, ?_⟩⟩
  · rw [World.frozen?_of_block (w := w) (w' := w') (a := ⟨g, o, none⟩) hb]; exact (h.2 o ho).1
  · rw [World.cell?_of_block (w := w) (w' := w') (a := ⟨g, o, none⟩) hb]; exact (h.2 o ho).2
theorem chg_setM {lo hi g i : Nat} {w w' : World} (h : Chg lo hi w w') (v : Value) (h1 : lo ≤ g) (h2 : g < hi) : Chg lo hi w (w'.setCell ⟨g, i, none⟩ v) := by
  have hb := (Below.refl g w').setCell (p := ⟨g, i, none⟩) (Nat.le_refl _) v
  refine ⟨hb.os.trans h.os, hb.tape.trans h.tape, hb.output.trans h.output, Nat.le_trans h.size hb.size, fun k hk hk' => ?_⟩
  rw [← h.block k hk hk']
  exact Below.heap_setCell w' ⟨g, i, none⟩ v k (by show k ≠ g; omega)

set_option maxRecDepth 100000 in
set_option maxHeartbeats 1600000 in
theorem markCS (xs : List ca.V) (v : Value) (lo hi : Nat) (k0 : Int) (w : World) (ho : ca.OOwn w lo hi v xs) (hn : xs.length ≤ 1048576) (hk0 : 0 ≤ k0) (hk1 : k0 ≤ 1099511627776) :
    Calls Try.prog 49 #[v, .int .i64 k0] w fun e w' => e = .returned (.int .i64 (k0 + ((2 * xs.length : Nat) : Int))) ∧ Chg lo hi w w' := by
  obtain ⟨hh, hr⟩ := ho
  rcases hr with ⟨rfl, ao, cap, rfl, hao⟩ | ⟨hp, g, cap, rfl, h1, h2, h3, h4⟩
  · go_enter Try.func49, Try.ntmps49
    go_wp2
    refine wp_loop_rounds 1 ?_
    rw [rounds_succ]
    go_wp2
    go_ret
    exact ⟨by simp, ⟨rfl, rfl, rfl, Nat.le_refl _, fun _ _ _ => rfl⟩⟩
  · have HW : Hid (WrM w g (xs.length * 2)) := hid ⟨by omega, fun o ho => ⟨h3 o ho, by
      have A := h4 (o / 2) (by omega)
      have hi8 : o % 2 < 2 := Nat.mod_lt _ (by omega)
      have e : o = 0 + o / 2 * 2 + o % 2 := by omega
      rw [e]
      generalize o % 2 = i at hi8
      match i, hi8 with
      | 0, _ => exact ⟨_, A.c0⟩
      | 1, _ => exact ⟨_, A.c1⟩⟩⟩
    have HC0 : Hid (Chg lo hi w w) := hid ⟨rfl, rfl, rfl, Nat.le_refl _, fun _ _ _ => rfl⟩
    clear h3 h4
    have HH := hid hh
    clear hh
    generalize xs.length = n at *
    go_enter Try.func49, Try.ntmps49
    go_wp2
    go_loopw [1, 5] (fun q i wr => ∃ k : Nat, k ≤ n ∧ i = .int .i64 k ∧ q = .int .i64 (k0 + 2 * (k : Int)) ∧ WrM wr g (n * 2) ∧ Chg lo hi w wr) (fun _ i _ => n - (intOf i).toNat)
    case atStart => exact ⟨0, Nat.zero_le _, rfl, by simp, HW.out, HC0.out⟩
    case round =>
      obtain ⟨k, hk, rfl, rfl, hw1, hc1⟩ := hrel
      have HCw := hid hc1
      have HWw := hid hw1
      clear hw1 hc1 HW HC0
      by_cases hlt : k < n
      · obtain ⟨y, hy⟩ : ∃ y, y = k0 + 2 * (k : Int) := ⟨_, rfl⟩
        have hyb : 0 ≤ y ∧ y ≤ 1100000000000 := by omega
        have HY : Hid (k0 + 2 * ((k + 1 : Nat) : Int) = y + 2) := hid (by omega)
        rw [← hy]
        clear hy
        obtain ⟨f0, u0, z0⟩ := HWw.out.2 (k * 2) (by omega)
        obtain ⟨f1, u1, z1⟩ := HWw.out.2 (k * 2 + 1) (by omega)
        go_wp2
        all_goals
          clear f0 f1 z0 z1
          go_roundw
          case rel =>
            refine ⟨k + 1, by omega, by go_num, by rw [HY.out]; go_num, ?_, ?_⟩
            · exact (HWw.out.set (k * 2) _ (by omega)).set (k * 2 + 1) _ (by omega)
            · exact chg_setM (chg_setM HCw.out _ h1 h2) _ h1 h2
          case measure => simp [intOf]; omega
      · obtain rfl : k = n := by omega
        go_wp2
        go_ret
        exact ⟨by simp, HCw.out⟩

/-- So much a law counts in the first k descriptions. -/
def preI (xs : List nf.V) (k : Nat) : Nat := 5 * k + ss.pre (nf.prs xs) k
set_option maxRecDepth 100000 in
set_option maxHeartbeats 3200000 in
theorem markIS (xs : List nf.V) (v : Value) (lo hi : Nat) (k0 : Int) (w : World) (ho : nf.IOwn w lo hi v xs) (hq : nf.Small xs) (ht : ss.tot (nf.prs xs) ≤ 1048576) (hk0 : 0 ≤ k0) (hk1 : k0 ≤ 1000000000000) :
    Calls Try.prog 50 #[v, .int .i64 k0] w fun e w' => e = .returned (.int .i64 (k0 + (preI xs xs.length : Int))) ∧ Chg lo hi w w' := by
  have hn := hq.len
  have hs := hq.short
  clear hq
  obtain ⟨hh, hr⟩ := ho
  rcases hr with ⟨rfl, ao, cap, rfl⟩ | ⟨hp, g, cap, F, Lo, Hi, rfl, h1, h2, h3, h4⟩
  · have HF : Hid (k0 + (preI ([] : List nf.V) 0 : Int) = k0) := hid (by simp [preI, ss.pre, nf.prs, ss.lens])
    go_enter Try.func50, Try.ntmps50
    go_wp2
    refine wp_loop_rounds 1 ?_
    rw [rounds_succ]
    go_wp2
    go_ret
    exact ⟨(by rw [HF.out]; rfl : _ = Ending.returned (.int .i64 (k0 + (preI ([] : List nf.V) 0 : Int)))), ⟨rfl, rfl, rfl, Nat.le_refl _, fun _ _ _ => rfl⟩⟩
  · have HW : Hid (WrM w g (xs.length * 6)) := hid ⟨by omega, fun o ho => ⟨h3 o ho, by
      have A := (h4 (o / 6) (by omega)).1
      have hi8 : o % 6 < 6 := Nat.mod_lt _ (by omega)
      have e : o = 0 + o / 6 * 6 + o % 6 := by omega
      rw [e]
      generalize o % 6 = i at hi8
      match i, hi8 with
      | 0, _ => exact ⟨_, A.c0⟩
      | 1, _ => exact ⟨_, A.c1⟩
      | 2, _ => exact ⟨_, A.c2⟩
      | 3, _ => exact ⟨_, A.c3⟩
      | 4, _ => exact ⟨_, A.c4⟩
      | 5, _ => exact ⟨_, A.c5⟩⟩⟩
    have HC0 : Hid (Chg lo hi w w) := hid ⟨rfl, rfl, rfl, Nat.le_refl _, fun _ _ _ => rfl⟩
    have HPS : Hid (∀ k, k < xs.length → preI xs (k + 1) = preI xs k + 5 + (xs.getD k nf.iz).ps.length) := hid fun k hk => by
      unfold preI; rw [ss.pre_succ _ k (by rw [nf.prs_len]; exact hk), nf.prs_at xs k hk]; omega
    have HPM : Hid (∀ k, k ≤ xs.length → preI xs k ≤ 10000000) := hid fun k hk => by
      have := ss.pre_mono (nf.prs xs) k (by rw [nf.prs_len]; exact hk)
      unfold preI; omega
    have HP0 : Hid (preI xs 0 = 0) := hid rfl
    have HR0 : Hid (∀ j, j < xs.length → w.cell? ⟨g, j * 6 + 5, none⟩ = some (F j) ∧ ∃ ys : List Int, ys.length = (xs.getD j nf.iz).ps.length ∧ Own w (Lo j) (Hi j) (F j) ys) := hid fun j hj => by
      obtain ⟨a1, a2, a3, a4, a5, a6⟩ := h4 j hj
      have := a1.c5
      rw [Nat.zero_add] at this
      exact ⟨this, _, rfl, a2⟩
    have HB : Hid (∀ j, j < xs.length → lo ≤ Lo j ∧ Hi j ≤ hi ∧ (g < Lo j ∨ Hi j ≤ g) ∧ ∀ i, i < j → Hi i ≤ Lo j ∨ Hi j ≤ Lo i) := hid fun j hj => by
      obtain ⟨a1, a2, a3, a4, a5, a6⟩ := h4 j hj
      exact ⟨a3, a4, a5, a6⟩
    have HS := hid hs
    clear h3 h4 hs
    have HH := hid hh
    clear hh ht
    obtain ⟨n, hnn⟩ : ∃ n, n = xs.length := ⟨_, rfl⟩
    rw [← hnn] at hp hn HW HPS HPM HR0 HB HS ⊢
    clear hnn
    go_enter Try.func50, Try.ntmps50
    go_wp2
    go_loopw [1, 5] (fun q i wr => ∃ k : Nat, k ≤ n ∧ i = .int .i64 k ∧ q = .int .i64 (k0 + (preI xs k : Int)) ∧ WrM wr g (n * 6) ∧ Chg lo hi w wr ∧ Hid (∀ j, j < n → wr.cell? ⟨g, j * 6 + 5, none⟩ = some (F j) ∧ ∃ ys : List Int, ys.length = (xs.getD j nf.iz).ps.length ∧ Own wr (Lo j) (Hi j) (F j) ys)) (fun _ i _ => n - (intOf i).toNat)
    case atStart => exact ⟨0, Nat.zero_le _, rfl, by rw [HP0.out]; simp, HW.out, HC0.out, HR0⟩
    case round =>
      obtain ⟨k, hk, rfl, rfl, hw1, hc1, HR⟩ := hrel
      have HCw := hid hc1
      have HWw := hid hw1
      clear hw1 hc1 HW HC0 HR0 HP0
      by_cases hlt : k < n
      · obtain ⟨b1, b2, b3, b4⟩ := HB.out k hlt
        obtain ⟨x5, ys, hyl, hyo⟩ := HR.out k hlt
        have hps := HPS.out k hlt
        have hpm := HPM.out (k + 1) (by omega)
        have hpm0 := HPM.out k (by omega)
        have hsh := HS.out k hlt
        rw [← hyl] at hps hsh
        have HYO := hid hyo
        clear hyo
        obtain ⟨y, hy⟩ : ∃ y, y = k0 + (preI xs k : Int) := ⟨_, rfl⟩
        have hyb : 0 ≤ y ∧ y ≤ 1099000000000 := by omega
        have HY : Hid (k0 + (preI xs (k + 1) : Int) = y + 5 + (ys.length : Int)) := hid (by omega)
        rw [← hy]
        obtain ⟨fk, hfk⟩ : ∃ f, f = F k := ⟨_, rfl⟩
        rw [← hfk] at x5 HYO
        have HFK := hid hfk
        have HYL := hid hyl
        clear hy hps hpm hpm0 hfk hyl
        obtain ⟨f0, u0, z0⟩ := HWw.out.2 (k * 6) (by omega)
        obtain ⟨f1, u1, z1⟩ := HWw.out.2 (k * 6 + 1) (by omega)
        obtain ⟨f2, u2, z2⟩ := HWw.out.2 (k * 6 + 2) (by omega)
        obtain ⟨f3, u3, z3⟩ := HWw.out.2 (k * 6 + 3) (by omega)
        obtain ⟨f4, u4, z4⟩ := HWw.out.2 (k * 6 + 4) (by omega)
        go_wp2_with fail
        clear f0 f1 f2 f3 f4 z0 z1 z2 z3 z4 x5
        have HW2 : Hid (WrM (((((wr.setCell ⟨g, k * 6, none⟩ (.int .i64 y)).setCell ⟨g, k * 6 + 1, none⟩ (.int .i64 (y + 1))).setCell ⟨g, k * 6 + 2, none⟩ (.int .i64 (y + 1 + 1))).setCell ⟨g, k * 6 + 3, none⟩ (.int .i64 (y + 1 + 1 + 1))).setCell ⟨g, k * 6 + 4, none⟩ (.int .i64 (y + 1 + 1 + 1 + 1))) g (n * 6)) := hid ((((((HWw.out.set (k * 6) _ (by omega)).set (k * 6 + 1) _ (by omega)).set (k * 6 + 2) _ (by omega)).set (k * 6 + 3) _ (by omega)).set (k * 6 + 4) _ (by omega)))
        have hC5 : Chg g (g + 1) wr (((((wr.setCell ⟨g, k * 6, none⟩ (.int .i64 y)).setCell ⟨g, k * 6 + 1, none⟩ (.int .i64 (y + 1))).setCell ⟨g, k * 6 + 2, none⟩ (.int .i64 (y + 1 + 1))).setCell ⟨g, k * 6 + 3, none⟩ (.int .i64 (y + 1 + 1 + 1))).setCell ⟨g, k * 6 + 4, none⟩ (.int .i64 (y + 1 + 1 + 1 + 1))) := chg_setM (chg_setM (chg_setM (chg_setM (chg_setM ⟨rfl, rfl, rfl, Nat.le_refl _, fun _ _ _ => rfl⟩ _ (Nat.le_refl _) (Nat.lt_succ_self _)) _ (Nat.le_refl _) (Nat.lt_succ_self _)) _ (Nat.le_refl _) (Nat.lt_succ_self _)) _ (Nat.le_refl _) (Nat.lt_succ_self _)) _ (Nat.le_refl _) (Nat.lt_succ_self _)
        have HC2 : Hid (Chg lo hi w (((((wr.setCell ⟨g, k * 6, none⟩ (.int .i64 y)).setCell ⟨g, k * 6 + 1, none⟩ (.int .i64 (y + 1))).setCell ⟨g, k * 6 + 2, none⟩ (.int .i64 (y + 1 + 1))).setCell ⟨g, k * 6 + 3, none⟩ (.int .i64 (y + 1 + 1 + 1))).setCell ⟨g, k * 6 + 4, none⟩ (.int .i64 (y + 1 + 1 + 1 + 1)))) := hid (HCw.out.trans (hC5.wide (by omega) (by omega)))
        have HR2 : Hid (∀ j, j < n → (((((wr.setCell ⟨g, k * 6, none⟩ (.int .i64 y)).setCell ⟨g, k * 6 + 1, none⟩ (.int .i64 (y + 1))).setCell ⟨g, k * 6 + 2, none⟩ (.int .i64 (y + 1 + 1))).setCell ⟨g, k * 6 + 3, none⟩ (.int .i64 (y + 1 + 1 + 1))).setCell ⟨g, k * 6 + 4, none⟩ (.int .i64 (y + 1 + 1 + 1 + 1))).cell? ⟨g, j * 6 + 5, none⟩ = some (F j) ∧ ∃ ys : List Int, ys.length = (xs.getD j nf.iz).ps.length ∧ Own (((((wr.setCell ⟨g, k * 6, none⟩ (.int .i64 y)).setCell ⟨g, k * 6 + 1, none⟩ (.int .i64 (y + 1))).setCell ⟨g, k * 6 + 2, none⟩ (.int .i64 (y + 1 + 1))).setCell ⟨g, k * 6 + 3, none⟩ (.int .i64 (y + 1 + 1 + 1))).setCell ⟨g, k * 6 + 4, none⟩ (.int .i64 (y + 1 + 1 + 1 + 1))) (Lo j) (Hi j) (F j) ys) := hid fun j hj => by
          obtain ⟨x1, zs, hz, ho⟩ := HR.out j hj
          have hB := (HB.out j hj).2.2.1
          exact ⟨by rw [ss.other_at (by omega), ss.other_at (by omega), ss.other_at (by omega), ss.other_at (by omega), ss.other_at (by omega)]; exact x1, zs, hz, ho.chg hC5 (by omega)⟩
        have HY2 : Hid (Own (((((wr.setCell ⟨g, k * 6, none⟩ (.int .i64 y)).setCell ⟨g, k * 6 + 1, none⟩ (.int .i64 (y + 1))).setCell ⟨g, k * 6 + 2, none⟩ (.int .i64 (y + 1 + 1))).setCell ⟨g, k * 6 + 3, none⟩ (.int .i64 (y + 1 + 1 + 1))).setCell ⟨g, k * 6 + 4, none⟩ (.int .i64 (y + 1 + 1 + 1 + 1))) (Lo k) (Hi k) fk ys) := hid (HYO.out.chg hC5 (by omega))
        have hsz5 := hC5.size
        clear hC5 HYO HR HCw HWw
        generalize (((((wr.setCell ⟨g, k * 6, none⟩ (.int .i64 y)).setCell ⟨g, k * 6 + 1, none⟩ (.int .i64 (y + 1))).setCell ⟨g, k * 6 + 2, none⟩ (.int .i64 (y + 1 + 1))).setCell ⟨g, k * 6 + 3, none⟩ (.int .i64 (y + 1 + 1 + 1))).setCell ⟨g, k * 6 + 4, none⟩ (.int .i64 (y + 1 + 1 + 1 + 1))) = wm at *
        refine (markI ys fk (Lo k) (Hi k) _ wm HY2.out (by omega) (by omega) (by omega)).mono ?_
        rintro e w2 ⟨rfl, o2, c2⟩
        have hsz2 := c2.size
        have HW3 : Hid (WrM w2 g (n * 6)) := hid (HW2.out.blk c2.size (c2.block g HW2.out.1 (by omega)))
        have HC3 : Hid (Chg lo hi w w2) := hid (HC2.out.trans (c2.wide (by omega) (by omega)))
        have HR3 : Hid (∀ j, j < n → w2.cell? ⟨g, j * 6 + 5, none⟩ = some (F j) ∧ ∃ ys : List Int, ys.length = (xs.getD j nf.iz).ps.length ∧ Own w2 (Lo j) (Hi j) (F j) ys) := hid fun j hj => by
          obtain ⟨x1, zs, hz, ho⟩ := HR2.out j hj
          refine ⟨?_, ?_⟩
          · rw [World.cell?_of_block (w := wm) (w' := w2) (a := ⟨g, j * 6 + 5, none⟩) (c2.block g HW2.out.1 (by omega))]
            exact x1
          · by_cases e : j = k
            · subst e
              refine ⟨marks (y + 1 + 1 + 1 + 1 + 1) ys.length, by simpa [marks_len] using HYL.out, ?_⟩
              rw [← HFK.out]
              exact o2
            · refine ⟨zs, hz, ho.chg c2 ?_⟩
              rcases Nat.lt_or_ge j k with h | h
              · have := (HB.out k hlt).2.2.2 j h; omega
              · have := (HB.out j hj).2.2.2 k (by omega); omega
        clear o2 c2 HW2 HC2 HR2 HY2
        have HY5 : Hid (y + 1 + 1 + 1 + 1 + 1 + (ys.length : Int) = k0 + (preI xs (k + 1) : Int)) := hid (by have := HY.out; omega)
        go_wp2
        go_roundw
        case rel => exact ⟨k + 1, by omega, by go_num, by rw [← HY5.out], HW3.out, HC3.out, HR3⟩
        case measure => simp [intOf]; omega
      · obtain rfl : k = n := by omega
        go_wp2
        go_ret
        exact ⟨rfl, HCw.out⟩

set_option maxRecDepth 100000 in
set_option maxHeartbeats 1600000 in
theorem markM (a p : Int) (m : Mch) (f0 f1 f2 f3 f4 : Value) (lo hi : Nat) (k0 : Int) (w : World) (ho : MOwn w lo hi f0 f1 f2 f3 f4 m) (hq : Small m) (ht : MTot m) (hk0 : 0 ≤ k0) (hk1 : k0 ≤ 1048576) :
    Calls Try.prog 16 #[.agg #[.int .i64 a, .int .i64 p, f0, f1, f2, f3, f4], .int .i64 k0] w fun e w' => ∃ k1 : Int, e = .returned (.int .i64 k1) ∧ 0 ≤ k1 ∧ Chg lo hi w w' := by
  obtain ⟨hh, p1, p2, p3, p4, e0, e1, e2, e3, e4, o0, o1, o2, o3, o4⟩ := ho
  have h3 : preI m.ls m.ls.length ≤ 10000000 := by
    have a1 := ht.t3
    have a2 := hq.s3.len
    unfold preI
    rw [ss.tot, nf.prs_len] at a1
    omega
  have hl2 := hq.s2.len
  have hl4 := hq.s4
  have q0 := ht.t0
  have q1 := ht.t1
  have HT3 := hid ht.t3
  have HQ := hid hq
  have hB := (Below.refl w.heap.size w).alloc (Nat.le_refl _) (.cells #[.int .i64 a, .int .i64 p, f0, f1, f2, f3, f4] 34)
  have HBx := hid (bxc_new w 34 a p f0 f1 f2 f3 f4)
  have HC0 := hid (show Chg lo hi w (w.alloc (.cells #[.int .i64 a, .int .i64 p, f0, f1, f2, f3, f4] 34)) from ⟨hB.os, hB.tape, hB.output, hB.size, fun k hk _ => hB.block k hk⟩)
  have O0 := hid (o0.chg (Chg.ofBelow (lo := 0) hB) (.inr (.inr (Nat.zero_le _))))
  have O1 := hid (o1.chg (Chg.ofBelow (lo := 0) hB) (.inr (.inr (Nat.zero_le _))))
  have O2 := hid (o2.chg (Chg.ofBelow (lo := 0) hB) (.inr (.inr (Nat.zero_le _))))
  have O3 := hid (o3.chg (Chg.ofBelow (lo := 0) hB) (.inr (.inr (Nat.zero_le _))))
  have O4 := hid (o4.chg (Chg.ofBelow (lo := 0) hB) (.inr (.inr (Nat.zero_le _))))
  clear o0 o1 o2 o3 o4 hB hq ht
  go_enter Try.func16, Try.ntmps16
  go_wp2_with fail
  generalize w.alloc (.cells #[.int .i64 a, .int .i64 p, f0, f1, f2, f3, f4] 34) = X0 at *
  have y2 := HBx.out.c2
  go_wp2_with fail
  refine (ss.markSS m.fr f0 _ _ k0 _ O0.out HQ.out.s0.1 (by omega) (short_mono HQ.out.s0.2 (by omega)) hk0 (by omega)).mono ?_
  rintro e X1 ⟨rfl, oo, cc⟩
  have HB1 := hid (HBx.out.chg cc (.inr (by omega)))
  have HC1 := hid (HC0.out.trans (cc.wide (by omega) (by omega)))
  have P1 := hid (O1.out.chg cc (by omega))
  have P2 := hid (O2.out.chg cc (by omega))
  have P3 := hid (O3.out.chg cc (by omega))
  have P4 := hid (O4.out.chg cc (by omega))
  obtain ⟨k1, hk1'⟩ : ∃ k : Int, k = k0 + (ss.tot m.fr : Int) := ⟨_, rfl⟩
  have hb1 : 0 ≤ k1 ∧ k1 ≤ 3000000 := by omega
  rw [← hk1']
  have y3 := HB1.out.c3
  clear hk1' oo cc y2 HBx HC0 O0 O1 O2 O3 O4
  go_wp2_with fail
  refine (ss.markSS m.bk f1 _ _ k1 _ P1.out HQ.out.s1.1 (by omega) (short_mono HQ.out.s1.2 (by omega)) hb1.1 (by omega)).mono ?_
  rintro e X2 ⟨rfl, oo, cc⟩
  have HB2 := hid (HB1.out.chg cc (.inr (by omega)))
  have HC2 := hid (HC1.out.trans (cc.wide (by omega) (by omega)))
  have R2 := hid (P2.out.chg cc (by omega))
  have R3 := hid (P3.out.chg cc (by omega))
  have R4 := hid (P4.out.chg cc (by omega))
  obtain ⟨k2, hk2'⟩ : ∃ k : Int, k = k1 + (ss.tot m.bk : Int) := ⟨_, rfl⟩
  have hb2 : 0 ≤ k2 ∧ k2 ≤ 5000000 := by omega
  rw [← hk2']
  have y4 := HB2.out.c4
  clear hk2' oo cc y3 HB1 HC1 P1 P2 P3 P4 hb1
  go_wp2_with fail
  refine (markCS m.cs f2 _ _ k2 _ R2.out hl2 hb2.1 (by omega)).mono ?_
  rintro e X3 ⟨rfl, cc⟩
  have HB3 := hid (HB2.out.chg cc (.inr (by omega)))
  have HC3 := hid (HC2.out.trans (cc.wide (by omega) (by omega)))
  have S3 := hid (R3.out.chg cc (by omega))
  have S4 := hid (R4.out.chg cc (by omega))
  obtain ⟨k3, hk3'⟩ : ∃ k : Int, k = k2 + ((2 * m.cs.length : Nat) : Int) := ⟨_, rfl⟩
  have hb3 : 0 ≤ k3 ∧ k3 ≤ 8000000 := by omega
  rw [← hk3']
  have y5 := HB3.out.c5
  clear hk3' cc y4 HB2 HC2 R2 R3 R4 hb2
  go_wp2_with fail
  refine (markIS m.ls f3 _ _ k3 _ S3.out HQ.out.s3 HT3.out hb3.1 (by omega)).mono ?_
  rintro e X4 ⟨rfl, cc⟩
  have HB4 := hid (HB3.out.chg cc (.inr (by omega)))
  have HC4 := hid (HC3.out.trans (cc.wide (by omega) (by omega)))
  have T4 := hid (S4.out.chg cc (by omega))
  obtain ⟨k4, hk4'⟩ : ∃ k : Int, k = k3 + (preI m.ls m.ls.length : Int) := ⟨_, rfl⟩
  have hb4 : 0 ≤ k4 ∧ k4 ≤ 20000000 := by omega
  rw [← hk4']
  have y6 := HB4.out.c6
  clear hk4' cc y5 HB3 HC3 S3 S4 hb3
  go_wp2_with fail
  refine (markI m.dr f4 _ _ k4 _ T4.out (by omega) hb4.1 (by omega)).mono ?_
  rintro e X5 ⟨rfl, oo, cc⟩
  have HC5 := hid (HC4.out.trans (cc.wide (by omega) (by omega)))
  clear oo cc y6 HB4 HC4 T4
  go_wp2
  go_ret
  exact ⟨_, rfl, by omega, HC5.out⟩
end Go.Proofs.Ytlhpipcmebmpdab.mc
