/-
  markChart: writes into a chart of the call's own.
-/
import Derived.Test.YtbbnheiibkcgiabDoorCt1
namespace Go.Proofs.YtbbnheiibkcgiabDoor.ct
open Go.RowKit Go.Sort Go.Proofs.YtbbnheiibkcgiabDoor.sl Go.Proofs.YtbbnheiibkcgiabDoor.br
set_option linter.unusedVariables false
set_option linter.unusedSimpArgs false

/-- The cells of a block are there and may be written. -/
def WrM (w : World) (g m : Nat) : Prop := g < w.heap.size ∧ ∀ o, o < m → w.frozen? ⟨g, o, none⟩ = false ∧ ∃ u, w.cell? ⟨g, o, none⟩ = some u
theorem WrM.set {w : World} {g m : Nat} (h : WrM w g m) (i : Nat) (v : Value) (hi : i < m) : WrM (w.setCell ⟨g, i, none⟩ v) g m := by
  refine ⟨by simpa using h.1, fun o ho => ⟨by rw [World.frozen?_setCell]; exact (h.2 o ho).1, ?_⟩⟩
  obtain ⟨u, hu⟩ := (h.2 o ho).2
  by_cases e : o = i
  · subst e; exact ⟨v, ss.same_at hu⟩
  · exact ⟨u, by rw [ss.other_at e]; exact hu⟩
theorem WrM.blk {w w' : World} {g m : Nat} (h : WrM w g m) (hs : w.heap.size ≤ w'.heap.size) (hb : w'.heap[g]? = w.heap[g]?) : WrM w' g m := by
  refine ⟨Nat.lt_of_lt_of_le h.1 hs, fun o ho => ⟨?_, ?_⟩⟩
  · rw [World.frozen?_of_block (w := w) (w' := w') (a := ⟨g, o, none⟩) hb]; exact (h.2 o ho).1
  · rw [World.cell?_of_block (w := w) (w' := w') (a := ⟨g, o, none⟩) hb]; exact (h.2 o ho).2
theorem chg_setM {lo hi g i : Nat} {w w' : World} (h : Chg lo hi w w') (v : Value) (h1 : lo ≤ g) (h2 : g < hi) : Chg lo hi w (w'.setCell ⟨g, i, none⟩ v) := by
  have hb := (Below.refl g w').setCell (p := ⟨g, i, none⟩) (Nat.le_refl _) v
  refine ⟨hb.os.trans h.os, hb.tape.trans h.tape, hb.output.trans h.output, Nat.le_trans h.size hb.size, fun k hk hk' => ?_⟩
  rw [← h.block k hk hk']
  exact Below.heap_setCell w' ⟨g, i, none⟩ v k (by show k ≠ g; omega)

/-- So much a law counts in the first k rows. -/
def preW (xs : List ro.V) (k : Nat) : Nat := 2 * k + ss.pre (ro.prs xs) k
set_option maxRecDepth 100000 in
set_option maxHeartbeats 3200000 in
theorem markWS (xs : List ro.V) (v : Value) (lo hi : Nat) (k0 : Int) (w : World) (ho : ro.IOwn w lo hi v xs) (hq : ro.Small xs) (ht : ss.tot (ro.prs xs) ≤ 1048576) (hk0 : 0 ≤ k0) (hk1 : k0 ≤ 1000000000000) :
    Calls Tryd.prog 26 #[v, .int .i64 k0] w fun e w' => e = .returned (.int .i64 (k0 + (preW xs xs.length : Int))) ∧ Chg lo hi w w' := by
  have hn := hq.len
  have hs := hq.short
  clear hq
  obtain ⟨hh, hr⟩ := ho
  rcases hr with ⟨rfl, ao, cap, rfl⟩ | ⟨hp, g, cap, F, Lo, Hi, rfl, h1, h2, h3, h4⟩
  · have HF : Hid (k0 + (preW ([] : List ro.V) 0 : Int) = k0) := hid (by simp [preW, ss.pre, ro.prs, ss.lens])
    go_enter Tryd.func26, Tryd.ntmps26
    go_wp2
    refine wp_loop_rounds 1 ?_
    rw [rounds_succ]
    go_wp2
    go_ret
    exact ⟨(by rw [HF.out]; rfl : _ = Ending.returned (.int .i64 (k0 + (preW ([] : List ro.V) 0 : Int)))), ⟨rfl, rfl, rfl, Nat.le_refl _, fun _ _ _ => rfl⟩⟩
  · have HW : Hid (WrM w g (xs.length * 3)) := hid ⟨by omega, fun o ho => ⟨h3 o ho, by
      have A := (h4 (o / 3) (by omega)).1
      have hi8 : o % 3 < 3 := Nat.mod_lt _ (by omega)
      have e : o = 0 + o / 3 * 3 + o % 3 := by omega
      rw [e]
      generalize o % 3 = i at hi8
      match i, hi8 with
      | 0, _ => exact ⟨_, A.c0⟩
      | 1, _ => exact ⟨_, A.c1⟩
      | 2, _ => exact ⟨_, A.c2⟩⟩⟩
    have HC0 : Hid (Chg lo hi w w) := hid ⟨rfl, rfl, rfl, Nat.le_refl _, fun _ _ _ => rfl⟩
    have HPS : Hid (∀ k, k < xs.length → preW xs (k + 1) = preW xs k + 2 + (xs.getD k ro.iz).ps.length) := hid fun k hk => by
      unfold preW; rw [ss.pre_succ _ k (by rw [ro.prs_len]; exact hk), ro.prs_at xs k hk]; omega
    have HPM : Hid (∀ k, k ≤ xs.length → preW xs k ≤ 10000000) := hid fun k hk => by
      have := ss.pre_mono (ro.prs xs) k (by rw [ro.prs_len]; exact hk)
      unfold preW; omega
    have HP0 : Hid (preW xs 0 = 0) := hid rfl
    have HR0 : Hid (∀ j, j < xs.length → w.cell? ⟨g, j * 3 + 2, none⟩ = some (F j) ∧ ∃ ys : List Int, ys.length = (xs.getD j ro.iz).ps.length ∧ Own w (Lo j) (Hi j) (F j) ys) := hid fun j hj => by
      obtain ⟨a1, a2, a3, a4, a5, a6⟩ := h4 j hj
      have := a1.c2
      rw [Nat.zero_add] at this
      exact ⟨this, _, rfl, a2⟩
    have HB : Hid (∀ j, j < xs.length → lo ≤ Lo j ∧ Hi j ≤ hi ∧ (g < Lo j ∨ Hi j ≤ g) ∧ ∀ i, i < j → Hi i ≤ Lo j ∨ Hi j ≤ Lo i) := hid fun j hj => by
      obtain ⟨a1, a2, a3, a4, a5, a6⟩ := h4 j hj
      exact ⟨a3, a4, a5, a6⟩
    have HS := hid hs
    clear h3 h4 hs
    have HH := hid hh
    clear hh ht
    obtain ⟨n, hnn⟩ : ∃ n, n = xs.length := ⟨_, rfl⟩
    rw [← hnn] at hp hn HW HPS HPM HR0 HB HS ⊢
    clear hnn
    go_enter Tryd.func26, Tryd.ntmps26
    go_wp2
    go_loopw [1, 5] (fun q i wr => ∃ k : Nat, k ≤ n ∧ i = .int .i64 k ∧ q = .int .i64 (k0 + (preW xs k : Int)) ∧ WrM wr g (n * 3) ∧ Chg lo hi w wr ∧ Hid (∀ j, j < n → wr.cell? ⟨g, j * 3 + 2, none⟩ = some (F j) ∧ ∃ ys : List Int, ys.length = (xs.getD j ro.iz).ps.length ∧ Own wr (Lo j) (Hi j) (F j) ys)) (fun _ i _ => n - (intOf i).toNat)
    case atStart => exact ⟨0, Nat.zero_le _, rfl, by rw [HP0.out]; simp, HW.out, HC0.out, HR0⟩
    case round =>
      obtain ⟨k, hk, rfl, rfl, hw1, hc1, HR⟩ := hrel
      have HCw := hid hc1
      have HWw := hid hw1
      clear hw1 hc1 HW HC0 HR0 HP0
      by_cases hlt : k < n
      · obtain ⟨b1, b2, b3, b4⟩ := HB.out k hlt
        obtain ⟨x5, ys, hyl, hyo⟩ := HR.out k hlt
        have hps := HPS.out k hlt
        have hpm := HPM.out (k + 1) (by omega)
        have hpm0 := HPM.out k (by omega)
        have hsh := HS.out k hlt
        rw [← hyl] at hps hsh
        have HYO := hid hyo
        clear hyo
        obtain ⟨y, hy⟩ : ∃ y, y = k0 + (preW xs k : Int) := ⟨_, rfl⟩
        have hyb : 0 ≤ y ∧ y ≤ 1099000000000 := by omega
        have HY : Hid (k0 + (preW xs (k + 1) : Int) = y + 2 + (ys.length : Int)) := hid (by omega)
        rw [← hy]
        obtain ⟨fk, hfk⟩ : ∃ f, f = F k := ⟨_, rfl⟩
        rw [← hfk] at x5 HYO
        have HFK := hid hfk
        have HYL := hid hyl
        clear hy hps hpm hpm0 hfk hyl
        obtain ⟨f0, u0, z0⟩ := HWw.out.2 (k * 3) (by omega)
        obtain ⟨f1, u1, z1⟩ := HWw.out.2 (k * 3 + 1) (by omega)
        go_wp2_with fail
        clear f0 f1 z0 z1 x5
        have HW2 : Hid (WrM ((wr.setCell ⟨g, k * 3, none⟩ (.int .i64 y)).setCell ⟨g, k * 3 + 1, none⟩ (.int .i64 (y + 1))) g (n * 3)) := hid ((HWw.out.set (k * 3) _ (by omega)).set (k * 3 + 1) _ (by omega))
        have hC5 : Chg g (g + 1) wr ((wr.setCell ⟨g, k * 3, none⟩ (.int .i64 y)).setCell ⟨g, k * 3 + 1, none⟩ (.int .i64 (y + 1))) := chg_setM (chg_setM ⟨rfl, rfl, rfl, Nat.le_refl _, fun _ _ _ => rfl⟩ _ (Nat.le_refl _) (Nat.lt_succ_self _)) _ (Nat.le_refl _) (Nat.lt_succ_self _)
        have HC2 : Hid (Chg lo hi w ((wr.setCell ⟨g, k * 3, none⟩ (.int .i64 y)).setCell ⟨g, k * 3 + 1, none⟩ (.int .i64 (y + 1)))) := hid (HCw.out.trans (hC5.wide (by omega) (by omega)))
        have HR2 : Hid (∀ j, j < n → ((wr.setCell ⟨g, k * 3, none⟩ (.int .i64 y)).setCell ⟨g, k * 3 + 1, none⟩ (.int .i64 (y + 1))).cell? ⟨g, j * 3 + 2, none⟩ = some (F j) ∧ ∃ ys : List Int, ys.length = (xs.getD j ro.iz).ps.length ∧ Own ((wr.setCell ⟨g, k * 3, none⟩ (.int .i64 y)).setCell ⟨g, k * 3 + 1, none⟩ (.int .i64 (y + 1))) (Lo j) (Hi j) (F j) ys) := hid fun j hj => by
          obtain ⟨x1, zs, hz, ho⟩ := HR.out j hj
          have hB := (HB.out j hj).2.2.1
          exact ⟨by rw [ss.other_at (by omega), ss.other_at (by omega)]; exact x1, zs, hz, ho.chg hC5 (by omega)⟩
        have HY2 : Hid (Own ((wr.setCell ⟨g, k * 3, none⟩ (.int .i64 y)).setCell ⟨g, k * 3 + 1, none⟩ (.int .i64 (y + 1))) (Lo k) (Hi k) fk ys) := hid (HYO.out.chg hC5 (by omega))
        have hsz5 := hC5.size
        clear hC5 HYO HR HCw HWw
        generalize ((wr.setCell ⟨g, k * 3, none⟩ (.int .i64 y)).setCell ⟨g, k * 3 + 1, none⟩ (.int .i64 (y + 1))) = wm at *
        refine (markI ys fk (Lo k) (Hi k) _ wm HY2.out (by omega) (by omega) (by omega)).mono ?_
        rintro e w2 ⟨rfl, o2, c2⟩
        have hsz2 := c2.size
        have HW3 : Hid (WrM w2 g (n * 3)) := hid (HW2.out.blk c2.size (c2.block g HW2.out.1 (by omega)))
        have HC3 : Hid (Chg lo hi w w2) := hid (HC2.out.trans (c2.wide (by omega) (by omega)))
        have HR3 : Hid (∀ j, j < n → w2.cell? ⟨g, j * 3 + 2, none⟩ = some (F j) ∧ ∃ ys : List Int, ys.length = (xs.getD j ro.iz).ps.length ∧ Own w2 (Lo j) (Hi j) (F j) ys) := hid fun j hj => by
          obtain ⟨x1, zs, hz, ho⟩ := HR2.out j hj
          refine ⟨?_, ?_⟩
          · rw [World.cell?_of_block (w := wm) (w' := w2) (a := ⟨g, j * 3 + 2, none⟩) (c2.block g HW2.out.1 (by omega))]
            exact x1
          · by_cases e : j = k
            · subst e
              refine ⟨marks (y + 1 + 1) ys.length, by simpa [marks_len] using HYL.out, ?_⟩
              rw [← HFK.out]
              exact o2
            · refine ⟨zs, hz, ho.chg c2 ?_⟩
              rcases Nat.lt_or_ge j k with h | h
              · have := (HB.out k hlt).2.2.2 j h; omega
              · have := (HB.out j hj).2.2.2 k (by omega); omega
        clear o2 c2 HW2 HC2 HR2 HY2
        have HY5 : Hid (y + 1 + 1 + (ys.length : Int) = k0 + (preW xs (k + 1) : Int)) := hid (by have := HY.out; omega)
        go_wp2
        go_roundw
        case rel => exact ⟨k + 1, by omega, by go_num, by rw [← HY5.out], HW3.out, HC3.out, HR3⟩
        case measure => simp [intOf]; omega
      · obtain rfl : k = n := by omega
        go_wp2
        go_ret
        exact ⟨rfl, HCw.out⟩

theorem tot_of {left : Int} {xs : List ro.V} (h0 : 0 ≤ left) (h1 : left ≤ 1048576) (h : 0 ≤ szC left xs) : ss.tot (ro.prs xs) ≤ 1048576 := ss.tot_le h0 h1 h
theorem markC (s : Int) (xs : List ro.V) (f : Value) (lo hi : Nat) (k0 : Int) (w : World) (ho : ro.IOwn w lo hi f xs) (hq : ro.Small xs) (ht : ss.tot (ro.prs xs) ≤ 1048576) (hk0 : 0 ≤ k0) (hk1 : k0 ≤ 1048576) :
    Calls Tryd.prog 10 #[.agg #[.int .i64 s, f], .int .i64 k0] w fun e w' => ∃ k1 : Int, e = .returned (.int .i64 k1) ∧ 0 ≤ k1 ∧ Chg lo hi w w' := by
  have hB := (Below.refl w.heap.size w).alloc (Nat.le_refl _) (.cells #[.int .i64 s, f] 28)
  have hC0 : Chg lo hi w (w.alloc (.cells #[.int .i64 s, f] 28)) := ⟨hB.os, hB.tape, hB.output, hB.size, fun k hk _ => hB.block k hk⟩
  have HM := hid (markWS xs f lo hi k0 _ (ho.chg (Chg.ofBelow (lo := 0) hB) (.inr (.inr (Nat.zero_le _)))) hq ht hk0 (by omega))
  have HC0 := hid hC0
  obtain ⟨ao, cap, hv⟩ := ro.infs_val ho.infs
  have hkp : 0 ≤ k0 + (preW xs xs.length : Int) := by omega
  clear hB hC0 ho hq ht
  generalize preW xs xs.length = t at *
  generalize xs.length = n at *
  subst hv
  go_enter Tryd.func10, Tryd.ntmps10
  go_wp2_with fail
  refine HM.out.mono ?_
  rintro e w1 ⟨rfl, c1⟩
  have HC := hid (HC0.out.trans c1)
  clear c1
  go_wp2
  go_ret
  exact ⟨_, rfl, hkp, HC.out⟩
end Go.Proofs.YtbbnheiibkcgiabDoor.ct
