/-
  markChart and heldChart at an answer: all marks are kept track of.
-/
import Derived.Test.YtbbnheiibkcgiabDoorMkr
namespace Go.Proofs.YtbbnheiibkcgiabDoor.ct
open Go.RowKit Go.Sort Go.Proofs.YtbbnheiibkcgiabDoor.sl Go.Proofs.YtbbnheiibkcgiabDoor.br
set_option linter.unusedVariables false
set_option linter.unusedSimpArgs false

theorem at_mark {w : World} {g o : Nat} {x : ro.V} {f : Value} (h : ro.At w g o x f) (y z : Int) : ro.At ((w.setCell ⟨g, o, none⟩ (.int .i64 y)).setCell ⟨g, o + 1, none⟩ (.int .i64 z)) g o ⟨y, z, x.ps⟩ f := by
  refine ⟨by have := h.lt; simpa using this, ?_, ?_, ?_⟩
  · rw [ss.other_at (by omega)]; exact ss.same_at h.c0
  · exact ss.same_at (by rw [ss.other_at (by omega)]; exact h.c1)
  · rw [ss.other_at (by omega), ss.other_at (by omega)]; exact h.c2
theorem at_past {w : World} {g o q : Nat} {x : ro.V} {f : Value} (h : ro.At w g q x f) (y z : Value) (hq : q + 3 ≤ o ∨ o + 3 ≤ q) : ro.At ((w.setCell ⟨g, o, none⟩ y).setCell ⟨g, o + 1, none⟩ z) g q x f := by
  refine ⟨by have := h.lt; simpa using this, ?_, ?_, ?_⟩
  · rw [ss.other_at (by omega), ss.other_at (by omega)]; exact h.c0
  · rw [ss.other_at (by omega), ss.other_at (by omega)]; exact h.c1
  · rw [ss.other_at (by omega), ss.other_at (by omega)]; exact h.c2

/-- A row with a law's marks. -/
def mkV (k : Int) (x : ro.V) : ro.V := ⟨k, k + 1, marks (k + 2) x.ps.length⟩
def marksW (k0 : Int) (xs : List ro.V) : List ro.V := (List.range xs.length).map fun j => mkV (k0 + (preW xs j : Int)) (xs.getD j ro.iz)
theorem marksW_len (k0 : Int) (xs : List ro.V) : (marksW k0 xs).length = xs.length := by simp [marksW]
theorem marksW_at (k0 : Int) (xs : List ro.V) (j : Nat) (h : j < xs.length) : (marksW k0 xs).getD j ro.iz = mkV (k0 + (preW xs j : Int)) (xs.getD j ro.iz) := by simp [marksW, List.getD, h]
def mixW (k0 : Int) (xs : List ro.V) (k j : Nat) : ro.V := if j < k then mkV (k0 + (preW xs j : Int)) (xs.getD j ro.iz) else xs.getD j ro.iz
theorem mixW_now (k0 : Int) (xs : List ro.V) (k : Nat) : mixW k0 xs k k = xs.getD k ro.iz := by simp [mixW]
theorem mixW_new (k0 : Int) (xs : List ro.V) (k : Nat) : mixW k0 xs (k + 1) k = mkV (k0 + (preW xs k : Int)) (xs.getD k ro.iz) := by simp [mixW]
theorem mixW_past (k0 : Int) (xs : List ro.V) (k j : Nat) (h : j ≠ k) : mixW k0 xs (k + 1) j = mixW k0 xs k j := by
  unfold mixW
  by_cases h1 : j < k
  · rw [if_pos h1, if_pos (by omega)]
  · rw [if_neg h1, if_neg (by omega)]
theorem preW_bound (xs : List ro.V) (ht : ss.tot (ro.prs xs) ≤ 1048576) (hn : xs.length ≤ 1048576) (k : Nat) (hk : k ≤ xs.length) : preW xs k ≤ 10000000 := by
  have := ss.pre_mono (ro.prs xs) k (by rw [ro.prs_len]; exact hk)
  unfold preW; omega

set_option maxRecDepth 100000 in
set_option maxHeartbeats 3200000 in
theorem markWF (xs : List ro.V) (v : Value) (lo hi : Nat) (k0 : Int) (w : World) (ho : ro.IOwn w lo hi v xs) (hq : ro.Small xs) (ht : ss.tot (ro.prs xs) ≤ 1048576) (hk0 : 0 ≤ k0) (hk1 : k0 ≤ 1000000000000) :
    Calls Tryd.prog 26 #[v, .int .i64 k0] w fun e w' => e = .returned (.int .i64 (k0 + (preW xs xs.length : Int))) ∧ ro.IOwn w' lo hi v (marksW k0 xs) ∧ Chg lo hi w w' := by
  have hn := hq.len
  have hs := hq.short
  clear hq
  obtain ⟨hh, hr⟩ := ho
  rcases hr with ⟨rfl, ao, cap, rfl⟩ | ⟨hp, g, cap, F, Lo, Hi, rfl, h1, h2, h3, h4⟩
  · have HF : Hid (k0 + (preW ([] : List ro.V) 0 : Int) = k0) := hid (by simp [preW, ss.pre, ro.prs, ss.lens])
    go_enter Tryd.func26, Tryd.ntmps26
    go_wp2
    refine wp_loop_rounds 1 ?_
    rw [rounds_succ]
    go_wp2
    go_ret
    exact ⟨(by rw [HF.out]; rfl : _ = Ending.returned (.int .i64 (k0 + (preW ([] : List ro.V) 0 : Int)))), ⟨hh, .inl ⟨rfl, _, _, rfl⟩⟩, ⟨rfl, rfl, rfl, Nat.le_refl _, fun _ _ _ => rfl⟩⟩
  · have HW : Hid (WrM w g (xs.length * 3)) := hid ⟨by omega, fun o ho => ⟨h3 o ho, by
      have A := (h4 (o / 3) (by omega)).1
      have hi8 : o % 3 < 3 := Nat.mod_lt _ (by omega)
      have e : o = 0 + o / 3 * 3 + o % 3 := by omega
      rw [e]
      generalize o % 3 = i at hi8
      match i, hi8 with
      | 0, _ => exact ⟨_, A.c0⟩
      | 1, _ => exact ⟨_, A.c1⟩
      | 2, _ => exact ⟨_, A.c2⟩⟩⟩
    have HC0 : Hid (Chg lo hi w w) := hid ⟨rfl, rfl, rfl, Nat.le_refl _, fun _ _ _ => rfl⟩
    have HPS : Hid (∀ k, k < xs.length → preW xs (k + 1) = preW xs k + 2 + (xs.getD k ro.iz).ps.length) := hid fun k hk => by
      unfold preW; rw [ss.pre_succ _ k (by rw [ro.prs_len]; exact hk), ro.prs_at xs k hk]; omega
    have HPM : Hid (∀ k, k ≤ xs.length → preW xs k ≤ 10000000) := hid fun k hk => preW_bound xs ht hn k hk
    have HP0 : Hid (preW xs 0 = 0) := hid rfl
    have HR0 : Hid (∀ j, j < xs.length → ro.At w g (j * 3) (mixW k0 xs 0 j) (F j) ∧ Own w (Lo j) (Hi j) (F j) (mixW k0 xs 0 j).ps) := hid fun j hj => by
      obtain ⟨a1, a2, a3, a4, a5, a6⟩ := h4 j hj
      rw [Nat.zero_add] at a1
      exact ⟨a1, a2⟩
    have HB : Hid (∀ j, j < xs.length → lo ≤ Lo j ∧ Hi j ≤ hi ∧ (g < Lo j ∨ Hi j ≤ g) ∧ ∀ i, i < j → Hi i ≤ Lo j ∨ Hi j ≤ Lo i) := hid fun j hj => by
      obtain ⟨a1, a2, a3, a4, a5, a6⟩ := h4 j hj
      exact ⟨a3, a4, a5, a6⟩
    have HS := hid hs
    have HFz := hid h3
    have HL := hid (marksW_len k0 xs)
    have HMa := hid (marksW_at k0 xs)
    clear h3 h4 hs
    have HH := hid hh
    clear hh ht
    obtain ⟨n, hnn⟩ : ∃ n, n = xs.length := ⟨_, rfl⟩
    rw [← hnn] at hp hn HW HPS HPM HR0 HB HS HL HMa HFz ⊢
    clear hnn
    go_enter Tryd.func26, Tryd.ntmps26
    go_wp2
    go_loopw [1, 5] (fun q i wr => ∃ k : Nat, k ≤ n ∧ i = .int .i64 k ∧ q = .int .i64 (k0 + (preW xs k : Int)) ∧ WrM wr g (n * 3) ∧ Chg lo hi w wr ∧ Hid (∀ j, j < n → ro.At wr g (j * 3) (mixW k0 xs k j) (F j) ∧ Own wr (Lo j) (Hi j) (F j) (mixW k0 xs k j).ps) ∧ Hid (∀ a : Addr, wr.frozen? a = w.frozen? a ∨ a.block ≠ g)) (fun _ i _ => n - (intOf i).toNat)
    case atStart => exact ⟨0, Nat.zero_le _, rfl, by rw [HP0.out]; simp, HW.out, HC0.out, HR0, hid fun _ => .inl rfl⟩
    case round =>
      obtain ⟨k, hk, rfl, rfl, hw1, hc1, HR, HFr⟩ := hrel
      have HCw := hid hc1
      have HWw := hid hw1
      clear hw1 hc1 HW HC0 HR0 HP0
      by_cases hlt : k < n
      · obtain ⟨b1, b2, b3, b4⟩ := HB.out k hlt
        obtain ⟨hAt, hOw⟩ := HR.out k hlt
        rw [mixW_now] at hAt hOw
        have HNew := hid (mixW_new k0 xs k)
        have hps := HPS.out k hlt
        have hpm := HPM.out (k + 1) (by omega)
        have hpm0 := HPM.out k (by omega)
        have hsh := HS.out k hlt
        obtain ⟨x, hx⟩ : ∃ x, x = xs.getD k ro.iz := ⟨_, rfl⟩
        rw [← hx] at hAt hOw hps hsh HNew
        clear hx
        have HYO := hid hOw
        have HAt := hid hAt
        have x5 := hAt.c2
        clear hOw hAt
        obtain ⟨y, hy⟩ : ∃ y, y = k0 + (preW xs k : Int) := ⟨_, rfl⟩
        have hyb : 0 ≤ y ∧ y ≤ 1099000000000 := by omega
        have HY : Hid (k0 + (preW xs (k + 1) : Int) = y + 2 + (x.ps.length : Int)) := hid (by omega)
        rw [← hy] at HNew ⊢
        obtain ⟨fk, hfk⟩ : ∃ f, f = F k := ⟨_, rfl⟩
        rw [← hfk] at x5 HYO HAt
        have HFK := hid hfk
        clear hy hps hpm hpm0 hfk
        obtain ⟨f0, u0, z0⟩ := HWw.out.2 (k * 3) (by omega)
        obtain ⟨f1, u1, z1⟩ := HWw.out.2 (k * 3 + 1) (by omega)
        have hpl : x.ps.length ≤ 1048576 := hsh
        go_wp2_with fail
        clear f0 f1 z0 z1 x5
        have HW2 : Hid (WrM ((wr.setCell ⟨g, k * 3, none⟩ (.int .i64 y)).setCell ⟨g, k * 3 + 1, none⟩ (.int .i64 (y + 1))) g (n * 3)) := hid ((HWw.out.set (k * 3) _ (by omega)).set (k * 3 + 1) _ (by omega))
        have hC5 : Chg g (g + 1) wr ((wr.setCell ⟨g, k * 3, none⟩ (.int .i64 y)).setCell ⟨g, k * 3 + 1, none⟩ (.int .i64 (y + 1))) := chg_setM (chg_setM ⟨rfl, rfl, rfl, Nat.le_refl _, fun _ _ _ => rfl⟩ _ (Nat.le_refl _) (Nat.lt_succ_self _)) _ (Nat.le_refl _) (Nat.lt_succ_self _)
        have HC2 : Hid (Chg lo hi w ((wr.setCell ⟨g, k * 3, none⟩ (.int .i64 y)).setCell ⟨g, k * 3 + 1, none⟩ (.int .i64 (y + 1)))) := hid (HCw.out.trans (hC5.wide (by omega) (by omega)))
        have HR2 : Hid (∀ j, j < n → j ≠ k → ro.At ((wr.setCell ⟨g, k * 3, none⟩ (.int .i64 y)).setCell ⟨g, k * 3 + 1, none⟩ (.int .i64 (y + 1))) g (j * 3) (mixW k0 xs (k + 1) j) (F j) ∧ Own ((wr.setCell ⟨g, k * 3, none⟩ (.int .i64 y)).setCell ⟨g, k * 3 + 1, none⟩ (.int .i64 (y + 1))) (Lo j) (Hi j) (F j) (mixW k0 xs (k + 1) j).ps) := hid fun j hj hjk => by
          obtain ⟨x1, ho⟩ := HR.out j hj
          have hB := (HB.out j hj).2.2.1
          rw [mixW_past k0 xs k j hjk]
          exact ⟨at_past x1 _ _ (by omega), ho.chg hC5 (by omega)⟩
        have HNk := hid (at_mark HAt.out y (y + 1))
        have HFr2 : Hid (∀ a : Addr, ((wr.setCell ⟨g, k * 3, none⟩ (.int .i64 y)).setCell ⟨g, k * 3 + 1, none⟩ (.int .i64 (y + 1))).frozen? a = w.frozen? a ∨ a.block ≠ g) := hid fun a => by
          rw [World.frozen?_setCell, World.frozen?_setCell]; exact HFr.out a
        have HY2 : Hid (Own ((wr.setCell ⟨g, k * 3, none⟩ (.int .i64 y)).setCell ⟨g, k * 3 + 1, none⟩ (.int .i64 (y + 1))) (Lo k) (Hi k) fk x.ps) := hid (HYO.out.chg hC5 (by omega))
        have hsz5 := hC5.size
        clear hC5 HYO HR HCw HWw HAt HFr
        generalize ((wr.setCell ⟨g, k * 3, none⟩ (.int .i64 y)).setCell ⟨g, k * 3 + 1, none⟩ (.int .i64 (y + 1))) = wm at *
        refine (markI x.ps fk (Lo k) (Hi k) _ wm HY2.out (by omega) (by omega) (by omega)).mono ?_
        rintro e w2 ⟨rfl, o2, c2⟩
        have hsz2 := c2.size
        have hblk : w2.heap[g]? = wm.heap[g]? := c2.block g HW2.out.1 (by omega)
        have HW3 : Hid (WrM w2 g (n * 3)) := hid (HW2.out.blk c2.size hblk)
        have HC3 : Hid (Chg lo hi w w2) := hid (HC2.out.trans (c2.wide (by omega) (by omega)))
        have HFr3 : Hid (∀ a : Addr, w2.frozen? a = w.frozen? a ∨ a.block ≠ g) := hid fun a => by
          by_cases e : a.block = g
          · left
            have h1 : w2.frozen? a = wm.frozen? a := World.frozen?_of_block (w := wm) (w' := w2) (a := a) (by rw [e]; exact hblk)
            rw [h1]
            rcases HFr2.out a with h2 | h2
            · exact h2
            · exact absurd e h2
          · exact .inr e
        have HR3 : Hid (∀ j, j < n → ro.At w2 g (j * 3) (mixW k0 xs (k + 1) j) (F j) ∧ Own w2 (Lo j) (Hi j) (F j) (mixW k0 xs (k + 1) j).ps) := hid fun j hj => by
          by_cases e : j = k
          · subst e
            rw [HNew.out, ← HFK.out]
            have A2 := HNk.out.blk hsz2 hblk
            refine ⟨⟨A2.lt, A2.c0, A2.c1, A2.c2⟩, ?_⟩
            have e3 : y + 1 + 1 = y + 2 := by omega
            rw [e3] at o2
            exact o2
          · obtain ⟨x1, ho⟩ := HR2.out j hj e
            refine ⟨x1.blk hsz2 hblk, ho.chg c2 ?_⟩
            rcases Nat.lt_or_ge j k with h | h
            · have := (HB.out k hlt).2.2.2 j h; omega
            · have := (HB.out j hj).2.2.2 k (by omega); omega
        clear o2 c2 HW2 HC2 HR2 HY2 HFr2 HNk
        have HY5 : Hid (y + 1 + 1 + (x.ps.length : Int) = k0 + (preW xs (k + 1) : Int)) := hid (by have := HY.out; omega)
        go_wp2
        go_roundw
        case rel => exact ⟨k + 1, by omega, by go_num, by rw [← HY5.out], HW3.out, HC3.out, HR3, HFr3⟩
        case measure => simp [intOf]; omega
      · obtain rfl : k = n := by omega
        go_wp2
        go_ret
        refine ⟨rfl, ⟨Nat.le_trans HH.out HCw.out.size, .inr ⟨by rw [HL.out]; exact hp, g, cap, F, Lo, Hi, by rw [HL.out], h1, h2, fun o ho => ?_, fun j hj => ?_⟩⟩, HCw.out⟩
        · rw [HL.out] at ho
          exact (HWw.out.2 o ho).1
        · rw [HL.out] at hj
          obtain ⟨x1, ho⟩ := HR.out j hj
          have e : mixW k0 xs k j = (marksW k0 xs).getD j ro.iz := by rw [HMa.out j hj, mixW, if_pos hj]
          rw [e] at x1 ho
          exact ⟨by rw [Nat.zero_add]; exact x1, ho, HB.out j hj⟩

set_option maxRecDepth 100000 in
set_option maxHeartbeats 3200000 in
theorem heldWS (xs : List ro.V) (v : Value) (B : Nat) (k0 : Int) (w : World) (ha : ro.Infs w B v (marksW k0 xs)) (hq : ro.Small xs) (ht : ss.tot (ro.prs xs) ≤ 1048576) (hk0 : 0 ≤ k0) (hk1 : k0 ≤ 1000000000000) :
    Calls Tryd.prog 27 #[v, .int .i64 k0] w fun e w' => e = .returned (.int .i64 (k0 + (preW xs xs.length : Int))) ∧ w = w' := by
  have hn := hq.len
  have hs := hq.short
  clear hq
  rcases ha with ⟨h0, ao, cap, rfl⟩ | ⟨hp, b, off, cap, F, rfl, hb', hc⟩
  · have h00 : xs = [] := List.length_eq_zero_iff.1 (by rw [← marksW_len k0 xs, h0]; rfl)
    subst h00
    have HF : Hid (k0 + (preW ([] : List ro.V) 0 : Int) = k0) := hid (by simp [preW, ss.pre, ro.prs, ss.lens])
    clear h0
    go_enter Tryd.func27, Tryd.ntmps27
    go_wp2
    refine wp_loop_rounds 1 ?_
    rw [rounds_succ]
    go_wp2
    go_ret
    exact ⟨(by rw [HF.out]; rfl : _ = Ending.returned (.int .i64 (k0 + (preW ([] : List ro.V) 0 : Int)))), rfl⟩
  · rw [marksW_len] at hp hc ⊢
    have HPS : Hid (∀ k, k < xs.length → preW xs (k + 1) = preW xs k + 2 + (xs.getD k ro.iz).ps.length) := hid fun k hk => by
      unfold preW; rw [ss.pre_succ _ k (by rw [ro.prs_len]; exact hk), ro.prs_at xs k hk]; omega
    have HPM : Hid (∀ k, k ≤ xs.length → preW xs k ≤ 10000000) := hid fun k hk => preW_bound xs ht hn k hk
    have HP0 : Hid (preW xs 0 = 0) := hid rfl
    have HMa := hid (marksW_at k0 xs)
    have HS := hid hs
    have HC := hid hc
    clear hc hs ht
    obtain ⟨n, hnn⟩ : ∃ n, n = xs.length := ⟨_, rfl⟩
    rw [← hnn] at hp hn HPS HPM HS HMa HC ⊢
    clear hnn
    go_enter Tryd.func27, Tryd.ntmps27
    go_wp2
    go_loop [1, 5] (fun q i => ∃ k : Nat, k ≤ n ∧ i = .int .i64 k ∧ q = .int .i64 (k0 + (preW xs k : Int))) (fun _ i => n - (intOf i).toNat)
    case atStart => exact ⟨0, Nat.zero_le _, rfl, by rw [HP0.out]; simp⟩
    case round =>
      obtain ⟨k, hk, rfl, rfl⟩ := hrel
      by_cases hlt : k < n
      · obtain ⟨hA, hI⟩ := HC.out k hlt
        rw [HMa.out k hlt] at hA hI
        have hps := HPS.out k hlt
        have hpm := HPM.out (k + 1) (by omega)
        have hpm0 := HPM.out k (by omega)
        have hsh := HS.out k hlt
        obtain ⟨y, hy⟩ : ∃ y, y = k0 + (preW xs k : Int) := ⟨_, rfl⟩
        have hyb : 0 ≤ y ∧ y ≤ 1099000000000 := by omega
        rw [← hy] at hA hI ⊢
        have HY : Hid (k0 + (preW xs (k + 1) : Int) = y + 1 + 1 + ((xs.getD k ro.iz).ps.length : Int)) := hid (by omega)
        clear hy hps hpm hpm0
        generalize F k = fk at *
        have c0 := hA.c0
        have c1 := hA.c1
        have c2 := hA.c2
        simp only [mkV] at c0 c1 c2 hI
        generalize (xs.getD k ro.iz).ps.length = m at *
        rw [show y + 2 = y + 1 + 1 from by omega] at hI
        have HI := hid hI
        clear hA hI
        have HH := hid (fun w' (h : Ints w' B fk (marks (y + 1 + 1) m)) => heldI m fk B (y + 1 + 1) w' h (by omega) (by omega) (by omega))
        have hnn : decide (y + 1 + 1 + (m : Int) < 0) = false := by simp; omega
        go_wp2_with (go_at_call 41; refine (HH.out _ HI.out).mono ?_; rintro e w' ⟨rfl, rfl⟩)
        go_round
        case rel => exact ⟨k + 1, by omega, by go_num, by rw [HY.out]⟩
        case measure => simp [intOf]; omega
      · obtain rfl : k = n := by omega
        go_wp2
        go_ret
        exact ⟨rfl, rfl⟩

theorem markCF (s : Int) (xs : List ro.V) (f : Value) (lo hi : Nat) (k0 : Int) (w : World) (ho : ro.IOwn w lo hi f xs) (hq : ro.Small xs) (ht : ss.tot (ro.prs xs) ≤ 1048576) (hk0 : 0 ≤ k0) (hk1 : k0 ≤ 1048576) :
    Calls Tryd.prog 10 #[.agg #[.int .i64 s, f], .int .i64 k0] w fun e w' => e = .returned (.int .i64 (k0 + (preW xs xs.length : Int))) ∧ ro.IOwn w' lo hi f (marksW k0 xs) ∧ Chg lo hi w w' := by
  have hB := (Below.refl w.heap.size w).alloc (Nat.le_refl _) (.cells #[.int .i64 s, f] 28)
  have hC0 : Chg lo hi w (w.alloc (.cells #[.int .i64 s, f] 28)) := ⟨hB.os, hB.tape, hB.output, hB.size, fun k hk _ => hB.block k hk⟩
  have HM := hid (markWF xs f lo hi k0 _ (ho.chg (Chg.ofBelow (lo := 0) hB) (.inr (.inr (Nat.zero_le _)))) hq ht hk0 (by omega))
  have HC0 := hid hC0
  obtain ⟨ao, cap, hv⟩ := ro.infs_val ho.infs
  clear hB hC0 ho hq ht
  generalize preW xs xs.length = t at *
  generalize xs.length = n at *
  subst hv
  go_enter Tryd.func10, Tryd.ntmps10
  go_wp2_with fail
  refine HM.out.mono ?_
  rintro e w1 ⟨rfl, o1, c1⟩
  have HC := hid (HC0.out.trans c1)
  have HO := hid o1
  clear c1 o1
  go_wp2
  go_ret
  exact ⟨rfl, HO.out, HC.out⟩
theorem heldC (s : Int) (xs : List ro.V) (f : Value) (B : Nat) (k0 : Int) (w : World) (ha : ro.Infs w B f (marksW k0 xs)) (hq : ro.Small xs) (ht : ss.tot (ro.prs xs) ≤ 1048576) (hk0 : 0 ≤ k0) (hk1 : k0 ≤ 1048576) :
    Calls Tryd.prog 11 #[.agg #[.int .i64 s, f], .int .i64 k0] w fun e w' => e = .returned (.int .i64 (k0 + (preW xs xs.length : Int))) ∧ Below w.heap.size w w' := by
  have hB := (Below.refl w.heap.size w).alloc (Nat.le_refl _) (.cells #[.int .i64 s, f] 28)
  have HM := hid (heldWS xs f B k0 _ (ha.below hB) hq ht hk0 (by omega))
  have HB := hid hB
  obtain ⟨ao, cap, hv⟩ := ro.infs_val ha
  rw [marksW_len] at hv
  have hkp : decide (k0 + (preW xs xs.length : Int) < 0) = false := by simp; omega
  clear hB ha hq ht
  generalize preW xs xs.length = t at *
  generalize xs.length = n at *
  subst hv
  go_enter Tryd.func11, Tryd.ntmps11
  go_wp2_with fail
  refine HM.out.mono ?_
  rintro e w1 ⟨rfl, rfl⟩
  go_wp2
  go_ret
  exact ⟨rfl, HB.out⟩
end Go.Proofs.YtbbnheiibkcgiabDoor.ct
