/-
  substitutionOf.
-/
import Derived.Test.YtfechjhngcmdpabRr
namespace Go.Proofs.Ytfechjhngcmdpab.rr
open Go.RowKit Go.Proofs.Ytfechjhngcmdpab.sl Go.Proofs.Ytfechjhngcmdpab.pm Go.Proofs.Ytfechjhngcmdpab.bw Go.Proofs.Ytfechjhngcmdpab.br Go.Proofs.Ytfechjhngcmdpab.fv Go.Proofs.Ytfechjhngcmdpab.fn Go.Proofs.Ytfechjhngcmdpab.fr Go.Proofs.Ytfechjhngcmdpab.ss Go.Proofs.Ytfechjhngcmdpab.ai Go.Proofs.Ytfechjhngcmdpab.ao Go.Proofs.Ytfechjhngcmdpab.pv Go.Proofs.Ytfechjhngcmdpab.ia Go.Proofs.Ytfechjhngcmdpab.aa
set_option linter.unusedVariables false

def posL (rows : List (List Int)) : List (List Int) := rows.map redL
def negL (rows : List (List Int)) : List (List Int) := rows.map fun r => neg (redL r)
theorem map_take (f : List Int → List Int) (rows : List (List Int)) (k : Nat) (h : k < rows.length) : (rows.map f).take (k + 1) = (rows.map f).take k ++ [f (rows.getD k [])] := by
  rw [List.take_succ_eq_append_getElem (by simpa using h)]
  simp [List.getD, h]

/-- Both lists in the struct's block. -/
structure Two (W : World) (S k1 k2 : Nat) (L1 L2 : List (List Int)) (ao1 ao2 : Option Addr) (c1 c2 : Nat) (vals1 vals2 : List Value) : Prop where
  h0 : W.cell? ⟨S, 0, none⟩ = some (.slice ao1 k1 c1)
  h1 : W.cell? ⟨S, 1, none⟩ = some (.slice ao2 k2 c2)
  f0 : W.frozen? ⟨S, 0, none⟩ = false
  f1 : W.frozen? ⟨S, 1, none⟩ = false
  r1 : RR W (S + 1) (.slice ao1 k1 c1) vals1 L1
  r2 : RR W (S + 1) (.slice ao2 k2 c2) vals2 L2
  s1 : Safe (Value.slice ao1 k1 c1).ownBlock (.slice ao2 k2 c2) vals2
  s2 : Safe (Value.slice ao2 k2 c2).ownBlock (.slice ao1 k1 c1) vals1
theorem Two.grown {W W' : World} {S k1 k2 : Nat} {L1 L2 : List (List Int)} {ao1 ao2 : Option Addr} {c1 c2 : Nat} {vals1 vals2 : List Value} (h : Two W S k1 k2 L1 L2 ao1 ao2 c1 c2 vals1 vals2) (hS : S < W.heap.size) (hg : W.grownBy W' none) : Two W' S k1 k2 L1 L2 ao1 ao2 c1 c2 vals1 vals2 := by
  have hb := hg.block S hS (by simp)
  exact ⟨by rw [World.cell?_of_block (w := W) (a := ⟨S, 0, none⟩) hb]; exact h.h0, by rw [World.cell?_of_block (w := W) (a := ⟨S, 1, none⟩) hb]; exact h.h1, by rw [World.frozen?_of_block (w := W) (a := ⟨S, 0, none⟩) hb]; exact h.f0, by rw [World.frozen?_of_block (w := W) (a := ⟨S, 1, none⟩) hb]; exact h.f1,
    h.r1.kept hg (safe_none _ _), h.r2.kept hg (safe_none _ _), h.s1, h.s2⟩
theorem Two.put1 {W W' : World} {S k1 k2 : Nat} {L1 L2 : List (List Int)} {ao1 ao2 ao' : Option Addr} {c1 c2 c' : Nat} {vals1 vals2 : List Value} {y : Value} {r : List Int} (h : Two W S k1 k2 L1 L2 ao1 ao2 c1 c2 vals1 vals2) (hk : k1 = L1.length) (hS : S < W.heap.size)
    (hr : W'.ownsRow (S + 1) 23 1 (.slice ao' (k1 + 1) c') (L1.length + 1) (vals1 ++ [y])) (hg : W.grownBy W' (Value.slice ao1 k1 c1).ownBlock) (h5 : (Value.slice ao' (k1 + 1) c').ownBlock = (Value.slice ao1 k1 c1).ownBlock ∨ (Value.slice ao' (k1 + 1) c').ownBlock = some W.heap.size)
    (oy : sl.Own W (S + 1) W.heap.size y r) (hy : ∀ g, (Value.slice ao1 k1 c1).ownBlock = some g → y.ownBlock ≠ some g) (hy2 : ∀ g, (Value.slice ao2 k2 c2).ownBlock = some g → y.ownBlock ≠ some g) :
    Two (W'.setCell ⟨S, 0, none⟩ (.slice ao' (k1 + 1) c')) S (k1 + 1) k2 (L1 ++ [r]) L2 ao' ao2 c' c2 (vals1 ++ [y]) vals2 := by
  have hb := hg.block S hS (fun e => (h.r1.ge S (by omega) S rfl).1 e.symm)
  have g0 : W'.cell? ⟨S, 0, none⟩ = some (.slice ao1 k1 c1) := by rw [World.cell?_of_block (w := W) (a := ⟨S, 0, none⟩) hb]; exact h.h0
  have g1 : W'.cell? ⟨S, 1, none⟩ = some (.slice ao2 k2 c2) := by rw [World.cell?_of_block (w := W) (a := ⟨S, 1, none⟩) hb]; exact h.h1
  have e0 : W'.frozen? ⟨S, 0, none⟩ = false := by rw [World.frozen?_of_block (w := W) (a := ⟨S, 0, none⟩) hb]; exact h.f0
  have e1 : W'.frozen? ⟨S, 1, none⟩ = false := by rw [World.frozen?_of_block (w := W) (a := ⟨S, 1, none⟩) hb]; exact h.f1
  have a1 := h.r1.app hr hg h5 oy hy
  have a2 := h.r2.kept hg h.s1
  refine ⟨ss.same_at g0, by rw [ss.other_at (by omega)]; exact g1, by rw [World.frozen?_setCell]; exact e0, by rw [World.frozen?_setCell]; exact e1, a1.kept (grown_set _ _ _ _) (a1.ge S (by omega)), a2.kept (grown_set _ _ _ _) (a2.ge S (by omega)), ?_, ?_⟩
  · rcases h5 with h5 | h5
    · rw [h5]; exact h.s1
    · rw [h5]; exact h.r2.lt _ (Nat.le_refl _)
  · intro k e
    refine ⟨fun e2 => ?_, fun z hz => ?_⟩
    · rcases h5 with h5 | h5
      · rw [h5] at e2; exact (h.s2 k e).1 e2
      · rw [h5] at e2
        have := (h.r2.row.lt k e).2
        simp only [Option.some.injEq] at e2
        omega
    · rw [List.mem_append] at hz
      rcases hz with hz | hz
      · exact (h.s2 k e).2 z hz
      · simp only [List.mem_singleton] at hz
        subst hz
        exact hy2 k e
theorem Two.put2 {W W' : World} {S k1 k2 : Nat} {L1 L2 : List (List Int)} {ao1 ao2 ao' : Option Addr} {c1 c2 c' : Nat} {vals1 vals2 : List Value} {y : Value} {r : List Int} (h : Two W S k1 k2 L1 L2 ao1 ao2 c1 c2 vals1 vals2) (hk : k2 = L2.length) (hS : S < W.heap.size)
    (hr : W'.ownsRow (S + 1) 23 1 (.slice ao' (k2 + 1) c') (L2.length + 1) (vals2 ++ [y])) (hg : W.grownBy W' (Value.slice ao2 k2 c2).ownBlock) (h5 : (Value.slice ao' (k2 + 1) c').ownBlock = (Value.slice ao2 k2 c2).ownBlock ∨ (Value.slice ao' (k2 + 1) c').ownBlock = some W.heap.size)
    (oy : sl.Own W (S + 1) W.heap.size y r) (hy : ∀ g, (Value.slice ao2 k2 c2).ownBlock = some g → y.ownBlock ≠ some g) (hy2 : ∀ g, (Value.slice ao1 k1 c1).ownBlock = some g → y.ownBlock ≠ some g) :
    Two (W'.setCell ⟨S, 1, none⟩ (.slice ao' (k2 + 1) c')) S k1 (k2 + 1) L1 (L2 ++ [r]) ao1 ao' c1 c' vals1 (vals2 ++ [y]) := by
  have hb := hg.block S hS (fun e => (h.r2.ge S (by omega) S rfl).1 e.symm)
  have g0 : W'.cell? ⟨S, 0, none⟩ = some (.slice ao1 k1 c1) := by rw [World.cell?_of_block (w := W) (a := ⟨S, 0, none⟩) hb]; exact h.h0
  have g1 : W'.cell? ⟨S, 1, none⟩ = some (.slice ao2 k2 c2) := by rw [World.cell?_of_block (w := W) (a := ⟨S, 1, none⟩) hb]; exact h.h1
  have e0 : W'.frozen? ⟨S, 0, none⟩ = false := by rw [World.frozen?_of_block (w := W) (a := ⟨S, 0, none⟩) hb]; exact h.f0
  have e1 : W'.frozen? ⟨S, 1, none⟩ = false := by rw [World.frozen?_of_block (w := W) (a := ⟨S, 1, none⟩) hb]; exact h.f1
  have a2 := h.r2.app hr hg h5 oy hy
  have a1 := h.r1.kept hg h.s2
  refine ⟨by rw [ss.other_at (by omega)]; exact g0, ss.same_at g1, by rw [World.frozen?_setCell]; exact e0, by rw [World.frozen?_setCell]; exact e1, a1.kept (grown_set _ _ _ _) (a1.ge S (by omega)), a2.kept (grown_set _ _ _ _) (a2.ge S (by omega)), ?_, ?_⟩
  · intro k e
    refine ⟨fun e2 => ?_, fun z hz => ?_⟩
    · rcases h5 with h5 | h5
      · rw [h5] at e2; exact (h.s1 k e).1 e2
      · rw [h5] at e2
        have := (h.r1.row.lt k e).2
        simp only [Option.some.injEq] at e2
        omega
    · rw [List.mem_append] at hz
      rcases hz with hz | hz
      · exact (h.s1 k e).2 z hz
      · simp only [List.mem_singleton] at hz
        subst hz
        exact hy2 k e
  · rcases h5 with h5 | h5
    · rw [h5]; exact h.s2
    · rw [h5]; exact h.r1.lt _ (Nat.le_refl _)
theorem RR.low {W : World} {lo lo' : Nat} {v : Value} {vals : List Value} {L : List (List Int)} (h : RR W lo v vals L) (hl : lo' ≤ lo) : RR W lo' v vals L :=
  ⟨h.len, ⟨h.row.1, by
    rcases h.row.2 with h1 | ⟨g, c, cur, h1, h2, h3⟩
    · exact .inl h1
    · exact .inr ⟨g, c, cur, h1, by omega, h3⟩⟩, fun j hj => (h.els j hj).lo hl, h.sep⟩
/-- A row of a newer block. -/
theorem RR.newer {W : World} {lo m : Nat} {v y : Value} {vals : List Value} {L : List (List Int)} {r : List Int} {W2 : World} {hi : Nat} (h : RR W lo v vals L) (oy : sl.Own W2 m hi y r) (hm : W.heap.size ≤ m) : ∀ g, v.ownBlock = some g → y.ownBlock ≠ some g := fun g e e2 => by
  have h1 := (h.row.lt g e).2
  have h2 := (oy.1.lt g e2).1
  omega
theorem oneCell_slice (ao : Option Addr) (n c : Nat) : (Value.slice ao n c).oneCell' = true := rfl
theorem rr_val {W : World} {lo : Nat} {v : Value} {vals : List Value} {L : List (List Int)} (h : RR W lo v vals L) : ∃ ao cap, v = .slice ao L.length cap := by
  rcases h.row.2 with ⟨h1, h2⟩ | ⟨g, c, cur, h1, _⟩
  · exact ⟨none, 0, by rw [h1, h2]⟩
  · exact ⟨_, c, h1⟩

set_option maxRecDepth 100000 in
set_option maxHeartbeats 4000000 in
theorem substitutionOf (rows : List (List Int)) (v : Value) (B : Nat) (w : World) (ha : RowsC w B v rows) (hB : B ≤ w.heap.size) (him : imB rows = true) :
    Calls Try.prog 35 #[v] w fun e w' => ∃ v1 v2 vals1 vals2, e = .returned (.agg #[v1, v2]) ∧ RR w' w.heap.size v1 vals1 (posL rows) ∧ RR w' w.heap.size v2 vals2 (negL rows) ∧ Below w.heap.size w w' := by
  obtain ⟨ao, cap, hv⟩ := rows_val ha.rows
  have h12 := im_small him
  have HIm := hid (fun k hk => im_rows him k hk)
  have HT1 := hid (fun k hk => map_take redL rows k hk)
  have HT2 := hid (fun k hk => map_take (fun r => neg (redL r)) rows k hk)
  have HRw := hid ha
  obtain ⟨n, hnn⟩ : ∃ n, n = rows.length := ⟨_, rfl⟩
  rw [← hnn] at hv h12 HIm HT1 HT2
  have HN := hid hnn
  have hL1 : ∀ k, k ≤ n → ((rows.map redL).take k).length = k := fun k hk => by rw [List.length_take, List.length_map]; omega
  have hL2 : ∀ k, k ≤ n → ((rows.map fun r => neg (redL r)).take k).length = k := fun k hk => by rw [List.length_take, List.length_map]; omega
  have HL1 := hid hL1
  have HL2 := hid hL2
  subst hv
  clear ha him hnn hL1 hL2
  have HB0 : Hid (Below w.heap.size w ((w.alloc (.cells #[.slice none 0 0, .slice none 0 0] 60)).alloc (.cells #[.slice none 0 0, .slice none 0 0] 60))) := hid (((Below.refl _ _).alloc (Nat.le_refl _) _).alloc (by simp) _)
  have HZ0 : Hid (((w.alloc (.cells #[.slice none 0 0, .slice none 0 0] 60)).alloc (.cells #[.slice none 0 0, .slice none 0 0] 60)).heap.size = w.heap.size + 2) := hid (by simp)
  have HTw : Hid (Two ((w.alloc (.cells #[.slice none 0 0, .slice none 0 0] 60)).alloc (.cells #[.slice none 0 0, .slice none 0 0] 60)) (w.heap.size + 1) 0 0 [] [] none none 0 0 [] []) := hid
    ⟨by simp [go_sem], by simp [go_sem], by simp [go_sem], by simp [go_sem], RR.nil _ _, RR.nil _ _, fun k e => (by cases e), fun k e => (by cases e)⟩
  have HR0 : Hid (∀ j, j < 2 → ((w.alloc (.cells #[.slice none 0 0, .slice none 0 0] 60)).alloc (.cells #[.slice none 0 0, .slice none 0 0] 60)).cell? ⟨w.heap.size, j, none⟩ = some (.slice none 0 0) ∧ ((w.alloc (.cells #[.slice none 0 0, .slice none 0 0] 60)).alloc (.cells #[.slice none 0 0, .slice none 0 0] 60)).frozen? ⟨w.heap.size, j, none⟩ = false) := hid (fun j hj => by
    obtain rfl | rfl : j = 0 ∨ j = 1 := by omega
    all_goals exact ⟨by simp [go_sem], by simp [go_sem]⟩)
  go_enter Try.func35, Try.ntmps35
  go_wp2
  generalize ((w.alloc (.cells #[.slice none 0 0, .slice none 0 0] 60)).alloc (.cells #[.slice none 0 0, .slice none 0 0] 60)) = w0 at *
  go_loopw [9] (fun i wr => ∃ (k : Nat) (ao1 ao2 : Option Addr) (c1 c2 : Nat) (vals1 vals2 : List Value), k ≤ n ∧ i = .int .i64 k ∧ Two wr (w.heap.size + 1) k k ((rows.map redL).take k) ((rows.map fun r => neg (redL r)).take k) ao1 ao2 c1 c2 vals1 vals2 ∧ Below w.heap.size w wr ∧ w.heap.size + 2 ≤ wr.heap.size ∧ ∀ j, j < 2 → wr.cell? ⟨w.heap.size, j, none⟩ = some (.slice none 0 0) ∧ wr.frozen? ⟨w.heap.size, j, none⟩ = false)
    (fun i _ => n - (intOf i).toNat)
  case atStart => exact ⟨0, none, none, 0, 0, [], [], Nat.zero_le _, rfl, by simpa using HTw.out, HB0.out, by rw [HZ0.out]; exact Nat.le_refl _, HR0.out⟩
  case round =>
    obtain ⟨k, ao1, ao2, c1, c2, vals1, vals2, hk, rfl, htw, hbel, hsz2, hres⟩ := hrel
    have HTr := hid htw
    have HB := hid hbel
    have HRs := hid hres
    have hsz := hbel.size
    clear htw hbel hres HTw HB0 HR0 HZ0
    have m0 := HTr.out.h0
    have m1 := HTr.out.h1
    by_cases hlt : k < n
    · have hx : ∃ b off x, ao = some ⟨b, off, none⟩ ∧ wr.cell? ⟨b, off + k, none⟩ = some x ∧ Ints wr B x (rows.getD k []) ∧ CapOk x := by
        rcases HRw.out with ⟨h, _⟩ | ⟨_, b, off, c, V, he, hb, hc⟩
        · have := HN.out; rw [h] at this; simp at this; omega
        · simp only [Value.slice.injEq] at he
          have h1 := hc k (by rw [← HN.out]; exact hlt)
          exact ⟨b, off, V k, he.1, (HB.out.cell (p := ⟨b, off + k, none⟩) (by show b < _; omega)).trans h1.1, h1.2.1.chg (Chg.ofBelow (lo := 0) HB.out) (.inr (Nat.zero_le _)), h1.2.2⟩
      obtain ⟨b, off, x, rfl, hx1, hx2, hx3⟩ := hx
      have hr := HIm.out k hlt
      obtain ⟨ax, cx, hvx⟩ := ints_val hx2
      have HRd := hid (reduced (rows.getD k []) x B wr hx2 (by omega) ⟨ax, cx, hvx, hx3 _ _ _ hvx⟩ (by omega) hr.2)
      have HT1k := hid (HT1.out k hlt)
      have HT2k := hid (HT2.out k hlt)
      have hrl := redL_len (rows.getD k [])
      have hsm := small_red hr.2
      have hl1 := HL1.out k hk
      have hl2 := HL2.out k hk
      clear hx2 hx3 hvx hr
      go_wp2_with fail
      refine HRd.out.mono ?_
      rintro e w3 ⟨v3, rfl, o3, b3⟩
      have hz3 := b3.size
      have HT3 := hid (HTr.out.grown (by omega) (grown_below b3 (Nat.le_refl _)))
      have HY1 := hid (HTr.out.r1.newer o3 (Nat.le_refl _))
      have HY2 := hid (HTr.out.r2.newer o3 (Nat.le_refl _))
      have HB3 := hid (HB.out.trans (b3.mono hsz))
      have HR3 : Hid (∀ j, j < 2 → w3.cell? ⟨w.heap.size, j, none⟩ = some (.slice none 0 0) ∧ w3.frozen? ⟨w.heap.size, j, none⟩ = false) := hid (fun j hj => ⟨(b3.cell (p := ⟨w.heap.size, j, none⟩) (by show w.heap.size < _; omega)).trans (HRs.out j hj).1, (b3.frozen (p := ⟨w.heap.size, j, none⟩) (by show w.heap.size < _; omega)).trans (HRs.out j hj).2⟩)
      have HO3 := hid (o3.lo (lo' := w.heap.size + 1 + 1) (by omega))
      obtain ⟨a3, p3, hv3⟩ := br.own_val o3
      clear o3 b3 HTr HB HRs HRd m0 m1
      generalize hzz : (redL (rows.getD k [])).length = z3 at *
      clear hzz
      subst hv3
      -- images
      have m0 := HT3.out.h0
      have q0 := HT3.out.f0
      have hga := grown_alloc w3 (.cells #[.slice a3 z3 p3] 23)
      have HTa := hid (HT3.out.grown (by omega) hga)
      have HOa := hid (own_kept HO3.out hga (fun k e => by cases e))
      have hca : (w3.alloc (.cells #[.slice a3 z3 p3] 23)).cell? ⟨w3.heap.size, 0, none⟩ = some (.slice a3 z3 p3) := World.cell?_alloc_at _ _ _ _ rfl
      clear hga
      have hrowa : (w3.alloc (.cells #[.slice a3 z3 p3] 23)).ownsRow (w.heap.size + 1 + 1) 23 1 (.slice ao1 k c1) k vals1 := by have := HTa.out.r1.row; rwa [hl1] at this
      have HRa := hid hrowa
      have hza : (w3.alloc (.cells #[.slice a3 z3 p3] 23)).heap.size = w3.heap.size + 1 := by simp
      have HZa := hid hza
      obtain ⟨i0, hi, hz0, hz1, hz2⟩ := info_parts infoS
      have HNw : Hid (∀ (j : Nat) (u : Value), ([Value.slice a3 z3 p3] : List Value)[j]? = some u → (w3.alloc (.cells #[.slice a3 z3 p3] 23)).cell? ((⟨w3.heap.size, 0, none⟩ : Addr).add j) = some u) := hid (fun j u hj => by
        match j, hj with
        | 0, hj =>
          simp only [List.getElem?_cons_zero, Option.some.injEq] at hj
          subst hj
          exact hca)
      clear hrowa hza hca
      go_wp2_with (at_builtin; refine Classical.byContradiction fun hcontra => ?_)
      apply hcontra
      refine wpList_append_own_at _ rfl _ _ 22 rfl (w.heap.size + 1 + 1) 23 i0 (.slice none 0 0) 1 24 Try.underlying22 hi hz0 hz1 hz2 rfl (by decide) (.slice ao1 k c1) k vals1 rfl HRa.out ⟨w3.heap.size, 0, none⟩ 1 1 [.slice a3 z3 p3] rfl (by simp) HNw.out (fun u hu => by simp at hu; subst hu; rfl) (by unfold maxLen; omega) (by omega) (by rw [HZa.out]; omega) ?_
      intro v4 w4 hr4 hg4 _ h54
      have hv4 : ∃ ao4 c4, v4 = .slice ao4 (k + 1) c4 := by
        rcases hr4.2 with ⟨_, h⟩ | ⟨g, c, cur, h, _⟩
        · omega
        · exact ⟨_, _, h⟩
      obtain ⟨ao4, c4, rfl⟩ := hv4
      have HT4 := hid (HTa.out.put1 hl1.symm (by rw [HZa.out]; omega) (by rw [hl1]; exact hr4) hg4 h54 HOa.out HY1.out HY2.out)
      have hz4 : w3.heap.size + 1 ≤ w4.heap.size := by have := hg4.size; rw [HZa.out] at this; exact this
      have hbS : (w.heap.size + 1) < w4.heap.size := by omega
      have hblk := hg4.block (w.heap.size + 1) (by rw [HZa.out]; omega) (fun e => (HTa.out.r1.ge (w.heap.size + 1) (by omega) _ rfl).1 e.symm)
      have m4 : w4.cell? ⟨w.heap.size + 1, 0, none⟩ = some (.slice ao1 k c1) := by rw [World.cell?_of_block (a := ⟨w.heap.size + 1, 0, none⟩) hblk]; exact HTa.out.h0
      have q4 : w4.frozen? ⟨w.heap.size + 1, 0, none⟩ = false := by rw [World.frozen?_of_block (a := ⟨w.heap.size + 1, 0, none⟩) hblk]; exact HTa.out.f0
      have HB4 : Hid (Below w.heap.size w (w4.setCell ⟨w.heap.size + 1, 0, none⟩ (.slice ao4 (k + 1) c4))) := hid ((((HB3.out.alloc (Nat.le_trans hsz hz3) _).grown hg4 (by rw [HZa.out]; omega) (fun j e => by have := (HTa.out.r1.row.lt j e).1; omega))).setCell (by simp) _)
      have hb0 := hg4.block w.heap.size (by rw [HZa.out]; omega) (fun e => (HTa.out.r1.ge w.heap.size (by omega) _ rfl).1 e.symm)
      have HR4 : Hid (∀ j, j < 2 → (w4.setCell ⟨w.heap.size + 1, 0, none⟩ (.slice ao4 (k + 1) c4)).cell? ⟨w.heap.size, j, none⟩ = some (.slice none 0 0) ∧ (w4.setCell ⟨w.heap.size + 1, 0, none⟩ (.slice ao4 (k + 1) c4)).frozen? ⟨w.heap.size, j, none⟩ = false) := hid (fun j hj => by
        have h3 := HR3.out j hj
        have h6 := Below.heap_alloc w3 (.cells #[.slice a3 z3 p3] 23) w.heap.size (by omega)
        have h7 : w4.heap[w.heap.size]? = w3.heap[w.heap.size]? := hb0.trans h6
        have h8 : (w4.setCell ⟨w.heap.size + 1, 0, none⟩ (.slice ao4 (k + 1) c4)).heap[w.heap.size]? = w3.heap[w.heap.size]? := ((grown_set w4 (w.heap.size + 1) 0 (.slice ao4 (k + 1) c4)).block w.heap.size (by omega) (by simp)).trans h7
        exact ⟨by rw [World.cell?_of_block (w := w3) (a := ⟨w.heap.size, j, none⟩) h8]; exact h3.1, by rw [World.frozen?_of_block (w := w3) (a := ⟨w.heap.size, j, none⟩) h8]; exact h3.2⟩)
      have HI4 : Hid (Ints (w4.setCell ⟨w.heap.size + 1, 0, none⟩ (.slice ao4 (k + 1) c4)) w4.heap.size (.slice a3 z3 p3) (redL (rows.getD k []))) := hid (by
        have h1 := own_kept (own_kept HOa.out hg4 HY1.out) (grown_set w4 (w.heap.size + 1) 0 (.slice ao4 (k + 1) c4)) (fun j e e2 => by
          cases e
          have := (HOa.out.1.lt _ e2).1
          omega)
        simpa using h1.ints)
      have hz5 : (w4.setCell ⟨w.heap.size + 1, 0, none⟩ (.slice ao4 (k + 1) c4)).heap.size = w4.heap.size := by simp
      clear hr4 hg4 h54 hblk hb0 HTa HOa HRa HNw HT3 HO3 HB3 HR3 HY1 HY2 m0 q0
      go_wp2_with fail
      generalize (w4.setCell ⟨w.heap.size + 1, 0, none⟩ (.slice ao4 (k + 1) c4)) = w5 at *
      clear m4 q4
      have m5 := HT4.out.h1
      have HIv := hid (fun (W : World) (hW : Below w5.heap.size w5 W) => inverseWord (redL (rows.getD k [])) (.slice a3 z3 p3) w4.heap.size W (HI4.out.chg (Chg.ofBelow (lo := 0) hW) (.inr (Nat.zero_le _))) (Nat.le_trans (by omega) hW.size) (by have := hrl; have := redL_len (rows.getD k []); have := (HIm.out k hlt).1; omega) hsm)
      have HNl := hid (neg_len (redL (rows.getD k [])))
      clear hsm HI4
      go_region_law (first
        | (refine step_appR rfl _ _ rfl (w.heap.size + 1 + 1) (.slice ao2 k c2) k vals2 HRb.out rfl ⟨w6.heap.size, 0, none⟩ 1 (.slice a6 l6 p6) rfl hc6 rfl (by rw [hz7]; omega) (by omega) ?_
           intro v8 w8 hr8 hg8 h58
           have hv8 : ∃ ao8 c8, v8 = .slice ao8 (k + 1) c8 := by
             rcases hr8.2 with ⟨_, h⟩ | ⟨g, c, cur, h, _⟩
             · omega
             · exact ⟨_, _, h⟩
           obtain ⟨ao8, c8, rfl⟩ := hv8
           have HT8 := hid (HTb.out.put2 hl2.symm (by rw [hz7]; omega) (by rw [hl2]; exact hr8) hg8 h58 HOb.out HYb2.out HYb1.out)
           have hz8 : w6.heap.size + 1 ≤ w8.heap.size := by have := hg8.size; rw [hz7] at this; exact this
           have hblk8 := hg8.block (w.heap.size + 1) (by rw [hz7]; omega) (fun e => (HTb.out.r2.ge (w.heap.size + 1) (by omega) _ rfl).1 e.symm)
           have m8 : w8.cell? ⟨w.heap.size + 1, 1, none⟩ = some (.slice ao2 k c2) := by rw [World.cell?_of_block (a := ⟨w.heap.size + 1, 1, none⟩) hblk8]; exact HTb.out.h1
           have q8 : w8.frozen? ⟨w.heap.size + 1, 1, none⟩ = false := by rw [World.frozen?_of_block (a := ⟨w.heap.size + 1, 1, none⟩) hblk8]; exact HTb.out.f1
           have HB8 : Hid (Below w.heap.size w (w8.setCell ⟨w.heap.size + 1, 1, none⟩ (.slice ao8 (k + 1) c8))) := hid ((((HB6.out.alloc (by omega) _).grown hg8 (by rw [hz7]; omega) (fun j e => by have := (HTb.out.r2.row.lt j e).1; omega))).setCell (by simp) _)
           have hb08 := hg8.block w.heap.size (by rw [hz7]; omega) (fun e => (HTb.out.r2.ge w.heap.size (by omega) _ rfl).1 e.symm)
           have HR8 : Hid (∀ j, j < 2 → (w8.setCell ⟨w.heap.size + 1, 1, none⟩ (.slice ao8 (k + 1) c8)).cell? ⟨w.heap.size, j, none⟩ = some (.slice none 0 0) ∧ (w8.setCell ⟨w.heap.size + 1, 1, none⟩ (.slice ao8 (k + 1) c8)).frozen? ⟨w.heap.size, j, none⟩ = false) := hid (fun j hj => by
             have h3 := HR6.out j hj
             have h6 := Below.heap_alloc w6 (.cells #[.slice a6 l6 p6] 23) w.heap.size (by omega)
             have h7 : w8.heap[w.heap.size]? = w6.heap[w.heap.size]? := hb08.trans h6
             have h8 : (w8.setCell ⟨w.heap.size + 1, 1, none⟩ (.slice ao8 (k + 1) c8)).heap[w.heap.size]? = w6.heap[w.heap.size]? := ((grown_set w8 (w.heap.size + 1) 1 (.slice ao8 (k + 1) c8)).block w.heap.size (by omega) (by simp)).trans h7
             exact ⟨by rw [World.cell?_of_block (w := w6) (a := ⟨w.heap.size, j, none⟩) h8]; exact h3.1, by rw [World.frozen?_of_block (w := w6) (a := ⟨w.heap.size, j, none⟩) h8]; exact h3.2⟩)
           have hz9 : (w8.setCell ⟨w.heap.size + 1, 1, none⟩ (.slice ao8 (k + 1) c8)).heap.size = w8.heap.size := by simp
           clear hr8 hg8 h58 hblk8 hb08)
        | (go_simp
           go_at_call 64
           refine (HIv.out _ (bdrewN (Below.refl _ _) _)).mono ?_
           rintro e w6 ⟨v6, rfl, o6, b6⟩
           have hb6 : Below w5.heap.size w5 w6 := (bdrewN (Below.refl _ _) _).trans b6
           have hz6 := hb6.size
           have HT6 := hid (HT4.out.grown (by omega) (grown_below hb6 (Nat.le_refl _)))
           have m6 := HT6.out.h1
           have HY61 := hid (HT4.out.r1.newer o6 (Nat.le_refl _))
           have HY62 := hid (HT4.out.r2.newer o6 (Nat.le_refl _))
           have HB6 := hid (HB4.out.trans (hb6.mono (by omega)))
           have HR6 : Hid (∀ j, j < 2 → w6.cell? ⟨w.heap.size, j, none⟩ = some (.slice none 0 0) ∧ w6.frozen? ⟨w.heap.size, j, none⟩ = false) := hid (fun j hj => ⟨(hb6.cell (p := ⟨w.heap.size, j, none⟩) (by show w.heap.size < _; omega)).trans (HR4.out j hj).1, (hb6.frozen (p := ⟨w.heap.size, j, none⟩) (by show w.heap.size < _; omega)).trans (HR4.out j hj).2⟩)
           have HO6 := hid (o6.lo (lo' := w.heap.size + 1 + 1) (by show w.heap.size + 1 + 1 ≤ w5.heap.size; omega))
           obtain ⟨a6, p6, hv6⟩ := br.own_val o6
           generalize hl6 : (neg (redL (rows.getD k []))).length = l6 at hv6
           clear hl6
           subst hv6
           have hga6 := grown_alloc w6 (.cells #[.slice a6 l6 p6] 23)
           have HTb := hid (HT6.out.grown (by omega) hga6)
           have m7 := HTb.out.h1
           have HOb := hid (own_kept HO6.out hga6 (fun k e => by cases e))
           have hc6 : (w6.alloc (.cells #[.slice a6 l6 p6] 23)).cell? ⟨w6.heap.size, 0, none⟩ = some (.slice a6 l6 p6) := World.cell?_alloc_at _ _ _ _ rfl
           have hz7 : (w6.alloc (.cells #[.slice a6 l6 p6] 23)).heap.size = w6.heap.size + 1 := by simp
           have HRb : Hid ((w6.alloc (.cells #[.slice a6 l6 p6] 23)).ownsRow (w.heap.size + 1 + 1) 23 1 (.slice ao2 k c2) k vals2) := hid (by have := HTb.out.r2.row; rwa [hl2] at this)
           have HYb1 := HY61
           have HYb2 := HY62
           clear o6 b6 hb6 hga6 HT6 HY61 HY62 HO6))
      all_goals (try go_wp2)
      all_goals
        go_roundw
        case rel => exact ⟨k + 1, _, _, _, _, _, _, by omega, by go_num, by rw [HT1k.out, HT2k.out]; exact HT8.out, HB8.out, by rw [hz9]; omega, HR8.out⟩
        case measure => simp [intOf]; omega
    · obtain rfl : k = n := by omega
      have r0 := (HRs.out 0 (by omega)).1
      have r1 := (HRs.out 1 (by omega)).1
      have f0 := (HRs.out 0 (by omega)).2
      have f1 := (HRs.out 1 (by omega)).2
      have e1 : (rows.map redL).take k = posL rows := List.take_of_length_le (by rw [List.length_map, ← HN.out]; exact Nat.le_refl _)
      have e2 : (rows.map fun r => neg (redL r)).take k = negL rows := List.take_of_length_le (by rw [List.length_map, ← HN.out]; exact Nat.le_refl _)
      rw [e1, e2] at HTr
      have HE : Hid (RR ((wr.setCell ⟨w.heap.size, 0, none⟩ (.slice ao1 k c1)).setCell ⟨w.heap.size, 1, none⟩ (.slice ao2 k c2)) w.heap.size (.slice ao1 k c1) vals1 (posL rows) ∧ RR ((wr.setCell ⟨w.heap.size, 0, none⟩ (.slice ao1 k c1)).setCell ⟨w.heap.size, 1, none⟩ (.slice ao2 k c2)) w.heap.size (.slice ao2 k c2) vals2 (negL rows) ∧ Below w.heap.size w ((wr.setCell ⟨w.heap.size, 0, none⟩ (.slice ao1 k c1)).setCell ⟨w.heap.size, 1, none⟩ (.slice ao2 k c2))) := hid
        ⟨((HTr.out.r1.kept (grown_set wr w.heap.size 0 _) (HTr.out.r1.ge _ (by omega))).kept (grown_set _ w.heap.size 1 _) (HTr.out.r1.ge _ (by omega))).low (by omega),
         ((HTr.out.r2.kept (grown_set wr w.heap.size 0 _) (HTr.out.r2.ge _ (by omega))).kept (grown_set _ w.heap.size 1 _) (HTr.out.r2.ge _ (by omega))).low (by omega),
         (HB.out.setCell (Nat.le_refl _) _).setCell (Nat.le_refl _) _⟩
      clear e1 e2 HL1 HL2 HT1 HT2 HIm
      go_wp2
      refine bodyPost_ret (v := .agg #[.slice ao1 k c1, .slice ao2 k c2]) (by simp [results, Try.results35, go_sem, r0, r1]) rfl ⟨_, _, vals1, vals2, rfl, HE.out.1, HE.out.2.1, HE.out.2.2⟩
end Go.Proofs.Ytfechjhngcmdpab.rr
