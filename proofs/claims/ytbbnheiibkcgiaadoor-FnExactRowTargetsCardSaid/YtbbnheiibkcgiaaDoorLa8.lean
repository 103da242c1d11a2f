/-
  RowTargets of the model.
-/
import Derived.Test.YtbbnheiibkcgiaaDoorLa7
namespace Go.Proofs.YtbbnheiibkcgiaaDoor.la
open Go.RowKit Go.Proofs.YtbbnheiibkcgiaaDoor.sl Go.Proofs.YtbbnheiibkcgiaaDoor.pm Go.Proofs.YtbbnheiibkcgiaaDoor.br Go.Proofs.YtbbnheiibkcgiaaDoor.bw Go.Proofs.YtbbnheiibkcgiaaDoor.st Go.Proofs.YtbbnheiibkcgiaaDoor.wk Go.Proofs.YtbbnheiibkcgiaaDoor.rl
set_option linter.unusedVariables false
set_option maxRecDepth 100000

/-- The value's block lies outside of what came between. -/
def Out (a b : Nat) (u : Value) : Prop := ∀ g, u.ownBlock = some g → g < a ∨ b ≤ g
theorem wp_app3g {ops : Array Oper} {rest : List Oper} {o : Oper} {a : Act} {Q : Exit → Act → World → Prop} {w : World} (hgd : o.guard = none) (s x : Operand)
    (hop : o.op = .call { callee := .builtin .append, args := #[s, x], argTypes := #[34, 34] })
    (lo e : Nat) (w5 : World) (u1 u2 u3 : Value) (A B C : List Int) (x0 : Int) (h : T w lo u1 u2 u3 A B C) (c : Chg lo e w5 w) (ho : Out e w5.heap.size u1) (hs : a.eval s = u1) (hx : a.eval x = .slice (some ⟨w.heap.size, 0, none⟩) 1 1) (hlo : lo ≤ w5.heap.size) (hn : A.length ≤ 1048576)
    (hK : ∀ u' w', T w' lo u' u2 u3 (A ++ [x0]) B C → Out e w5.heap.size u' → Chg lo e w5 w' → wpList Tryd.prog ops Q rest (a.put o.dst u') w') : wpList Tryd.prog ops Q (o :: rest) a (w.alloc (.cells #[.int .i64 x0] 2)) := by
  obtain ⟨i0, hi', hz0, hz1, hz2⟩ := info_parts info64
  have b := (Below.refl w.heap.size w).alloc (Nat.le_refl _) (.cells #[.int .i64 x0] 2)
  have hcs := c.size
  have hsz : (w.alloc (.cells #[.int .i64 x0] 2)).heap.size = w.heap.size + 1 := by simp
  refine wpList_append_own_at _ hgd s x 34 hop lo 2 i0 (.int .i64 0) 1 8 Tryd.underlying34 hi' hz0 hz1 hz2 rfl (by decide) u1 A.length (A.map (Value.int .i64)) hs (h.below b).r1 ⟨w.heap.size, 0, none⟩ 1 1 [.int .i64 x0] hx (by simp)
    (fun j u hj => by
      match j, hj with
      | 0, hj =>
        simp only [List.getElem?_cons_zero, Option.some.injEq] at hj
        subst hj
        rw [Addr.add_lit, World.cell?_alloc_at _ _ _ _ rfl]; rfl)
    (fun u hu => by simp at hu; subst hu; rfl) (by unfold maxLen; omega) (by omega) (by simp; omega) ?_
  intro u' w' h2 h3 _ h5
  refine hK u' w' (h.app h2 h3 h5) (fun g hg => ?_) ⟨h3.os.trans c.os, h3.tape.trans c.tape, h3.output.trans c.output, by have := h3.size; omega, fun k hk hk' => ?_⟩
  · rcases h5 with h5 | h5
    · exact ho g (by rw [← h5]; exact hg)
    · rw [h5] at hg
      simp only [Option.some.injEq] at hg
      omega
  · rw [h3.block k (by omega) (by intro e'; have h6 := (h.r1.lt k e'.symm).1; have h7 := ho k e'.symm; omega), b.block k (by omega)]
    exact c.block k hk hk'
theorem sr_at2 {w : World} {lo : Nat} {v : Value} {vals : List Value} {L : List (List Int)} (h : SR w lo v vals L) (hL : 0 < L.length) : ∃ g c, v = .slice (some ⟨g, 0, none⟩) L.length c ∧ lo ≤ g ∧ g < w.heap.size ∧
    ∀ j, j < L.length → ∃ ya yc, w.cell? ⟨g, j, none⟩ = some (.slice ya (L.getD j []).length yc) ∧ Ints w w.heap.size (.slice ya (L.getD j []).length yc) (L.getD j []) ∧ (∀ b o, ya = some ⟨b, o, none⟩ → lo ≤ b) := by
  rcases h.row.2 with ⟨_, h0⟩ | ⟨g, c, cur, h1, h2, h3, _⟩
  · omega
  · refine ⟨g, c, h1, h2, (Array.getElem?_eq_some_iff.1 h3).1, fun j hj => ?_⟩
    obtain ⟨Lo, Hi, he⟩ := h.els
    have o := (he j hj).1
    have hlo := (he j hj).2.1
    obtain ⟨ao, cap, hv⟩ := br.own_val o
    have hg : v.ownBlock = some g := by rw [h1]; rfl
    have h4 := h.row.cells (g := g) hg j (vals.getD j (.bool false)) (by
      have hj' : j < vals.length := by rw [h.len]; exact hj
      simp [List.getD, List.getElem?_eq_getElem hj'])
    rw [Addr.add_lit] at h4
    simp only [Nat.zero_add] at h4
    rw [hv] at h4 o
    refine ⟨ao, cap, by simpa using h4, o.ints.mono o.2.2, fun b q hb => ?_⟩
    subst hb
    have := (o.1.lt b rfl).1
    omega

theorem T3.low {w : World} {lo lo' : Nat} {u1 u2 u3 : Value} {A B C : List Int} (h : T3 w lo u1 u2 u3 A B C) (hl : lo' ≤ lo) : T3 w lo' u1 u2 u3 A B C := by
  obtain ⟨l1, e1, l2, e2, l3, e3, o1, o2, o3, k1, k2, k3, r⟩ := h
  exact ⟨l1, e1, l2, e2, l3, e3, o1, o2, o3, by omega, by omega, by omega, r⟩

set_option maxHeartbeats 8000000 in
theorem specTg (xs : List Int) (v : Value) (B p : Nat) (w : World) (hp2 : w.cell? ⟨p, 2, none⟩ = some v) (hpl : p < w.heap.size) (ha : Ints w B v xs) (hB : B ≤ w.heap.size) (hp0 : 0 < xs.length) (hl : lst xs = true) :
    Calls Tryd.prog 40 #[.pointer (some ⟨p, 0, none⟩)] w fun e w' => ∃ v1 v2 v3, e = .returned (.tuple #[v1, v2, v3]) ∧ T3 w' w.heap.size v1 v2 v3 (tgT (hxA xs) xs xs.length) (tgT (hxB xs) xs xs.length) (tgT (hxC xs) xs xs.length) ∧ Below w.heap.size w w' := by
  have h16 := (lst_parts hl).1
  have HSt := hid (fun k hk => st_of hl k hk)
  have HLp := hid (fun h i k hi hk => tgP_len h (wid_le hl) i k hi hk)
  have hn1 := numL_len tk xs xs.length
  have hn2 := numL_len md xs xs.length
  have HR1 := hid (fun j (hj : j < xs.length) => numL_at tk xs xs.length j hj)
  have HR2 := hid (fun j (hj : j < xs.length) => numL_at md xs xs.length j hj)
  have HF1 := hid (fun W (c2 : W.cell? ⟨p, 2, none⟩ = some v) (hl' : p < W.heap.size) (h : Ints W B v xs) (hb : B ≤ W.heap.size) => specSrc xs v B p W c2 hl' h hb hp0 hl)
  have HF2 := hid (fun W (c2 : W.cell? ⟨p, 2, none⟩ = some v) (hl' : p < W.heap.size) (h : Ints W B v xs) (hb : B ≤ W.heap.size) => specRes xs v B p W c2 hl' h hb hp0 hl)
  have HI := hid ha
  obtain ⟨ao, cap, hv⟩ := ints_val ha
  obtain ⟨n, hn⟩ : ∃ n, n = xs.length := ⟨_, rfl⟩
  rw [← hn] at hv HSt HLp hn1 hn2 HR1 HR2 hp0 h16 HF1 HF2 ⊢
  clear hn hl ha
  generalize numL tk xs n = L1 at *
  generalize numL md xs n = L2 at *
  have b3 := (((Below.refl w.heap.size w).alloc (Nat.le_refl _) (.cells #[] 2)).alloc (by simp) (.cells #[] 2)).alloc (by simp; omega) (.cells #[] 2)
  have HT0 := hid (T.made w)
  have hs3 : (((w.alloc (.cells #[] 2)).alloc (.cells #[] 2)).alloc (.cells #[] 2)).heap.size = w.heap.size + 3 := by simp
  have hp3 := (b3.cell (p := ⟨p, 2, none⟩) hpl).trans hp2
  subst hv
  go_enter Tryd.func40, Tryd.ntmps40
  go_wp2_with fail
  generalize ((w.alloc (.cells #[] 2)).alloc (.cells #[] 2)).alloc (.cells #[] 2) = W3 at *
  have HB3 := hid b3
  clear b3 hp2
  refine (HF1.out W3 hp3 (by omega) (HI.out.chg (Chg.ofBelow (lo := 0) HB3.out) (.inr (Nat.zero_le _))) (by omega)).mono ?_
  rintro e w4 ⟨v1, vals1, rfl, s1, b4⟩
  have HT4 := hid (HT0.out.below b4)
  have hs4 := b4.size
  have HB4 := hid (HB3.out.trans (b4.mono (by omega)))
  have hp4 := (b4.cell (p := ⟨p, 2, none⟩) (by show p < _; omega)).trans hp3
  have HS1 := hid s1
  clear s1 b4 HT0 hp3
  go_wp2_with fail
  refine (HF2.out w4 hp4 (by omega) (HI.out.chg (Chg.ofBelow (lo := 0) HB4.out) (.inr (Nat.zero_le _))) (by omega)).mono ?_
  rintro e w5 ⟨v2, vals2, rfl, s2, b5⟩
  have HT5 := hid (HT4.out.below b5)
  have hs5 := b5.size
  have HB5 := hid (HB4.out.trans (b5.mono (by omega)))
  obtain ⟨g1, c1, hv1, hg1l, hg1, hrow1⟩ := sr_at2 (HS1.out.below b5) (by omega)
  obtain ⟨g2, c2, hv2, hg2l, hg2, hrow2⟩ := sr_at2 (s2.low (lo' := W3.heap.size) hs4) (by omega)
  have HW1 := hid hrow1
  have HW2 := hid hrow2
  rw [hn1] at hv1 HW1
  rw [hn2] at hv2 HW2
  clear hrow1 hrow2 s2 b5 HS1 HT4 hp4 hn1 hn2
  subst hv1 hv2
  have HC5 := hid (Chg.refl w.heap.size W3.heap.size w5)
  have hsz5 : w.heap.size + 3 ≤ w5.heap.size := by omega
  have HO1 : Hid (Out W3.heap.size w5.heap.size (.slice (some ⟨w.heap.size, 0, none⟩) 0 0)) := hid (fun g hg => by simp only [Value.ownBlock, Option.some.injEq] at hg; omega)
  have HO2 : Hid (Out W3.heap.size w5.heap.size (.slice (some ⟨w.heap.size + 1, 0, none⟩) 0 0)) := hid (fun g hg => by simp only [Value.ownBlock, Option.some.injEq] at hg; omega)
  have HO3 : Hid (Out W3.heap.size w5.heap.size (.slice (some ⟨w.heap.size + 1 + 1, 0, none⟩) 0 0)) := hid (fun g hg => by simp only [Value.ownBlock, Option.some.injEq] at hg; omega)
  go_wp2
  go_loopw [5, 6, 7, 10] (fun s1 s2 s3 i wr => ∃ (k : Nat) (z1 z2 z3 : Value), k ≤ n ∧ s1 = z1 ∧ s2 = z2 ∧ s3 = z3 ∧ i = .int .i64 k ∧ T wr w.heap.size z1 z2 z3 (tgT (hxA xs) xs k) (tgT (hxB xs) xs k) (tgT (hxC xs) xs k) ∧ (Out W3.heap.size w5.heap.size z1 ∧ Out W3.heap.size w5.heap.size z2 ∧ Out W3.heap.size w5.heap.size z3) ∧ Chg w.heap.size W3.heap.size w5 wr) (fun _ _ _ i _ => n - (intOf i).toNat)
  case atStart => exact ⟨0, _, _, _, Nat.zero_le _, rfl, rfl, rfl, rfl, HT5.out, ⟨HO1.out, HO2.out, HO3.out⟩, HC5.out⟩
  case round =>
    obtain ⟨k, z1, z2, z3, hk, rfl, rfl, rfl, rfl, hown, hout, hch⟩ := hrel
    have HO := hid hown
    have HU := hid hout
    have HC := hid hch
    have hszr := hch.size
    clear hown hout hch HT5 HO1 HO2 HO3 HC5
    by_cases hlt : k < n
    · obtain ⟨m, q, sx⟩ := HSt.out k hlt
      have HS := hid sx
      obtain ⟨ya, yc, hc1, hi1, hb1⟩ := HW1.out k (by omega)
      obtain ⟨yb, yd, hc2, hi2, hb2⟩ := HW2.out k (by omega)
      have e1 : L1.getD k [] = sl.marks (sF tk xs k) m := by rw [HR1.out k hlt]; have := sx.wid; unfold wid at this; rw [this]
      have e2 : L2.getD k [] = sl.marks (sF md xs k) (q + 1) := by rw [HR2.out k hlt, sx.mq]
      obtain ⟨q1, hq1⟩ : ∃ q1, q1 = q + 1 := ⟨_, rfl⟩
      rw [e1, sl.marks_len] at hc1 hi1
      rw [e2, ← hq1, sl.marks_len] at hc2 hi2
      have Hq1 := hid hq1
      have HI1 := hid hi1
      have HI2 := hid hi2
      have HLb1 := hid hb1
      have HLb2 := hid hb2
      have h1 := (World.cell?_of_block (w := w5) (w' := wr) (a := ⟨g1, k, none⟩) (HC.out.block g1 hg1 (by omega))).trans hc1
      have hm4 := sx.m4
      have hq4 := sx.q4
      have htb := sx.tb
      have ht2b := sx.t2b
      clear hi1 hi2 e1 e2 hq1 sx hb1 hb2
      generalize sF tk xs k = t at *
      generalize sF md xs k = t2 at *
      have HO2 : Hid (T wr w.heap.size u5 u6 u7 (tgP (hxA xs) xs k 0) (tgP (hxB xs) xs k 0) (tgP (hxC xs) xs k 0)) := hid (by rw [tgP_zero, tgP_zero, tgP_zero]; exact HO.out)
      obtain ⟨W6, rfl⟩ : ∃ W, W = wr := ⟨_, rfl⟩
      clear HO h1
      go_wp2
      go_loopw [5, 6, 7, 11] (fun s1 s2 s3 i wv => ∃ (j : Nat) (z1 z2 z3 : Value), j ≤ m ∧ s1 = z1 ∧ s2 = z2 ∧ s3 = z3 ∧ i = .int .i64 j ∧ T wv w.heap.size z1 z2 z3 (tgP (hxA xs) xs k j) (tgP (hxB xs) xs k j) (tgP (hxC xs) xs k j) ∧ (Out W3.heap.size w5.heap.size z1 ∧ Out W3.heap.size w5.heap.size z2 ∧ Out W3.heap.size w5.heap.size z3) ∧ Chg w.heap.size W3.heap.size w5 wv) (fun _ _ _ i _ => m - (intOf i).toNat)
      case atStart => exact ⟨0, _, _, _, Nat.zero_le _, rfl, rfl, rfl, rfl, HO2.out, HU.out, HC.out⟩
      case round =>
        obtain ⟨j, z1, z2, z3, hj, rfl, rfl, rfl, rfl, hown, hout, hch⟩ := hrel
        have HT := hid hown
        have HUv := hid hout
        have HCv := hid hch
        have hszv := hch.size
        have h1 := (World.cell?_of_block (w := w5) (w' := wr) (a := ⟨g1, k, none⟩) (hch.block g1 hg1 (by omega))).trans hc1
        clear hown hout hch HO2 HU HC
        by_cases hjm : j < m
        · have hat := HS.out.at_ j hjm
          obtain ⟨a, hae⟩ : ∃ a, a = atK xs k j := ⟨_, rfl⟩
          rw [← hae] at hat
          have ham : a < m ∧ a < q1 ∧ a ≤ 4 := by have := Hq1.out; omega
          have hcase : (q1 = 1 ∧ a = 0) ∨ (¬ q1 = 1 ∧ a = j) := by have := Hq1.out; omega
          have HA1 := hid (HS.out.a j)
          have HA2 := hid (HS.out.b j)
          have HA3 := hid (HS.out.c j)
          rw [← hae] at HA2 HA3
          have hl1 := HLp.out (hxA xs) k j (by omega) (by omega)
          have hl2 := HLp.out (hxB xs) k j (by omega) (by omega)
          have hl3 := HLp.out (hxC xs) k j (by omega) (by omega)
          have HX1 := hid (tgP_succ (hxA xs) xs k j)
          have HX2 := hid (tgP_succ (hxB xs) xs k j)
          have HX3 := hid (tgP_succ (hxC xs) xs k j)
          rw [HA1.out] at HX1
          rw [HA2.out] at HX2
          rw [HA3.out] at HX3
          have HN1 := hid (needS (t + (j : Int)) (by omega))
          have HN2 := hid (needS (t + (a : Int)) (by omega))
          have HN3 := hid (needS (t2 + (a : Int)) (by omega))
          rcases HI1.out with ⟨hx, _⟩ | ⟨hp1, p1, o1, cc1, hv1, hp1b, hcl1⟩
          · have := congrArg List.length hx; rw [sl.marks_len] at this; simp at this; omega
          rcases HI2.out with ⟨hx, _⟩ | ⟨hp2, p2, o2, cc2, hv2, hp2b, hcl2⟩
          · have := congrArg List.length hx; rw [sl.marks_len] at this; simp at this; omega
          rw [sl.marks_len] at hv1 hv2 hcl1 hcl2
          simp only [Value.slice.injEq, true_and] at hv1 hv2
          obtain ⟨rfl, rfl⟩ := hv1
          obtain ⟨rfl, rfl⟩ := hv2
          have hlb1 := HLb1.out p1 o1 rfl
          have hlb2 := HLb2.out p2 o2 rfl
          have KC := hid (fun (wx : World) (c : Chg w.heap.size W3.heap.size w5 wx) => show (wx.cell? ⟨g1, k, none⟩ = some (.slice (some ⟨p1, o1, none⟩) m yc) ∧ wx.cell? ⟨g2, k, none⟩ = some (.slice (some ⟨p2, o2, none⟩) q1 yd)) ∧ wx.cell? ⟨p1, o1 + j, none⟩ = some (.int .i64 (t + (j : Int))) ∧ wx.cell? ⟨p1, o1 + a, none⟩ = some (.int .i64 (t + (a : Int))) ∧ wx.cell? ⟨p2, o2 + a, none⟩ = some (.int .i64 (t2 + (a : Int))) from
            ⟨⟨(World.cell?_of_block (w := w5) (w' := wx) (a := ⟨g1, k, none⟩) (c.block g1 hg1 (by omega))).trans hc1, (World.cell?_of_block (w := w5) (w' := wx) (a := ⟨g2, k, none⟩) (c.block g2 hg2 (by omega))).trans hc2⟩,
             (World.cell?_of_block (w := w5) (w' := wx) (a := ⟨p1, o1 + j, none⟩) (c.block p1 hp1b (by omega))).trans (by rw [hcl1 j hjm, sl.marks_at _ _ _ hjm]),
             (World.cell?_of_block (w := w5) (w' := wx) (a := ⟨p1, o1 + a, none⟩) (c.block p1 hp1b (by omega))).trans (by rw [hcl1 a ham.1, sl.marks_at _ _ _ ham.1]),
             (World.cell?_of_block (w := w5) (w' := wx) (a := ⟨p2, o2 + a, none⟩) (c.block p2 hp2b (by omega))).trans (by rw [hcl2 a ham.2.1, sl.marks_at _ _ _ ham.2.1])⟩)
          have haq : a < q1 := ham.2.1
          have ham1 : a < m := ham.1
          have hq1b : q1 ≤ 4 := by have := Hq1.out; omega
          obtain ⟨⟨r1, r2⟩, n1, n2, n3⟩ := KC.out _ HCv.out
          clear hcl1 hcl2 hp1 hp2 hat hae HA1 HA2 HA3 ham h1
          generalize tgP (hxA xs) xs k j = Z1 at *
          generalize tgP (hxB xs) xs k j = Z2 at *
          generalize tgP (hxC xs) xs k j = Z3 at *
          rcases hcase with ⟨hq, rfl⟩ | ⟨hq, rfl⟩
          · have e0 : t + ((0 : Nat) : Int) = t := by omega
            have e2 : t2 + ((0 : Nat) : Int) = t2 := by omega
            replace HN2 := hid (e0 ▸ HN2.out)
            replace HN3 := hid (e2 ▸ HN3.out)
            replace HX2 : Hid (tgP (hxB xs) xs k (j + 1) = Z2 ++ [2 * t + 1]) := hid (by have h := HX2.out; rw [e0] at h; exact h)
            replace HX3 : Hid (tgP (hxC xs) xs k (j + 1) = Z3 ++ [2 * t2 + 1]) := hid (by have h := HX3.out; rw [e2] at h; exact h)
            simp only [Nat.add_zero, e0, e2] at n2 n3
            have E0 := hid e0
            have E2 := hid e2
            have hb1 : ((q1 : Int) == 1) = true := by simp; omega
            have hb1n : (q1 == 1) = true := by simp; omega
            clear e0 e2
            go_wp2_with fail
            refine (HN1.out _).mono ?_
            rintro e w' ⟨rfl, rfl⟩
            clear r1 r2 n1 n2 n3
            go_wp2_with (at_builtin; refine wp_app3g rfl _ _ rfl w.heap.size W3.heap.size w5 _ _ _ Z1 Z2 Z3 (2 * (t + (j : Int)) + 1) HT.out HCv.out HUv.out.1 rfl rfl (by omega) (by omega) ?_; intro x1 w7 t7 o7 d7; have HT7 := hid t7.rot; have HC7 := hid d7; have HO7 := hid o7; obtain ⟨⟨r1, r2⟩, n1, n2, n3⟩ := KC.out _ d7; simp only [Nat.add_zero, E0.out, E2.out] at n2 n3; clear t7 o7 d7)
            refine (HN2.out _).mono ?_
            rintro e w' ⟨rfl, rfl⟩
            clear r1 r2 n1 n2 n3
            go_wp2_with (at_builtin; refine wp_app3g rfl _ _ rfl w.heap.size W3.heap.size w5 _ _ _ Z2 Z3 (Z1 ++ [(2 * (t + (j : Int)) + 1)]) (2 * t + 1) HT7.out HC7.out HUv.out.2.1 rfl rfl (by omega) (by omega) ?_; intro x2 w8 t8 o8 d8; have HT8 := hid t8.rot; have HC8 := hid d8; have HO8 := hid o8; obtain ⟨⟨r1, r2⟩, n1, n2, n3⟩ := KC.out _ d8; simp only [Nat.add_zero, E0.out, E2.out] at n2 n3; clear t8 o8 d8)
            refine (HN3.out _).mono ?_
            rintro e w' ⟨rfl, rfl⟩
            clear r1 r2 n1 n2 n3
            go_wp2_with (at_builtin; refine wp_app3g rfl _ _ rfl w.heap.size W3.heap.size w5 _ _ _ Z3 (Z1 ++ [(2 * (t + (j : Int)) + 1)]) (Z2 ++ [(2 * t + 1)]) (2 * t2 + 1) HT8.out HC8.out HUv.out.2.2 rfl rfl (by omega) (by omega) ?_; intro x3 w9 t9 o9 d9; have HT9 := hid t9.rot; have HC9 := hid d9; have HO9 := hid o9; clear t9 o9 d9)
            go_roundw
            case rel => exact ⟨j + 1, _, _, _, by omega, rfl, rfl, rfl, by go_num, by rw [HX1.out, HX2.out, HX3.out]; exact HT9.out, ⟨HO7.out, HO8.out, HO9.out⟩, HC9.out⟩
            case measure => simp [intOf]; omega
          · have hb1 : ((q1 : Int) == 1) = false := by simp; omega
            have hb1n : (q1 == 1) = false := by simp; omega
            clear hq
            go_wp2_with fail
            refine (HN1.out _).mono ?_
            rintro e w' ⟨rfl, rfl⟩
            clear r1 r2 n1 n2 n3
            go_wp2_with (at_builtin; refine wp_app3g rfl _ _ rfl w.heap.size W3.heap.size w5 _ _ _ Z1 Z2 Z3 (2 * (t + (a : Int)) + 1) HT.out HCv.out HUv.out.1 rfl rfl (by omega) (by omega) ?_; intro x1 w7 t7 o7 d7; have HT7 := hid t7.rot; have HC7 := hid d7; have HO7 := hid o7; obtain ⟨⟨r1, r2⟩, n1, n2, n3⟩ := KC.out _ d7; clear t7 o7 d7)
            refine (HN2.out _).mono ?_
            rintro e w' ⟨rfl, rfl⟩
            clear r1 r2 n1 n2 n3
            go_wp2_with (at_builtin; refine wp_app3g rfl _ _ rfl w.heap.size W3.heap.size w5 _ _ _ Z2 Z3 (Z1 ++ [(2 * (t + (a : Int)) + 1)]) (2 * (t + (a : Int)) + 1) HT7.out HC7.out HUv.out.2.1 rfl rfl (by omega) (by omega) ?_; intro x2 w8 t8 o8 d8; have HT8 := hid t8.rot; have HC8 := hid d8; have HO8 := hid o8; obtain ⟨⟨r1, r2⟩, n1, n2, n3⟩ := KC.out _ d8; clear t8 o8 d8)
            refine (HN3.out _).mono ?_
            rintro e w' ⟨rfl, rfl⟩
            clear r1 r2 n1 n2 n3
            go_wp2_with (at_builtin; refine wp_app3g rfl _ _ rfl w.heap.size W3.heap.size w5 _ _ _ Z3 (Z1 ++ [(2 * (t + (a : Int)) + 1)]) (Z2 ++ [(2 * (t + (a : Int)) + 1)]) (2 * (t2 + (a : Int)) + 1) HT8.out HC8.out HUv.out.2.2 rfl rfl (by omega) (by omega) ?_; intro x3 w9 t9 o9 d9; have HT9 := hid t9.rot; have HC9 := hid d9; have HO9 := hid o9; clear t9 o9 d9)
            go_roundw
            case rel => exact ⟨a + 1, _, _, _, by omega, rfl, rfl, rfl, by go_num, by rw [HX1.out, HX2.out, HX3.out]; exact HT9.out, ⟨HO7.out, HO8.out, HO9.out⟩, HC9.out⟩
            case measure => simp [intOf]; omega
        · obtain rfl : j = m := by omega
          have HTe : Hid (T wr w.heap.size u5 u6 u7 (tgT (hxA xs) xs (k + 1)) (tgT (hxB xs) xs (k + 1)) (tgT (hxC xs) xs (k + 1))) := hid (by have h := HT.out; rw [← HS.out.wid, tgP_full, tgP_full, tgP_full] at h; exact h)
          go_wp2
          go_roundw
          case rel => exact ⟨k + 1, _, _, _, by omega, rfl, rfl, rfl, by go_num, HTe.out, HUv.out, HCv.out⟩
          case measure => simp [intOf]; omega
    · obtain rfl : k = n := by omega
      go_wp2
      refine bodyPost_ret (v := .tuple #[u5, u6, u7]) (by simp [results, Tryd.results40, go_sem]) rfl ⟨_, _, _, rfl, HO.out.out (by omega), HB5.out.trans (HC.out.below (Nat.le_refl _) (by omega))⟩

set_option maxHeartbeats 4000000 in
theorem specRT (d c : Int) (xs : List Int) (v : Value) (B : Nat) (w : World) (ha : Ints w B v xs) (hB : B ≤ w.heap.size) (hq : l5.Small xs) :
    Calls Tryd.prog 14 #[.agg #[.int .i64 d, .int .i64 c, v]] w fun e w' => ∃ v1 v2 v3, e = .returned (.tuple #[v1, v2, v3, .int .i64 (laC d c xs)]) ∧ T3 w' w.heap.size v1 v2 v3 (rtW hxA d c xs) (rtW hxB d c xs) (rtW hxC d c xs) ∧ Below w.heap.size w w' := by
  have hb0 := (Below.refl w.heap.size w).alloc (Nat.le_refl _) (.cells #[.int .i64 d, .int .i64 c, v] 40)
  have hal := hid hb0
  have HA := hid (ints_al ha (.cells #[.int .i64 d, .int .i64 c, v] 40))
  have HI := hid (specLay d c xs v B w.heap.size (w.alloc (.cells #[.int .i64 d, .int .i64 c, v] 40)) ⟨by simp, World.cell?_alloc_at _ _ _ _ rfl, World.cell?_alloc_at _ _ _ _ rfl, World.cell?_alloc_at _ _ _ _ rfl⟩ HA.out (by simp; omega) hq)
  obtain ⟨ao, cap, hv⟩ := ints_val ha
  have k2 : (w.alloc (.cells #[.int .i64 d, .int .i64 c, v] 40)).cell? ⟨w.heap.size, 2, none⟩ = some v := World.cell?_alloc_at _ _ _ _ rfl
  clear ha hb0
  by_cases h0 : laC d c xs = 0
  · have hrow := la_row h0
    have hpos := la_pos (la_q h0)
    have HL := hid (fun W (c2 : W.cell? ⟨w.heap.size, 2, none⟩ = some v) (hl : w.heap.size < W.heap.size) (h : Ints W B v xs) (hb : B ≤ W.heap.size) => specTg xs v B w.heap.size W c2 hl h hb hpos (row_lst hrow))
    have HW : Hid (∀ h, rtW h d c xs = tgT (h xs) xs xs.length) := hid (fun h => by rw [rtW, if_pos h0])
    have HC := hid h0
    rw [h0] at HI
    rw [HW.out, HW.out, HW.out, HC.out]
    clear h0 hrow hpos hq HW HC
    generalize tgT (hxA xs) xs xs.length = LA at *
    generalize tgT (hxB xs) xs xs.length = LB at *
    generalize tgT (hxC xs) xs xs.length = LC at *
    obtain ⟨n, hn⟩ : ∃ n, n = xs.length := ⟨_, rfl⟩
    rw [← hn] at hv
    clear hn
    subst hv
    go_enter Tryd.func14, Tryd.ntmps14
    go_wp2_with fail
    refine HI.out.mono ?_
    rintro e w1 ⟨rfl, b1⟩
    have B1 := hid (hal.out.trans (b1.mono hal.out.size))
    have j2 := (b1.cell (p := ⟨w.heap.size, 2, none⟩) (by simp)).trans k2
    have HA1 := hid (HA.out.chg (Chg.ofBelow (lo := 0) b1) (.inr (Nat.zero_le _)))
    have hs1 := B1.out.size
    have hlt1 : w.heap.size < w1.heap.size := by have := b1.size; simp at this; omega
    clear b1 k2
    go_wp2_with fail
    refine (HL.out _ j2 hlt1 HA1.out (by omega)).mono ?_
    rintro e w2 ⟨v1, v2, v3, rfl, t2, b2⟩
    have O2 := hid (t2.low hs1)
    have B2 := hid (B1.out.trans (b2.mono hs1))
    clear t2 b2
    go_wp2
    refine bodyPost_ret (v := .tuple #[v1, v2, v3, .int .i64 0]) (by simp [results, Tryd.results14, go_sem]) rfl ⟨_, _, _, rfl, O2.out, B2.out⟩
  · have HW : Hid (∀ h, rtW h d c xs = []) := hid (fun h => by rw [rtW, if_neg h0])
    have hd : (laC d c xs != 0) = true := by simpa using h0
    rw [HW.out, HW.out, HW.out]
    clear h0 hq HW
    generalize laC d c xs = cd at *
    obtain ⟨n, hn⟩ : ∃ n, n = xs.length := ⟨_, rfl⟩
    rw [← hn] at hv
    clear hn
    subst hv
    go_enter Tryd.func14, Tryd.ntmps14
    go_wp2_with fail
    refine HI.out.mono ?_
    rintro e w1 ⟨rfl, b1⟩
    have B1 := hid (hal.out.trans (b1.mono hal.out.size))
    clear b1
    go_wp2
    refine bodyPost_ret (v := .tuple #[.slice none 0 0, .slice none 0 0, .slice none 0 0, .int .i64 cd]) (by simp [results, Tryd.results14, go_sem]) rfl ⟨_, _, _, rfl, (T.nil _ _).out B1.out.size, B1.out⟩
end Go.Proofs.YtbbnheiibkcgiaaDoor.la
