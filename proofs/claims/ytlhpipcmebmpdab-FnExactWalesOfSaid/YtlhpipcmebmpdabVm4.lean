/-
  Valid machines: every loop in one place; ValidMachine of the program.
-/
import Derived.Test.YtlhpipcmebmpdabVm3
import Derived.Test.YtlhpipcmebmpdabMc2
import Derived.Deep.RegionWith
namespace Go.Proofs.Ytlhpipcmebmpdab.mc
open Go.RowKit Go.Sort Go.Proofs.Ytlhpipcmebmpdab.sl Go.Proofs.Ytlhpipcmebmpdab.br Go.Proofs.Ytlhpipcmebmpdab.fn Go.Proofs.Ytlhpipcmebmpdab.ss
set_option linter.unusedVariables false
set_option linter.unusedSimpArgs false

theorem ints_mono' {w : World} {B B' : Nat} {v : Value} {xs : List Int} (h : Ints w B v xs) (hB : B ≤ B') : Ints w B' v xs := h.mono hB
/-- The values of a bed's rows. -/
theorem rown_vals {w : World} {lo hi : Nat} {v : Value} {rows : List (List Int)} (h : ss.ROwn w lo hi v rows) (hp : 0 < rows.length) :
    ∃ vals : List Value, vals.length = rows.length ∧ VRow w hi v vals ∧ ∀ j, j < rows.length → ∃ ao cap, vals[j]? = some (.slice ao (rows.getD j []).length cap) ∧ Ints w hi (.slice ao (rows.getD j []).length cap) (rows.getD j []) ∧ NilOk (.slice ao (rows.getD j []).length cap) := by
  rcases h.2 with ⟨h0, _⟩ | ⟨_, g, off, cap, V, L, H, hv, h1, h2, h3⟩
  · subst h0; simp at hp
  · refine ⟨(List.range rows.length).map V, by simp, ⟨g, off, cap, by simpa using hv, h2, fun j y hj => ?_, fun y hy => ?_⟩, fun j hj => ?_⟩
    · have hj' : j < rows.length := by
        have := (List.getElem?_eq_some_iff.1 hj).1
        simpa using this
      simp [hj'] at hj
      rw [← hj]; exact (h3 j hj').1
    · simp only [List.mem_map, List.mem_range] at hy
      obtain ⟨j, hj, rfl⟩ := hy
      obtain ⟨ao, cp, hv⟩ := br.own_val (h3 j hj).2.1
      rw [hv]; rfl
    · obtain ⟨ao, cp, hv⟩ := br.own_val (h3 j hj).2.1
      refine ⟨ao, cp, by simp [hj, hv], ?_, ?_⟩
      · rw [← hv]; exact (h3 j hj).2.1.ints.mono (h3 j hj).2.2.2.1
      · rw [← hv]; exact nilok_own (h3 j hj).2.1
theorem rows_append {a b : List (List Int)} (j : Nat) (h : j < (a ++ b).length) : (j < a.length ∧ (a ++ b).getD j [] = a.getD j []) ∨ (a.length ≤ j ∧ j - a.length < b.length ∧ (a ++ b).getD j [] = b.getD (j - a.length) []) := by
  rcases Nat.lt_or_ge j a.length with h1 | h1
  · exact .inl ⟨h1, by simp [List.getD, List.getElem?_append_left h1]⟩
  · refine .inr ⟨h1, by simp at h; omega, by simp [List.getD, List.getElem?_append_right h1]⟩
/-- Both beds' rows in a block of the call's own. -/
theorem wds_of {w w1 : World} {hi lo : Nat} {a b : List (List Int)} {v0 v1 : List Value} {g cap : Nat} {n : Nat} (hb : Below w.heap.size w w1)
    (h0 : v0.length = a.length) (k0 : ∀ j, j < a.length → ∃ ao cap, v0[j]? = some (.slice ao (a.getD j []).length cap) ∧ Ints w hi (.slice ao (a.getD j []).length cap) (a.getD j []) ∧ NilOk (.slice ao (a.getD j []).length cap))
    (h1 : v1.length = b.length) (k1 : ∀ j, j < b.length → ∃ ao cap, v1[j]? = some (.slice ao (b.getD j []).length cap) ∧ Ints w hi (.slice ao (b.getD j []).length cap) (b.getD j []) ∧ NilOk (.slice ao (b.getD j []).length cap))
    (ho : w1.ownsRow lo 25 1 (.slice (some ⟨g, 0, none⟩) n cap) n (v0 ++ v1)) : Wds w1 hi g (a ++ b) := by
  intro j hj
  have hc := fun u (hu : (v0 ++ v1)[j]? = some u) => ho.cells (g := g) rfl j u hu
  rcases rows_append j hj with ⟨h2, e⟩ | ⟨h2, h3, e⟩
  · obtain ⟨ao, cp, q1, q2, q3⟩ := k0 j h2
    rw [e]
    refine ⟨ao, cp, ?_, q2.chg (Chg.ofBelow (lo := 0) hb) (.inr (Nat.zero_le _)), q3⟩
    have := hc _ (by rw [List.getElem?_append_left (by omega)]; exact q1)
    rw [Addr.add_lit] at this
    simpa using this
  · obtain ⟨ao, cp, q1, q2, q3⟩ := k1 _ h3
    rw [e]
    refine ⟨ao, cp, ?_, q2.chg (Chg.ofBelow (lo := 0) hb) (.inr (Nat.zero_le _)), q3⟩
    have := hc _ (by rw [List.getElem?_append_right (by omega), h0]; exact q1)
    rw [Addr.add_lit] at this
    simpa using this

theorem row_slice {w : World} {lo n : Nat} {t : TypeId} {v : Value} {ys : List Value} (o : w.ownsRow lo t 1 v n ys) (hp : 0 < n) : ∃ g cap, v = .slice (some ⟨g, 0, none⟩) n cap ∧ g < w.heap.size := by
  rcases o.2 with ⟨_, h0⟩ | ⟨g, c, cur, h, hg, _⟩
  · omega
  · subst h; exact ⟨g, c, rfl, (o.lt g rfl).2⟩

set_option maxRecDepth 100000 in
set_option maxHeartbeats 4000000 in
theorem implPlace (a p : Int) (m : Mch) (f0 f1 f2 f3 f4 : Value) (lo hi : Nat) (w : World) (ho : MOwn w lo hi f0 f1 f2 f3 f4 m) (hq : Small m) (ha : 1 ≤ a ∧ a ≤ 24) (hfr : stkB a m.fr = true) (hbk : stkB a m.bk = true) (hls : m.ls.length ≤ 300) :
    Calls Try.prog 89 #[.agg #[.int .i64 a, .int .i64 p, f0, f1, f2, f3, f4]] w fun e w' => e = .returned (.bool (placeB m)) ∧ Below w.heap.size w w' := by
  have hhi := ho.1
  obtain ⟨_, p1, p2, p3, p4, e0, e1, e2, e3, e4, o0, o1, o2, o3, o4⟩ := ho
  have hn0 := (stk_parts hfr).1
  have hn1 := (stk_parts hbk).1
  obtain ⟨vals0, l0, r0, k0⟩ := rown_vals o0 (by omega)
  obtain ⟨vals1, l1, r1, k1⟩ := rown_vals o1 (by omega)
  have hfl : ((m.fr ++ m.bk).flatten).length ≤ 192 := by
    have q0 := stk_flat hfr
    have q1 := stk_flat hbk
    rw [List.flatten_append, List.length_append]
    omega
  have HFl := hid hfl
  have HR0 := hid (fun W (b : Below w.heap.size w W) => r0.below b (B := p1) (by omega))
  have HR1 := hid (fun W (b : Below w.heap.size w W) => r1.below b (B := p2) (by omega))
  have HK0 := hid k0
  have HK1 := hid k1
  have HL0 := hid l0
  have HL1 := hid l1
  have HD := hid (fun W (b : Below w.heap.size w W) => o4.chg (Chg.ofBelow (lo := 0) b) (.inr (.inr (Nat.zero_le _))))
  have HS4 := hid hq.s4
  obtain ⟨a0, n0, c0, rfl⟩ : ∃ a n k, f0 = .slice a n k := by obtain ⟨b, o, c, h, _⟩ := r0; exact ⟨_, _, _, h⟩
  obtain ⟨a1, n1, c1, rfl⟩ : ∃ a n k, f1 = .slice a n k := by obtain ⟨b, o, c, h, _⟩ := r1; exact ⟨_, _, _, h⟩
  obtain ⟨a2, n2, c2, rfl⟩ : ∃ a n k, f2 = .slice a n k := by obtain ⟨a, k, h⟩ := ca.oown_val o2; exact ⟨a, _, k, h⟩
  obtain ⟨nl, hnl⟩ : ∃ nl, nl = m.ls.length := ⟨_, rfl⟩
  obtain ⟨a3, c3, rfl⟩ : ∃ a k, f3 = .slice a nl k := by obtain ⟨a, k, h⟩ := nf.iown_val o3; exact ⟨a, k, by rw [hnl]; exact h⟩
  rw [← hnl] at hls
  have HX := hid (bx_new w 34 a p (.slice a0 n0 c0) (.slice a1 n1 c1) (.slice a2 n2 c2) (.slice a3 nl c3) f4)
  have hp4 : p4 ≤ hi := e4
  clear l0 r0 k0 l1 r1 k1 o0 o1 o2 o3 hq hfr hbk hfl
  have HIv := hid (br.own_val o4)
  have HI4 := hid (o4.ints)
  clear o4
  obtain ⟨ad, cd, hv4⟩ := HIv.out
  obtain ⟨d, hd⟩ : ∃ d, d = m.dr.length := ⟨_, rfl⟩
  rw [← hd] at hv4
  subst hv4
  have HCell : Hid (∀ j, j < d → ∃ b off, ad = some ⟨b, off, none⟩ ∧ b < w.heap.size ∧ w.cell? ⟨b, off + j, none⟩ = some (.int .i64 (m.dr.getD j 0))) := hid (fun j hj => by
    rcases HI4.out with ⟨h0, _⟩ | ⟨hp, b, off, cap, hv, hb, hc⟩
    · rw [h0] at hd; simp at hd; omega
    · simp only [Value.slice.injEq] at hv
      exact ⟨b, off, hv.1, by omega, hc j (by omega)⟩)
  have HBad := hid (fun k h1 h2 => @inc_bad m.dr k h1 h2)
  have HGood := hid (@inc_good m.dr)
  have HPl : Hid (placeB m = (incB m.dr && diffB (nl : Int) ((m.fr ++ m.bk).flatten ++ m.dr))) := hid (by rw [hnl]; rfl)
  clear hnl
  rw [HPl.out]
  rw [← hd] at HBad HGood
  have HDl := hid hd
  have hd1 : d ≤ 1048576 := by have := HS4.out; omega
  clear hd HIv HI4 HPl
  generalize hq1 : incB m.dr = q1 at *
  clear hq1
  obtain ⟨flat, hflat⟩ : ∃ flat, flat = (m.fr ++ m.bk).flatten := ⟨_, rfl⟩
  rw [← hflat] at HFl ⊢
  have HFt := hid hflat
  obtain ⟨q2, hq2⟩ : ∃ q2, q2 = diffB (nl : Int) (flat ++ m.dr) := ⟨_, rfl⟩
  rw [← hq2]
  have HQ2 := hid hq2
  clear hflat hq2
  go_enter Try.func89, Try.ntmps89
  go_wp2
  generalize w.alloc (.cells #[.int .i64 a, .int .i64 p, .slice a0 n0 c0, .slice a1 n1 c1, .slice a2 n2 c2, .slice a3 nl c3, .slice ad d cd] 34) = W0 at *
  go_loopw [3] (fun i wr => ∃ k : Nat, 1 ≤ k ∧ i = .int .i64 k ∧ (∀ j, j + 1 < k → m.dr.getD j 0 < m.dr.getD (j + 1) 0) ∧ (k ≤ d ∨ k = 1) ∧ Below W0.heap.size W0 wr) (fun i _ => d - (intOf i).toNat)
  case atStart => exact ⟨1, Nat.le_refl _, rfl, fun j hj => by omega, .inr rfl, Below.refl _ _⟩
  case round =>
    obtain ⟨k, hk1, rfl, hinc, hkd, hbel⟩ := hrel
    have HInc := hid hinc
    have HB := hid hbel
    have HXr := hid (HX.out.below hbel)
    have y6 := HXr.out.c6
    clear hinc hbel
    by_cases hlt : k < d
    · obtain ⟨j, hj⟩ : ∃ j, k = j + 1 := ⟨k - 1, by omega⟩
      obtain ⟨b, off, rfl, hb, hx1⟩ := HCell.out k hlt
      obtain ⟨b', off', he, _, hx0⟩ := HCell.out j (by omega)
      simp only [Option.some.injEq, Addr.mk.injEq, and_true] at he
      obtain ⟨rfl, rfl⟩ := he
      have hx1 := (HXr.out.b0.cell (p := ⟨b, off + k, none⟩) hb).trans hx1
      have hx0 := (HXr.out.b0.cell (p := ⟨b, off + j, none⟩) hb).trans hx0
      have HBk := hid (HBad.out j (by omega))
      have HSt : Hid (m.dr.getD j 0 < m.dr.getD (j + 1) 0 → ∀ i, i + 1 < k + 1 → m.dr.getD i 0 < m.dr.getD (i + 1) 0) := hid (fun h i hi => by
        rcases Nat.lt_or_ge (i + 1) k with h' | h'
        · exact HInc.out i h'
        · obtain rfl : i = j := by omega
          exact h)
      rw [show m.dr.getD k 0 = m.dr.getD (j + 1) 0 from by rw [hj]] at hx1
      generalize m.dr.getD j 0 = x at *
      generalize m.dr.getD (j + 1) 0 = y at *
      have hwr : IntKind.i64.wrap ((k : Int) - 1) = (j : Int) := by rw [show (k : Int) - 1 = (j : Int) from by omega]; exact IntWalk.i64_in _ (by omega)
      have hjd : j < d := by omega
      by_cases hxy : x < y
      · have hd1 : decide (y ≤ x) = false := decide_eq_false (by omega)
        have HSt2 := hid (HSt.out hxy)
        clear hxy hj
        go_wp2
        go_quiet (fail)
        go_wp2
        go_roundw
        case rel => exact ⟨k + 1, by omega, by go_num, HSt2.out, .inl (by omega), bdrewN HB.out _⟩
        case measure => simp [intOf]; omega
      · have hd1 : decide (y ≤ x) = true := decide_eq_true (by omega)
        have HF := hid (HBk.out (by omega))
        clear hxy hj
        go_wp2
        go_quiet (fail)
        go_wp2
        go_ret
        exact ⟨by rw [HF.out]; rfl, bdrewN HXr.out.b0 _⟩
    · have HI1 := hid (HGood.out (fun j hj => HInc.out j (by omega)))
      have HB1 := hid (HXr.out.b0)
      have y2 := HXr.out.c2
      have y3 := HXr.out.c3
      have hal := (Below.refl wr.heap.size wr).alloc (Nat.le_refl _) (.cells #[.slice a0 n0 c0, .slice a1 n1 c1] 22)
      have HV : Hid (VRows (wr.alloc (.cells #[.slice a0 n0 c0, .slice a1 n1 c1] 22)) wr.heap.size wr.heap.size [vals0, vals1]) := hid (fun j hj => by
        have hBB := HB1.out.trans (hal.mono HB1.out.size)
        have m0 := HR0.out _ hBB
        have m1 := HR1.out _ hBB
        match j, hj with
        | 0, _ => exact ⟨_, World.cell?_alloc_at _ _ _ _ rfl, by obtain ⟨b, o, c, q1, q2, q3⟩ := m0; exact ⟨b, o, c, q1, by have := HB1.out.size; omega, q3⟩⟩
        | 1, _ => exact ⟨_, World.cell?_alloc_at _ _ _ _ rfl, by obtain ⟨b, o, c, q1, q2, q3⟩ := m1; exact ⟨b, o, c, q1, by have := HB1.out.size; omega, q3⟩⟩)
      have HCR := hid (concatR [vals0, vals1] wr.heap.size 2 wr.heap.size _ HV.out (by simp) (by simp) (by simp) (by have h0 := HL0.out; have h1 := HL1.out; simp; omega) (by have h0 := HL0.out; have h1 := HL1.out; simp; omega))
      have HBA := hid (HB1.out.trans (hal.mono HB1.out.size))
      clear hal HV
      go_wp2_with fail
      clear y2 y3 y6
      refine HCR.out.mono ?_
      rintro e w2 ⟨v2, rfl, o2, b2⟩
      have hz2 := b2.size
      have HB2 := hid (HBA.out.trans (b2.mono HBA.out.size))
      have e2 : [vals0, vals1].flatten = vals0 ++ vals1 := by simp
      rw [e2] at o2
      obtain ⟨g2, cp2, rfl, hg2⟩ := row_slice o2 (by have h0 := HL0.out; rw [List.length_append]; omega)
      have HW2 := hid (wds_of HB2.out HL0.out (hi := w.heap.size) (fun j hj => by obtain ⟨ao, cp, q1, q2, q3⟩ := HK0.out j hj; exact ⟨ao, cp, q1, q2.mono (by omega), q3⟩) HL1.out (fun j hj => by obtain ⟨ao, cp, q1, q2, q3⟩ := HK1.out j hj; exact ⟨ao, cp, q1, q2.mono (by omega), q3⟩) o2)
      have hlen : (vals0 ++ vals1).length = (m.fr ++ m.bk).length := by rw [List.length_append, List.length_append, HL0.out, HL1.out]
      have HC2 := hid (concatB (m.fr ++ m.bk) g2 cp2 w.heap.size w2 HW2.out HB2.out.size hg2 (by simp; omega) (by have := HFl.out; rw [HFt.out] at this; omega))
      rw [← hlen, ← HFt.out] at HC2
      have HX2 := hid ((HXr.out.below ((Below.refl wr.heap.size wr).alloc (Nat.le_refl _) (.cells #[.slice a0 n0 c0, .slice a1 n1 c1] 22))).below b2)
      clear o2 b2 e2 hlen HW2 HBA HCR HXr
      generalize (vals0 ++ vals1).length = nn at *
      go_wp2_with fail
      refine HC2.out.mono ?_
      rintro e w3 ⟨v3, rfl, o3, b3⟩
      have HX3 := hid (HX2.out.below b3)
      have HO3 := hid o3
      obtain ⟨a4, cp4, hv4⟩ := br.own_val o3
      obtain ⟨l4, hl4⟩ : ∃ l4, l4 = flat.length := ⟨_, rfl⟩
      rw [← hl4] at hv4
      subst hv4
      have HL4 := hid hl4
      have hl4b : l4 ≤ 192 := by have := HFl.out; omega
      clear hl4 o3 b3 HX2 HC2
      have HCat : Hid (∀ W g, Below w3.heap.size w3 W → g < W.heap.size → W.cell? ⟨g, 0, none⟩ = some (.slice a4 l4 cp4) → W.cell? ⟨g, 1, none⟩ = some (.slice ad d cd) → Calls Try.prog 101 #[.slice (some ⟨g, 0, none⟩) 2 2] W fun e w' => ∃ v', e = .returned v' ∧ Ints w' w'.heap.size v' (flat ++ m.dr) ∧ Below W.heap.size W w') := hid (fun W g hB hg hg0 hg1 => by
        have oA := HO3.out.chg (Chg.ofBelow (lo := 0) hB) (.inr (.inr (Nat.zero_le _)))
        have oD := HD.out _ (HX3.out.b0.trans (hB.mono HX3.out.b0.size))
        have hz3 := HX3.out.b0.size
        have hzW := hB.size
        have hwd : Wds W W.heap.size g [flat, m.dr] := fun j hj => by
          match j, hj with
          | 0, _ => exact ⟨a4, cp4, by rw [show ([flat, m.dr].getD 0 []) = flat from rfl, ← HL4.out]; exact hg0, by rw [show ([flat, m.dr].getD 0 []) = flat from rfl, ← HL4.out]; exact oA.ints.mono (by omega), by rw [show ([flat, m.dr].getD 0 []) = flat from rfl, ← HL4.out]; exact nilok_own oA⟩
          | 1, _ => exact ⟨ad, cd, by rw [show ([flat, m.dr].getD 1 []) = m.dr from rfl, ← HDl.out]; exact hg1, by rw [show ([flat, m.dr].getD 1 []) = m.dr from rfl, ← HDl.out]; exact oD.ints.mono (by omega), by rw [show ([flat, m.dr].getD 1 []) = m.dr from rfl, ← HDl.out]; exact nilok_own oD⟩
        have hc := concatB [flat, m.dr] g 2 W.heap.size W hwd (Nat.le_refl _) hg (by simp) (by simp; rw [← HL4.out, ← HDl.out]; omega)
        refine (show Calls _ _ #[.slice (some ⟨g, 0, none⟩) 2 2] _ _ from hc).mono ?_
        rintro e w' ⟨v', rfl, o, b⟩
        have e5 : [flat, m.dr].flatten = flat ++ m.dr := by simp
        rw [e5] at o
        exact ⟨v', rfl, o.ints, b⟩)
      have HDif : Hid (∀ W v', Ints W W.heap.size v' (flat ++ m.dr) → Calls Try.prog 100 #[.int .i64 (nl : Int), v'] W fun e w' => e = .returned (.bool q2) ∧ Below W.heap.size W w') := hid (fun W v' h => by rw [HQ2.out]; exact diffC (nl : Int) _ v' W.heap.size W h (Nat.le_refl _) (by rw [List.length_append, ← HL4.out, ← HDl.out]; omega) (by omega) (by omega))
      have HBb := hid HX3.out.b0
      have y5 := HX3.out.c5
      have y6 := HX3.out.c6
      have hz3 : w.heap.size < w3.heap.size := HX3.out.lt
      clear HO3 HD HL4 HDl HX3 HCell HR0 HR1 HK0 HK1 HL0 HL1 HFl HS4 HBad HGood HInc HB HB1 HB2 HX
      clear HQ2 HFt
      generalize flat ++ m.dr = fd at *
      go_wp2
      go_region_with (first
        | (go_at_call 101; go_loud (
           refine (HCat.out _ _ (by repeat (first | exact Below.refl _ _ | apply Below.drew | refine Below.alloc ?_ (by simp) _)) (by simp) (by exact World.cell?_alloc_at _ _ _ _ rfl) (by exact World.cell?_alloc_at _ _ _ _ rfl)).mono ?_
           rintro e w5 ⟨v5, rfl, i5, b5⟩
           have HI5 := hid i5
           have HB5 := hid (HBb.out.trans ((show Below w3.heap.size w3 _ from by repeat (first | exact Below.refl _ _ | apply Below.drew | refine Below.alloc ?_ (by simp) _)).trans (b5.mono (by simp)) |>.mono HBb.out.size))
           have y5 := (b5.cell (p := ⟨w.heap.size, 5, none⟩) (by show w.heap.size < _; first | omega | (simp; omega))).trans ((World.cell?_alloc_past _ _ _ (by show w.heap.size < _; first | omega | (simp; omega))).trans y5)
           clear i5 b5))
        | (go_at_call 100; go_loud (
           refine (HDif.out _ _ (by exact HI5.out)).mono ?_
           rintro e w6 ⟨rfl, b6⟩
           have HB6 := hid (HB5.out.trans (Below.mono (show Below w5.heap.size w5 _ from ⟨b6.os, b6.tape, b6.output, b6.size, b6.block⟩) HB5.out.size))
           clear b6)))
      all_goals go_wp2
      all_goals go_ret
      all_goals exact ⟨by simp [HI1.out, go_sem], HB6.out⟩
end Go.Proofs.Ytlhpipcmebmpdab.mc
