/-
  FabricCounts: counts in words, maps that count; the program.
-/
import Derived.Test.YtlhpipcmebmpdabLs0
import Derived.Maps.OwnOps
import Derived.Maps.Views
namespace Go.Proofs.Ytlhpipcmebmpdab.mc
open Go.RowKit Go.Sort Go.Maps Go.Proofs.Ytlhpipcmebmpdab.sl Go.Proofs.Ytlhpipcmebmpdab.br Go.Proofs.Ytlhpipcmebmpdab.fn Go.Proofs.Ytlhpipcmebmpdab.ss Go.Proofs.Ytlhpipcmebmpdab.fb
set_option linter.unusedVariables false
set_option linter.unusedSimpArgs false

def cntI (f : Nat → Int) (k : Nat) (x : Int) : Int := (((List.range k).countP fun j => decide (f j = x) : Nat) : Int)
theorem cntI_zero (f : Nat → Int) (x : Int) : cntI f 0 x = 0 := rfl
theorem cntI_succ (f : Nat → Int) (k : Nat) (x : Int) : cntI f (k + 1) x = cntI f k x + if f k = x then 1 else 0 := by
  unfold cntI
  rw [List.range_succ, List.countP_append, List.countP_singleton]
  by_cases h : f k = x
  · simp [h]
  · simp [h]
theorem cntI_le (f : Nat → Int) (k : Nat) (x : Int) : 0 ≤ cntI f k x ∧ cntI f k x ≤ (k : Int) := by
  unfold cntI
  have := List.countP_le_length (p := fun j => decide (f j = x)) (l := List.range k)
  rw [List.length_range] at this
  omega
def kdF (m : Mch) (j : Nat) : Int := (m.ls.getD j nf.iz).a0
def stF (a p : Int) (m : Mch) (j : Nat) : Int := stS a p m (j : Int)
def fcL (a p : Int) (m : Mch) (k : Nat) : List Int := [cntI (kdF m) k 1, cntI (kdF m) k 2, cntI (kdF m) k 5, cntI (stF a p m) k 1, cntI (stF a p m) k 2, cntI (stF a p m) k 3, cntI (stF a p m) k 4]
def fcW (a p : Int) (m : Mch) : List Int := if okM a p m = true then fcL a p m m.ls.length else []
def fcC (a p : Int) (m : Mch) : Int := if okM a p m = true then 0 else 1
theorem fcW_len (a p : Int) (m : Mch) : (fcW a p m).length ≤ 20000 := by
  unfold fcW
  split <;> simp [fcL]

theorem kd_ok {a p : Int} {m : Mch} (h : OkM a p m) (k : Nat) (hk : k < m.ls.length) : (kdF m k = 1 ∨ kdF m k = 2 ∨ kdF m k = 5) := by
  have h1 := (infs_parts h.ls).2 k hk
  simp only [infX, infB, Bool.and_eq_true] at h1
  have h2 := h1.1.1
  unfold kdF
  unfold kindB at h2
  split at h2
  · rename_i h; exact .inl h
  · split at h2
    · rename_i h; exact .inr (.inl h)
    · split at h2
      · rename_i h; exact .inr (.inr h)
      · cases h2
theorem st_ok (a p : Int) (m : Mch) (k : Nat) : 1 ≤ stF a p m k ∧ stF a p m k ≤ 4 := by
  unfold stF stS stB
  split
  · omega
  · split
    · omega
    · split <;> omega
/-- A map that counts. -/
def CM (X : World) (b n : Nat) (f : Int → Int) : Prop := ∃ D : DataW Unit, X.ownsMap Try.prog 2 (plainElem Try.prog 2) b n D ∧ ∀ x : Int, D.atKey (.int .i64 x) (.lit (.int .i64 0)) = .lit (.int .i64 (f x))
theorem cm_made (w : World) : CM (w.alloc (.map #[] 0)) w.heap.size 0 (fun _ => 0) := ⟨.map [], World.ownsMap_made _ _ _ _, fun _ => rfl⟩
theorem CM.kept {w w' : World} {b n : Nat} {f : Int → Int} {row : Option Nat} (h : CM w b n f) (hg : w.grownBy w' row) (hne : some b ≠ row) : CM w' b n f := by
  obtain ⟨D, h1, h2⟩ := h
  exact ⟨D, World.ownsMap.kept h1 hg hne, h2⟩
theorem CM.below {w w' : World} {b n : Nat} {f : Int → Int} (h : CM w b n f) (k : Below w.heap.size w w') : CM w' b n f := h.kept (grownN k) (by simp)
theorem CM.lt {w : World} {b n : Nat} {f : Int → Int} (h : CM w b n f) : b < w.heap.size := by
  obtain ⟨D, h1, h2⟩ := h
  exact World.ownsMap.lt h1
theorem zeroI (w : World) : (zeroValue 2).run Try.prog w = .ok (.int .i64 0) w := by kernel_rfl
theorem key_of (x : Int) (hx : -9223372036854775808 ≤ x ∧ x ≤ 9223372036854775807) : keyOf Try.prog 2 (.int .i64 x) = some (.int .i64 x) := keyOf_int_mk Try.underlying2 (WalkArith.wf_i64 (by omega))
set_option maxRecDepth 100000 in
theorem CM.look {w : World} {b n : Nat} {f : Int → Int} (h : CM w b n f) (x : Int) (hx : -9223372036854775808 ≤ x ∧ x ≤ 9223372036854775807) : (Instr.lookup 82 (.map (some b)) (.int .i64 x) false).run Try.prog w = .ok (.int .i64 (f x)) w := by
  obtain ⟨D, h1, h2⟩ := h
  obtain ⟨c, hrun, hat, _⟩ := h1.lookup_int lawK Try.underlying82 Try.underlying2 (zeroI w) (key_of x hx)
  rw [h2 x] at hat
  injection hat with e1
  injection e1 with _ e2
  rw [hrun, e2]
set_option maxRecDepth 100000 in
theorem CM.upd {w : World} {b n : Nat} {f : Int → Int} (h : CM w b n f) (hn : n < maxLen) (x c : Int) (hx : -9223372036854775808 ≤ x ∧ x ≤ 9223372036854775807) (hc : -9223372036854775808 ≤ c ∧ c ≤ 9223372036854775807) :
    ∃ w', (Instr.mapUpdate 82 (.map (some b)) (.int .i64 x) (.int .i64 c)).run Try.prog w = .ok () w' ∧ CM w' b (n + 1) (fun y => if y = x then c else f y) ∧ w.grownBy w' (some b) := by
  obtain ⟨D, h1, h2⟩ := h
  have hm := h1.isMap
  obtain ⟨w', r, o, g⟩ := h1.update lawK Try.underlying82 hn (key_of x hx) (plainElem_int Try.underlying2 (WalkArith.wf_i64 (n := c) (by omega)))
  refine ⟨w', r, ⟨_, o, fun y => ?_⟩, g⟩
  by_cases e : y = x
  · subst e
    rw [atKey_put_same hm (by simp [WideAt.IsKeyLit])]; simp
  · rw [atKey_put_other (by simpa using e)]; simp only [if_neg e]
    exact h2 y

set_option maxRecDepth 100000 in
set_option maxHeartbeats 8000000 in
theorem implFc (a p : Int) (m : Mch) (f0 f1 f2 f3 f4 : Value) (B : Nat) (w : World) (ha : MInC w B f0 f1 f2 f3 f4 m) (hB : B ≤ w.heap.size) (hq : Small m) :
    Calls Try.prog 20 #[.agg #[.int .i64 a, .int .i64 p, f0, f1, f2, f3, f4]] w fun e w' => ∃ v', e = .returned (.tuple #[v', .int .i64 (fcC a p m)]) ∧ sl.Own w' w.heap.size w'.heap.size v' (fcW a p m) ∧ Below w.heap.size w w' := by
  have HBad := hid (fun (h : okM a p m = false) W (hb : Below w.heap.size w W) => fabricBad a p m f0 f1 f2 f3 f4 B W (ha.below hb) (Nat.le_trans hB hb.size) hq h)
  have HGood := hid (fun (h : okM a p m = true) W (hb : Below w.heap.size w W) => fabricC a p m f0 f1 f2 f3 f4 B W (ha.below hb) (Nat.le_trans hB hb.size) hq h)
  have HInf := hid (fun (X : World) (h : Below w.heap.size w X) => (ha.below h).rd.h3)
  have HLs := hid (fun h : okM a p m = true => ls_len (okM_parts h))
  have HKd := hid (fun (h : okM a p m = true) k (hk : k < m.ls.length) => kd_ok (okM_parts h) k hk)
  have hmm := @run_makeMap Try.prog
  obtain ⟨u, hu⟩ : ∃ u, u = okM a p m := ⟨_, rfl⟩
  obtain ⟨xs, hxs⟩ : ∃ xs, xs = fcW a p m := ⟨_, rfl⟩
  obtain ⟨d, hd⟩ : ∃ d, d = fcC a p m := ⟨_, rfl⟩
  rw [← hxs, ← hd]
  unfold fcW at hxs
  unfold fcC at hd
  rw [← hu] at hxs hd
  rw [← hu] at HBad HGood HLs HKd
  have HX1 := hid hxs
  have HD1 := hid hd
  obtain ⟨⟨a0, k0, rfl⟩, ⟨a1, k1, rfl⟩, ⟨a2, k2, rfl⟩, ⟨a3, k3, rfl⟩, ⟨a4, k4, rfl⟩⟩ := ha.vals
  clear ha hq hxs hd hu
  generalize m.fr.length = n0 at *
  generalize m.bk.length = n1 at *
  generalize m.cs.length = n2 at *
  obtain ⟨n3, hn3⟩ : ∃ n, n = m.ls.length := ⟨_, rfl⟩
  have HN3 := hid hn3
  rw [← hn3] at HBad HGood HInf HLs HKd ⊢
  generalize m.dr.length = n4 at *
  have HX := hid (bx_new w 34 a p (.slice a0 n0 k0) (.slice a1 n1 k1) (.slice a2 n2 k2) (.slice a3 n3 k3) (.slice a4 n4 k4))
  clear hn3
  go_enter Try.func20, Try.ntmps20
  go_wp2_with fail
  generalize (w.alloc (.cells #[.int .i64 a, .int .i64 p, .slice a0 n0 k0, .slice a1 n1 k1, .slice a2 n2 k2, .slice a3 n3 k3, .slice a4 n4 k4] 34)) = W1 at *
  cases u with
  | false =>
    obtain rfl : xs = [] := HX1.out
    obtain rfl : d = 1 := HD1.out
    refine (HBad.out rfl W1 HX.out.b0).mono ?_
    rintro e W2 ⟨rfl, b2⟩
    have HB := hid (HX.out.b0.trans (b2.mono HX.out.b0.size))
    clear b2
    go_wp2
    go_ret2
    exact ⟨_, rfl, Own.nil W2 w.heap.size, HB.out⟩
  | true =>
    refine (HGood.out rfl W1 HX.out.b0).mono ?_
    rintro e W2 ⟨fp, cb, bL, bD, base, n, D, rfl, hF⟩
    have HF := hid hF
    have HB := hid (HX.out.b0.trans (hF.bl.mono HX.out.b0.size))
    have hl3 := HLs.out rfl
    have HKd2 := hid (HKd.out rfl)
    obtain rfl : d = 0 := HD1.out
    obtain rfl : xs = fcL a p m m.ls.length := HX1.out
    have hz2 : w.heap.size ≤ W2.heap.size := HB.out.size
    clear hF HGood HBad HD1 HX1 HLs HKd
    have bm1 := (Below.refl W2.heap.size W2).alloc (Nat.le_refl _) (.map #[] 0)
    have bm2 := bm1.alloc (by simp) (.map #[] 0)
    have HM0 := hid bm2
    have HK0 : Hid (CM ((W2.alloc (.map #[] 0)).alloc (.map #[] 0)) W2.heap.size 0 (fun _ => 0)) := hid ((cm_made W2).below ((Below.refl _ _).alloc (Nat.le_refl _) (.map #[] 0)))
    have HS0 : Hid (CM ((W2.alloc (.map #[] 0)).alloc (.map #[] 0)) (W2.heap.size + 1) 0 (fun _ => 0)) := hid (by have := cm_made (W2.alloc (.map #[] 0)); simpa using this)
    have y0 := (bm2.cell (p := ⟨fp, 0, none⟩) (World.block_lt_of_cell? W2 _ HF.out.c0)).trans HF.out.c0
    clear bm1 bm2
    go_wp2
    go_loopw [25] (fun i wr => ∃ k : Nat, k ≤ n3 ∧ i = .int .i64 k ∧ CM wr W2.heap.size k (fun x => cntI (kdF m) k x) ∧ CM wr (W2.heap.size + 1) k (fun x => cntI (stF a p m) k x) ∧ Below W2.heap.size W2 wr) (fun i _ => n3 - (intOf i).toNat)
    case atStart => exact ⟨0, Nat.zero_le _, rfl, HK0.out, HS0.out, HM0.out⟩
    case round =>
      obtain ⟨k, hk, rfl, hkc, hsc, hbel⟩ := hrel
      have HKc := hid hkc
      have HSc := hid hsc
      have HBl := hid hbel
      have hzr := hbel.size
      have hb1 := hkc.lt
      have hb2 := hsc.lt
      clear hkc hsc hbel HK0 HS0 HM0
      by_cases hlt : k < n3
      · have hI := HInf.out wr (HB.out.trans (HBl.out.mono hz2))
        rcases hI with ⟨hnil, _⟩ | ⟨hp, g, off, cap, F, hv, hg, hc⟩
        · exfalso
          have := HN3.out
          rw [hnil] at this
          simp at this
          omega
        · rw [← HN3.out] at hv
          simp only [Value.slice.injEq, true_and] at hv
          obtain ⟨rfl, rfl⟩ := hv
          have hA := (hc k (by rw [← HN3.out]; exact hlt)).1
          obtain ⟨ao6, cap6, hv6⟩ := fn.ints_slice (hc k (by rw [← HN3.out]; exact hlt)).2
          rw [hv6] at hA
          generalize (m.ls.getD k nf.iz).ps.length = l6 at hA
          clear hv6
          have hkd := HKd2.out k hlt
          have hst := st_ok a p m k
          have hcl := cntI_le (kdF m) k (kdF m k)
          have hcs := cntI_le (stF a p m) k (stF a p m k)
          have HN1 := hid (fun y => cntI_succ (kdF m) k y)
          have HN2 := hid (fun y => cntI_succ (stF a p m) k y)
          have HSt : Hid (∀ W, Below W2.heap.size W2 W → Calls Try.prog 53 #[.pointer (some ⟨fp, 0, none⟩), .int .i64 (k : Int)] W fun e w' => e = .returned (.int .i64 (stF a p m k)) ∧ Below W.heap.size W w') := hid (fun W b => stateC W1 m a p (k : Int) (.slice (some ⟨g, off, none⟩) n3 k3) fp cb bL bD base n D W (HF.out.below b) (by omega) (by rw [← HN3.out]; exact hl3))
          have hx0 : (m.ls.getD k nf.iz).a0 = kdF m k := rfl
          generalize m.ls.getD k nf.iz = x at *
          obtain ⟨x0, x1, x2, x3, x4, ps⟩ := x
          obtain ⟨c, hcd⟩ : ∃ c, c = cntI (kdF m) k (kdF m k) := ⟨_, rfl⟩
          obtain ⟨c2, hcd2⟩ : ∃ c, c = cntI (stF a p m) k (stF a p m k) := ⟨_, rfl⟩
          rw [← hcd] at hcl
          rw [← hcd2] at hcs
          have HCd := hid hcd
          have HCd2 := hid hcd2
          clear hcd hcd2 hc hp
          simp only at hx0
          subst hx0
          generalize hkx : kdF m k = x0 at *
          generalize hsx : stF a p m k = s at *
          have HKx := hid hkx
          have HSx := hid hsx
          clear hkx hsx
          have c0 := hA.c0
          have c1 := hA.c1
          have c3 := hA.c3
          have c4 := hA.c4
          have c5 := hA.c5
          have c2' := hA.c2
          simp only at c0 c1 c2' c3 c4 c5
          clear hA
          have bE := (Below.refl wr.heap.size wr).alloc (Nat.le_refl _) (.cells #[.int .i64 x0, .int .i64 x1, .int .i64 x2, .int .i64 x3, .int .i64 x4, .slice ao6 l6 cap6] 67)
          have HKE := hid (HKc.out.below bE)
          have HSE := hid (HSc.out.below bE)
          have HBE := hid (HBl.out.trans (bE.mono hzr))
          have hl1 : (Instr.lookup 82 (.map (some W2.heap.size)) (.int .i64 x0) false).run Try.prog (wr.alloc (.cells #[.int .i64 x0, .int .i64 x1, .int .i64 x2, .int .i64 x3, .int .i64 x4, .slice ao6 l6 cap6] 67)) = .ok (.int .i64 c) (wr.alloc (.cells #[.int .i64 x0, .int .i64 x1, .int .i64 x2, .int .i64 x3, .int .i64 x4, .slice ao6 l6 cap6] 67)) := by
            have h := HKE.out.look x0 (by omega)
            rw [HCd.out]; exact h
          obtain ⟨w5, hu1, hcm5, hg5⟩ := HKE.out.upd (by unfold maxLen; omega) x0 (c + 1) (by omega) (by omega)
          have HC5 : Hid (CM w5 W2.heap.size (k + 1) (fun y => cntI (kdF m) (k + 1) y)) := hid (by
            have e : (fun y => if y = x0 then c + 1 else cntI (kdF m) k y) = fun y => cntI (kdF m) (k + 1) y := by
              funext y
              rw [HN1.out y, HCd.out]
              by_cases hy : y = x0
              · rw [if_pos hy, if_pos hy.symm, hy]
              · rw [if_neg hy, if_neg (fun h => hy h.symm)]; omega
            rw [← e]; exact hcm5)
          have HS5 := hid (HSE.out.kept hg5 (by simp))
          have HB5 : Hid (Below W2.heap.size W2 w5) := hid (HBE.out.trans ⟨hg5.os, hg5.tape, hg5.output, hg5.size, fun j hj => hg5.block j (by simp; omega) (by simp; omega)⟩)
          have hs5 : wr.heap.size ≤ w5.heap.size := by have := hg5.size; simp at this; omega
          clear hcm5 hg5 bE HKE HSE HBE
          go_wp2_with fail
          clear hl1 hu1 c0 c1 c2' c3 c4 c5
          refine (HSt.out w5 HB5.out).mono ?_
          rintro e w6 ⟨rfl, b6⟩
          have HC6 := hid (HC5.out.below b6)
          have HS6 := hid (HS5.out.below b6)
          have HB6 := hid (HB5.out.trans (b6.mono HB5.out.size))
          have hs6 : wr.heap.size ≤ w6.heap.size := Nat.le_trans hs5 b6.size
          clear b6 HC5 HS5 HB5 HSt
          have hl2 : (Instr.lookup 82 (.map (some (W2.heap.size + 1))) (.int .i64 s) false).run Try.prog w6 = .ok (.int .i64 c2) w6 := by
            have h := HS6.out.look s (by omega)
            rw [HCd2.out]; exact h
          obtain ⟨w7, hu2, hcm7, hg7⟩ := HS6.out.upd (by unfold maxLen; omega) s (c2 + 1) (by omega) (by omega)
          have HS7 : Hid (CM w7 (W2.heap.size + 1) (k + 1) (fun y => cntI (stF a p m) (k + 1) y)) := hid (by
            have e : (fun y => if y = s then c2 + 1 else cntI (stF a p m) k y) = fun y => cntI (stF a p m) (k + 1) y := by
              funext y
              rw [HN2.out y, HCd2.out]
              by_cases hy : y = s
              · rw [if_pos hy, if_pos hy.symm, hy]
              · rw [if_neg hy, if_neg (fun h => hy h.symm)]; omega
            rw [← e]; exact hcm7)
          have HC7 := hid (HC6.out.kept hg7 (by simp))
          have HB7 : Hid (Below W2.heap.size W2 w7) := hid (HB6.out.trans ⟨hg7.os, hg7.tape, hg7.output, hg7.size, fun j hj => hg7.block j (by omega) (by simp; omega)⟩)
          clear hcm7 hg7 HC6 HS6 HB6
          go_wp2
          go_roundw
          case rel => exact ⟨k + 1, by omega, by go_num, HC7.out, HS7.out, HB7.out⟩
          case measure => simp [intOf]; omega
      · obtain rfl : k = n3 := by omega
        have l1 := HKc.out.look 1 (by omega)
        have l2 := HKc.out.look 2 (by omega)
        have l3 := HKc.out.look 5 (by omega)
        have l4 := HSc.out.look 1 (by omega)
        have l5 := HSc.out.look 2 (by omega)
        have l6 := HSc.out.look 3 (by omega)
        have l7 := HSc.out.look 4 (by omega)
        have HE : Hid (fcL a p m m.ls.length = [cntI (kdF m) k 1, cntI (kdF m) k 2, cntI (kdF m) k 5, cntI (stF a p m) k 1, cntI (stF a p m) k 2, cntI (stF a p m) k 3, cntI (stF a p m) k 4]) := hid (by rw [← HN3.out]; rfl)
        generalize cntI (kdF m) k 1 = d1 at *
        generalize cntI (kdF m) k 2 = d2 at *
        generalize cntI (kdF m) k 5 = d3 at *
        generalize cntI (stF a p m) k 1 = d4 at *
        generalize cntI (stF a p m) k 2 = d5 at *
        generalize cntI (stF a p m) k 3 = d6 at *
        generalize cntI (stF a p m) k 4 = d7 at *
        have HBw := hid (HB.out.trans (HBl.out.mono hz2))
        go_wp2
        go_ret2
        refine ⟨_, rfl, ?_, HBw.out.alloc HBw.out.size _⟩
        rw [HE.out]
        have ho := sl.Own.mk' (xs := [d1, d2, d3, d4, d5, d6, d7]) (World.ownsRow_lit wr #[.int .i64 d1, .int .i64 d2, .int .i64 d3, .int .i64 d4, .int .i64 d5, .int .i64 d6, .int .i64 d7] 7 (Nat.le_refl _) (by unfold maxLen; omega) (by simp))
        exact ho.lo HBw.out.size
end Go.Proofs.Ytlhpipcmebmpdab.mc
