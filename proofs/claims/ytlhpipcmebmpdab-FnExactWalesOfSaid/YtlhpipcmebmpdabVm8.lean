/-
  ValidMachine of the model.
-/
import Derived.Test.YtlhpipcmebmpdabVm7
import Derived.Deep.RegionLaw
import Derived.Deep.CutRange
import Derived.Deep.Light
namespace Go.Proofs.Ytlhpipcmebmpdab.mc
open Go.RowKit Go.Sort Go.Proofs.Ytlhpipcmebmpdab.sl Go.Proofs.Ytlhpipcmebmpdab.br Go.Proofs.Ytlhpipcmebmpdab.fn Go.Proofs.Ytlhpipcmebmpdab.ss
set_option linter.unusedVariables false
set_option linter.unusedSimpArgs false

/-- append(out, src...) as one step of a region that draws its order. -/
theorem step_appendAll {ops : Array Oper} {o : Oper} {a : Act} {K : Act → World → Prop} {Q : Exit → Act → World → Prop} {E : Prop} {w : World} (hgd : o.guard = none) (s x : Operand)
    (hop : o.op = .call { callee := .builtin .append, args := #[s, x], argTypes := #[25, 25] })
    (lo hi : Nat) (v : Value) (xs : List Int) (ho : Own w lo hi v xs) (hs : a.eval s = v) (u : Value) (ys : List Int) (C : Nat) (hu : Ints w C u ys) (hnil : NilOk u) (hx : a.eval x = u) (hlo : lo ≤ w.heap.size) (hn : xs.length + ys.length ≤ 1099511627776)
    (hK : ∀ v' w', Own w' lo w'.heap.size v' (xs ++ ys) → Chg lo hi w w' → K (a.put o.dst v') w') : if Region.wanted o (yielded ops a.tmps) = true then Oper.wp Try.prog o a w K Q else E := by
  have hw : Region.wanted o (yielded ops a.tmps) = true := by simp [Region.wanted, hgd]
  rw [if_pos hw]
  obtain ⟨i0, hi', hz0, hz1, hz2⟩ := info_parts info64
  have main : ∀ (ad : Addr) (cap : Nat), u = .slice (some ad) ys.length cap → (∀ j, j < ys.length → w.cell? (ad.add j) = some (.int .i64 (ys.getD j 0))) → Oper.wp Try.prog o a w K Q := by
    intro ad cap hu' hc
    refine wp_append_own (P := Try.prog) w s x 25 hop lo 2 i0 (.int .i64 0) 1 8 Try.underlying25 hi' hz0 hz1 hz2 rfl (by decide) v xs.length (xs.map (Value.int .i64)) hs ho.1 ad ys.length cap (ys.map (Value.int .i64)) (hx.trans hu') (by simp) ?_ (ints_oneCell _ _) ?_ ?_ hlo ?_
    · intro j q hj
      have hj' : j < ys.length := by
        have := (List.getElem?_eq_some_iff.1 hj).1
        simpa using this
      rw [hc j hj']
      simp only [List.getElem?_map, List.getElem?_eq_getElem hj', Option.map_some, Option.some.injEq] at hj
      rw [← hj]
      simp [List.getD, List.getElem?_eq_getElem hj']
    · unfold maxLen; omega
    · omega
    · intro v' w' h1 h2 _
      refine hK v' w' (Own.mk' (by rw [List.length_append, List.map_append]; exact h1)) ⟨h2.os, h2.tape, h2.output, h2.size, fun k hk hk' => ?_⟩
      exact h2.block k hk (by intro e; have h3 := ho.2.1 k e.symm; have h4 := (ho.1.lt k e.symm).1; exact hk' ⟨h4, h3⟩)
  rcases hu with ⟨rfl, ao, cap, rfl⟩ | ⟨hp, b, off, cap, hv, hb, hc⟩
  · cases ao with
    | none =>
      obtain ⟨_, rfl⟩ := hnil _ _ rfl
      have hrun := run_append_owned_none (P := Try.prog) (w := w) lo 25 o.type 2 i0 1 Try.underlying25 hi' v xs.length (xs.map (Value.int .i64)) ho.1
      unfold Oper.wp
      simp [execOp, hop, resolve, invoke, builtin, hs, hx, hrun, Result.andThen]
      exact hK v w (by rw [List.append_nil]; exact ho.hi ho.2.2 (Nat.le_refl _)) (Chg.refl _ _ _)
    | some ad => exact main ad cap rfl (fun j hj => by simp at hj)
  · exact main ⟨b, off, none⟩ cap hv (fun j hj => by rw [Addr.add_lit]; exact hc j hj)

theorem quietB {f : FuncId} {args : Array Value} {w : World} {v : Value} (h : Calls Try.prog f args w fun e w' => e = .returned v ∧ ∃ q, w' = w.drewN q) : Calls Try.prog f args w fun e w' => e = .returned v ∧ Below w.heap.size w w' :=
  h.mono fun _ _ ⟨e1, q, e2⟩ => ⟨e1, by rw [e2]; exact bdrewN (Below.refl _ _) q⟩

theorem range_bad {f : Nat → Bool} {n k : Nat} (hk : k < n) (h : f k = false) : (List.range n).all f = false := by
  rw [List.all_eq_false]
  exact ⟨k, by simpa using hk, by rw [h]; simp⟩
theorem range_good {f : Nat → Bool} {n : Nat} (h : ∀ k, k < n → f k = true) : (List.range n).all f = true := by
  rw [List.all_eq_true]
  intro k hk
  exact h k (by simpa using hk)
theorem diff_suffix {n : Int} {xs ys : List Int} (h : diffB n (xs ++ ys) = true) : ys.all (inB 0 (n - 1)) = true := by
  simp only [diffB, Bool.and_eq_true, List.all_append] at h
  exact h.1.2

set_option maxRecDepth 100000 in
set_option maxHeartbeats 8000000 in
theorem specOkM (a p : Int) (m : Mch) (f0 f1 f2 f3 f4 : Value) (lo hi pb : Nat) (w : World) (ho : MOwn w lo hi f0 f1 f2 f3 f4 m) (hq : Small m) (HX0 : Bx w w pb a p f0 f1 f2 f3 f4) :
    Calls Try.prog 42 #[.pointer (some ⟨pb, 0, none⟩)] w fun e w' => e = .returned (.bool (okM a p m)) ∧ Below w.heap.size w w' := by
  have hhi := ho.1
  have hC := ho.c
  obtain ⟨⟨a0, k0, rfl⟩, ⟨a1, k1, rfl⟩, ⟨a2, k2, rfl⟩, ⟨a3, k3, rfl⟩, ⟨a4, k4, rfl⟩⟩ := hC.vals
  obtain ⟨_, p1, p2, p3, p4, e0, e1, e2, e3, e4, o0, o1, o2, o3, o4⟩ := ho
  have HS := hid hq
  obtain ⟨n0, hn0⟩ : ∃ n, n = m.fr.length := ⟨_, rfl⟩
  obtain ⟨n1, hn1⟩ : ∃ n, n = m.bk.length := ⟨_, rfl⟩
  obtain ⟨n2, hn2⟩ : ∃ n, n = m.cs.length := ⟨_, rfl⟩
  obtain ⟨n3, hn3⟩ : ∃ n, n = m.ls.length := ⟨_, rfl⟩
  obtain ⟨n4, hn4⟩ : ∃ n, n = m.dr.length := ⟨_, rfl⟩
  rw [← hn0] at HX0 o0
  rw [← hn1] at HX0 o1
  rw [← hn2] at HX0 o2
  rw [← hn3] at HX0 o3
  rw [← hn4] at HX0 o4
  have HX := hid HX0
  obtain ⟨q, hqq⟩ : ∃ q, q = okM a p m := ⟨_, rfl⟩
  rw [← hqq]
  simp only [okM, stkB, carB, infsB, placeB] at hqq
  rw [← hn0, ← hn1, ← hn2, ← hn3] at hqq
  obtain ⟨t0, ht0⟩ : ∃ t, t = inB 1 24 a := ⟨_, rfl⟩
  obtain ⟨t1, ht1⟩ : ∃ t, t = inB (-3) 3 p := ⟨_, rfl⟩
  obtain ⟨u2, hu2⟩ : ∃ t, t = ((n0 : Int) == a) := ⟨_, rfl⟩
  obtain ⟨u3, hu3⟩ : ∃ t, t = ((n1 : Int) == a) := ⟨_, rfl⟩
  obtain ⟨u4, hu4⟩ : ∃ t, t = ((n2 : Int) == 4) := ⟨_, rfl⟩
  obtain ⟨u5, hu5⟩ : ∃ t, t = decide ((n3 : Int) ≤ 300) := ⟨_, rfl⟩
  obtain ⟨v2, hv2⟩ : ∃ t, t = m.fr.any longB := ⟨_, rfl⟩
  obtain ⟨v3, hv3⟩ : ∃ t, t = m.bk.any longB := ⟨_, rfl⟩
  obtain ⟨v4, hv4⟩ : ∃ t, t = m.cs.any (carW a) := ⟨_, rfl⟩
  obtain ⟨y5, hy5⟩ : ∃ t, t = ((List.range n3).all fun i => infX a i (m.ls.getD i nf.iz)) := ⟨_, rfl⟩
  obtain ⟨i6, hi6⟩ : ∃ t, t = incB m.dr := ⟨_, rfl⟩
  obtain ⟨d6, hd6⟩ : ∃ t, t = diffB (n3 : Int) ((m.fr ++ m.bk).flatten ++ m.dr) := ⟨_, rfl⟩
  rw [← ht0, ← ht1, ← hu2, ← hu3, ← hu4, ← hu5, ← hv2, ← hv3, ← hv4, ← hy5, ← hi6, ← hd6] at hqq
  have HQ := hid hqq
  have HV2 := hid hv2
  have HV3 := hid hv3
  have HV4 := hid hv4
  have HY5 := hid hy5
  have HI6 := hid hi6
  have HD6 := hid hd6
  have HN0 := hid hn0
  have HN1 := hid hn1
  have HN2 := hid hn2
  have HN3 := hid hn3
  have HN4 := hid hn4
  have HT0 : Hid (t0 = true → 1 ≤ a ∧ a ≤ 24) := hid (fun h => of_decide_eq_true (ht0.symm.trans h))
  have A0 := hid (fun w1 => vr.inQ a 1 24 t0 ht0.symm w1)
  have A1 := hid (fun w1 => vr.inQ p (-3) 3 t1 ht1.symm w1)
  have g2 : ((n0 : Int) != a) = !u2 := by rw [hu2]; rfl
  have g3 : ((n1 : Int) != a) = !u3 := by rw [hu3]; rfl
  have g4 : ((n2 : Int) != 4) = !u4 := by rw [hu4]; rfl
  have g5 : decide ((300 : Int) < (n3 : Int)) = !u5 := by rw [hu5]; by_cases h : (n3 : Int) ≤ 300 <;> simp [h] <;> omega
  have HU2 : Hid (u2 = true → (n0 : Int) = a) := hid (fun h => by simpa using hu2.symm.trans h)
  have HU3 : Hid (u3 = true → (n1 : Int) = a) := hid (fun h => by simpa using hu3.symm.trans h)
  have HU4 : Hid (u4 = true → n2 = 4) := hid (fun h => by have h' : (n2 : Int) = 4 := (by simpa using hu4.symm.trans h); omega)
  have HU5 : Hid (u5 = true → n3 ≤ 300) := hid (fun h => by have h' : (n3 : Int) ≤ 300 := of_decide_eq_true (hu5.symm.trans h); omega)
  have HO0 := hid o0
  have HO1 := hid o1
  have HO2 := hid o2
  have HO3 := hid o3
  have HO4 := hid o4
  have r0 := HX0.c0
  have r1 := HX0.c1
  have r2 := HX0.c2
  have r3 := HX0.c3
  have r4 := HX0.c4
  have r5 := HX0.c5
  clear hqq ht0 ht1 hu2 hu3 hu4 hu5 hv2 hv3 hv4 hy5 hi6 hd6 hn0 hn1 hn2 hn3 hn4 o0 o1 o2 o3 o4 HX0 hC hq
  cases t0 with
  | false =>
    have HF : Hid (q = false) := hid (by rw [HQ.out]; simp)
    clear HQ
    go_enter Try.func42, Try.ntmps42
    go_wp2
    go_quiet ((first | (go_at_call_of 62 (Value.int .i64 a); exact Calls.quiet_of_same (A0.out _)) | (go_at_call_of 62 (Value.int .i64 p); exact Calls.quiet_of_same (A1.out _))))
    go_wp2
    go_ret
    exact ⟨by rw [HF.out]; rfl, bdrewN (Below.refl _ _) _⟩
  | true =>
    cases t1 with
    | false =>
      have HF : Hid (q = false) := hid (by rw [HQ.out]; simp)
      clear HQ
      go_enter Try.func42, Try.ntmps42
      go_wp2
      go_quiet ((first | (go_at_call_of 62 (Value.int .i64 a); exact Calls.quiet_of_same (A0.out _)) | (go_at_call_of 62 (Value.int .i64 p); exact Calls.quiet_of_same (A1.out _))))
      go_wp2
      go_ret
      exact ⟨by rw [HF.out]; rfl, bdrewN (Below.refl _ _) _⟩
    | true =>
      cases u2 with
      | false =>
        have HF : Hid (q = false) := hid (by rw [HQ.out]; simp)
        clear HQ
        go_enter Try.func42, Try.ntmps42
        go_wp2
        go_quiet ((first | (go_at_call_of 62 (Value.int .i64 a); exact Calls.quiet_of_same (A0.out _)) | (go_at_call_of 62 (Value.int .i64 p); exact Calls.quiet_of_same (A1.out _))))
        go_wp2
        go_ret
        exact ⟨by rw [HF.out]; rfl, bdrewN (Below.refl _ _) _⟩
      | true =>
        cases u3 with
        | false =>
          have HF : Hid (q = false) := hid (by rw [HQ.out]; simp)
          clear HQ
          go_enter Try.func42, Try.ntmps42
          go_wp2
          go_quiet ((first | (go_at_call_of 62 (Value.int .i64 a); exact Calls.quiet_of_same (A0.out _)) | (go_at_call_of 62 (Value.int .i64 p); exact Calls.quiet_of_same (A1.out _))))
          go_wp2
          go_ret
          exact ⟨by rw [HF.out]; rfl, bdrewN (Below.refl _ _) _⟩
        | true =>
          cases u4 with
          | false =>
            have HF : Hid (q = false) := hid (by rw [HQ.out]; simp)
            clear HQ
            go_enter Try.func42, Try.ntmps42
            go_wp2
            go_quiet ((first | (go_at_call_of 62 (Value.int .i64 a); exact Calls.quiet_of_same (A0.out _)) | (go_at_call_of 62 (Value.int .i64 p); exact Calls.quiet_of_same (A1.out _))))
            go_wp2
            go_ret
            exact ⟨by rw [HF.out]; rfl, bdrewN (Below.refl _ _) _⟩
          | true =>
            cases u5 with
            | false =>
              have HF : Hid (q = false) := hid (by rw [HQ.out]; simp)
              clear HQ
              go_enter Try.func42, Try.ntmps42
              go_wp2
              go_quiet ((first | (go_at_call_of 62 (Value.int .i64 a); exact Calls.quiet_of_same (A0.out _)) | (go_at_call_of 62 (Value.int .i64 p); exact Calls.quiet_of_same (A1.out _))))
              go_wp2
              go_ret
              exact ⟨by rw [HF.out]; rfl, bdrewN (Below.refl _ _) _⟩
            | true =>
              have HQ2 : Hid (q = (!v2 && (!v3 && (!v4 && (y5 && (i6 && d6)))))) := hid (by rw [HQ.out]; simp)
              have hw := HT0.out rfl
              have HW := hid hw
              obtain ⟨hw0, hw1⟩ := hw
              have hn2 := HU4.out rfl
              have hn3 := HU5.out rfl
              have hna := HU2.out rfl
              have hnb := HU3.out rfl
              clear HQ HT0 HU2 HU3 HU4 HU5
              have HE2 := hid hn2
              have hn24 : n2 ≤ 100 := by omega
              clear hn2
              obtain ⟨g2, hg2, hc2⟩ : ∃ g, a2 = some ⟨g, 0, none⟩ ∧ (∀ j, j < n2 → ca.At w g (0 + j * 2) (m.cs.getD j ca.oz)) := by
                rcases HO2.out.2 with ⟨h0, _⟩ | ⟨hp, g, cap, hv, h1, h2, h3, h4⟩
                · have := HN2.out; have h4 := HE2.out; rw [h0] at this; simp at this; omega
                · simp only [Value.slice.injEq] at hv
                  exact ⟨g, hv.1, fun j hj => h4 j (by rw [← HN2.out]; exact hj)⟩
              subst hg2
              have HC2 := hid hc2
              clear hc2
              have HCY := hid (fun k h1 h2 => cany_yes (carW a) m.cs k h1 h2)
              have HCN := hid (cany_no (carW a) m.cs)
              rw [← HN2.out] at HCY HCN
              have hwr3 : IntKind.i64.wrap (a + 3) = a + 3 := IntWalk.i64_in _ (by omega)
              go_enter Try.func42, Try.ntmps42
              go_wp2
              go_quiet ((first | (go_at_call_of 62 (Value.int .i64 a); exact Calls.quiet_of_same (A0.out _)) | (go_at_call_of 62 (Value.int .i64 p); exact Calls.quiet_of_same (A1.out _))))
              go_wp2
              generalize hW1 : w.drewN _ = w1 at *
              have HB1 : Hid (Below w.heap.size w w1) := hid (by rw [← hW1]; exact bdrewN (Below.refl _ _) _)
              clear hW1 r0 r1 r2 r3 r4 r5
              go_loopw [3] (fun i wr => ∃ k : Nat, k ≤ n2 ∧ i = .int .i64 k ∧ (∀ j, j < k → carW a (m.cs.getD j ca.oz) = false) ∧ Below w.heap.size w wr) (fun i _ => n2 - (intOf i).toNat)
              case atStart => exact ⟨0, Nat.zero_le _, rfl, fun j hj => by omega, HB1.out⟩
              case round =>
                obtain ⟨k, hk, rfl, hg, hbel⟩ := hrel
                have HG := hid hg
                have HB := hid hbel
                have HXr := hid (HX.out.below hbel)
                have y4 := HXr.out.c4
                clear hg hbel
                by_cases hlt : k < n2
                · have HA := (HC2.out k hlt).below HB.out
                  have HCk := hid (HCY.out k hlt)
                  have HGk : Hid (carW a (m.cs.getD k ca.oz) = false → ∀ j, j < k + 1 → carW a (m.cs.getD j ca.oz) = false) := hid (fun h j hj => by
                    rcases Nat.lt_or_ge j k with h' | h'
                    · exact HG.out j h'
                    · obtain rfl : j = k := by omega
                      exact h)
                  generalize m.cs.getD k ca.oz = x at *
                  obtain ⟨x0, x1⟩ := x
                  have c0 := HA.c0
                  have c1 := HA.c1
                  simp only [Nat.zero_add] at c0 c1
                  have bw := (Below.refl wr.heap.size wr).alloc (Nat.le_refl _) (.cells #[.bool x0, .int .i64 x1] 90)
                  have HBw := hid (HB.out.trans (bw.mono HB.out.size))
                  have y0 := (HXr.out.below bw).c0
                  have d0 : (wr.alloc (.cells #[.bool x0, .int .i64 x1] 90)).cell? ⟨wr.heap.size, 0, none⟩ = some (.bool x0) := World.cell?_alloc_at _ _ _ _ rfl
                  have d1 : (wr.alloc (.cells #[.bool x0, .int .i64 x1] 90)).cell? ⟨wr.heap.size, 1, none⟩ = some (.int .i64 x1) := World.cell?_alloc_at _ _ _ _ rfl
                  clear HA bw
                  obtain ⟨t, ht⟩ : ∃ t, inB (-3) (a + 3) x1 = t := ⟨_, rfl⟩
                  obtain ⟨r, hr⟩ : ∃ r, (x1 == 0) = r := ⟨_, rfl⟩
                  have hr2 : (x1 != 0) = !r := by rw [← hr]; rfl
                  have HI := hid (fun W => vr.inQ x1 (-3) (a + 3) t ht W)
                  go_wp2
                  generalize (wr.alloc (.cells #[.bool x0, .int .i64 x1] 90)) = w2 at *
                  clear c0 c1 y4
                  cases t with
                  | false =>
                    cases r
                    · have HF : Hid (q = false) := hid (by rw [HQ2.out, HV4.out, HCk.out (by simp [carW, ht, hr])]; simp)
                      clear ht hr
                      go_wp2
                      go_quiet ((go_at_call 62; exact Calls.quiet_of_same (HI.out _)))
                      go_wp2
                      go_ret
                      exact ⟨by rw [HF.out]; rfl, bdrewN HBw.out _⟩
                    · have HF : Hid (q = false) := hid (by rw [HQ2.out, HV4.out, HCk.out (by simp [carW, ht, hr])]; simp)
                      clear ht hr
                      go_wp2
                      go_quiet ((go_at_call 62; exact Calls.quiet_of_same (HI.out _)))
                      go_wp2
                      go_ret
                      exact ⟨by rw [HF.out]; rfl, bdrewN HBw.out _⟩
                  | true =>
                    cases x0 with
                    | true =>
                      cases r
                      · have HSt := hid (HGk.out (by simp [carW, ht, hr]))
                        clear ht hr
                        go_wp2
                        go_quiet ((go_at_call 62; exact Calls.quiet_of_same (HI.out _)))
                        go_wp2
                        go_roundw
                        case rel => exact ⟨k + 1, by omega, by go_num, HSt.out, bdrewN HBw.out _⟩
                        case measure => simp [intOf]; omega
                      · have HSt := hid (HGk.out (by simp [carW, ht, hr]))
                        clear ht hr
                        go_wp2
                        go_quiet ((go_at_call 62; exact Calls.quiet_of_same (HI.out _)))
                        go_wp2
                        go_roundw
                        case rel => exact ⟨k + 1, by omega, by go_num, HSt.out, bdrewN HBw.out _⟩
                        case measure => simp [intOf]; omega
                    | false =>
                      cases r with
                      | false =>
                        have HF : Hid (q = false) := hid (by rw [HQ2.out, HV4.out, HCk.out (by simp [carW, ht, hr])]; simp)
                        clear ht hr
                        go_wp2
                        go_quiet ((go_at_call 62; exact Calls.quiet_of_same (HI.out _)))
                        go_wp2
                        go_ret
                        exact ⟨by rw [HF.out]; rfl, bdrewN HBw.out _⟩
                      | true =>
                        have HSt := hid (HGk.out (by simp [carW, ht, hr]))
                        clear ht hr
                        go_wp2
                        go_quiet ((go_at_call 62; exact Calls.quiet_of_same (HI.out _)))
                        go_wp2
                        go_roundw
                        case rel => exact ⟨k + 1, by omega, by go_num, HSt.out, bdrewN HBw.out _⟩
                        case measure => simp [intOf]; omega
                · obtain rfl : k = n2 := by omega
                  have HF4 : Hid (v4 = false) := hid (by rw [HV4.out, HCN.out HG.out])
                  have HQ3 : Hid (q = (!v2 && (!v3 && (y5 && (i6 && d6))))) := hid (by rw [HQ2.out, HF4.out]; simp)
                  clear HQ2 HF4 HV4 HG HCY HCN HC2 HO2 HN2 HE2
                  have HCell : Hid (∀ j, j < n3 → ∃ g f l' h', a3 = some ⟨g, 0, none⟩ ∧ nf.At w g (0 + j * 6) (m.ls.getD j nf.iz) f ∧ Own w l' h' f (m.ls.getD j nf.iz).ps) := hid (fun j hj => by
                    rcases HO3.out.2 with ⟨h0, _⟩ | ⟨hp, g, cap, F, L, Hh, hv, h1, h2, h3, h4⟩
                    · have := HN3.out; rw [h0] at this; simp at this; omega
                    · simp only [Value.slice.injEq] at hv
                      have h5 := h4 j (by rw [← HN3.out]; exact hj)
                      exact ⟨g, F j, L j, Hh j, hv.1, h5.1, h5.2.1⟩)
                  have HYB : Hid (∀ k, k < n3 → infX a k (m.ls.getD k nf.iz) = false → y5 = false) := hid (fun k h1 h2 => by rw [HY5.out]; exact range_bad h1 h2)
                  have HYG : Hid ((∀ k, k < n3 → infX a k (m.ls.getD k nf.iz) = true) → y5 = true) := hid (fun h => by rw [HY5.out]; exact range_good h)
                  have HSh := hid HS.out.s3.short
                  rw [← HN3.out] at HSh
                  clear HY5
                  have y4 := HXr.out.c4
                  go_wp2
                  clear y4
                  go_loopw [5] (fun i wr2 => ∃ k : Nat, k ≤ n3 ∧ i = .int .i64 k ∧ (∀ j, j < k → infX a j (m.ls.getD j nf.iz) = true) ∧ Below w.heap.size w wr2) (fun i _ => n3 - (intOf i).toNat)
                  case atStart => exact ⟨0, Nat.zero_le _, rfl, fun j hj => by omega, HB.out⟩
                  case round =>
                    clear HXr HB
                    obtain ⟨k, hk, rfl, hg, hbel⟩ := hrel
                    have HG := hid hg
                    have HB := hid hbel
                    have HXr := hid (HX.out.below hbel)
                    have y0 := HXr.out.c0
                    have y5' := HXr.out.c5
                    clear hg hbel
                    by_cases hlt : k < n3
                    · obtain ⟨g, f, l', h', rfl, hA0, hO0⟩ := HCell.out k hlt
                      have HA := hA0.below HB.out
                      have HOf := hid (hO0.chg (Chg.ofBelow (lo := 0) HB.out) (.inr (.inr (Nat.zero_le _))))
                      have HBk := hid (HYB.out k hlt)
                      have hsh := HSh.out k hlt
                      have HGk : Hid (infX a k (m.ls.getD k nf.iz) = true → ∀ j, j < k + 1 → infX a j (m.ls.getD j nf.iz) = true) := hid (fun h j hj => by
                        rcases Nat.lt_or_ge j k with h' | h'
                        · exact HG.out j h'
                        · obtain rfl : j = k := by omega
                          exact h)
                      clear hA0 hO0
                      generalize m.ls.getD k nf.iz = x at *
                      obtain ⟨x0, x1, x2, x3, x4, ps⟩ := x
                      simp only [Nat.zero_add] at HA
                      obtain ⟨t, ht⟩ : ∃ t, t = infX a k ⟨x0, x1, x2, x3, x4, ps⟩ := ⟨_, rfl⟩
                      rw [← ht] at HBk HGk
                      have HI : Hid (∀ z, Calls Try.prog 70 #[.pointer (some ⟨g, k * 6, none⟩), .int .i64 a, .int .i64 (k : Int)] (wr.drewN z) fun e w' => e = .returned (.bool t) ∧ ∃ z', w' = (wr.drewN z).drewN z') := hid (fun z => by
                        rw [ht]
                        exact specInfo x0 x1 x2 x3 x4 ps f _ g (k * 6) a k (wr.drewN z) (HA.below (bdrewN (Below.refl _ _) z)) (HOf.out.drewN z).ints (vr.capok_own HOf.out) hsh HW.out (by omega))
                      clear HA HOf hsh ht
                      cases t with
                      | false =>
                        have HF : Hid (q = false) := hid (by rw [HQ3.out, HBk.out rfl]; simp)
                        clear HBk
                        go_wp2
                        go_quiet ((go_at_call 70; exact Calls.quiet_of (HI.out _)))
                        go_wp2
                        go_ret
                        exact ⟨by rw [HF.out]; rfl, bdrewN HB.out _⟩
                      | true =>
                        have HSt := hid (HGk.out rfl)
                        go_wp2
                        go_quiet ((go_at_call 70; exact Calls.quiet_of (HI.out _)))
                        go_wp2
                        go_roundw
                        case rel => exact ⟨k + 1, by omega, by go_num, HSt.out, bdrewN HB.out _⟩
                        case measure => simp [intOf]; omega
                    · obtain rfl : k = n3 := by omega
                      have HQ4 : Hid (q = (!v2 && (!v3 && (i6 && d6)))) := hid (by rw [HQ3.out, HYG.out HG.out]; simp)
                      have y2 := HXr.out.c2
                      have hww := HB.out.size
                      clear HQ3 HYG HYB HG HCell HSh HO3 y0
                      go_wp2_with fail
                      clear y2 y5'
                      refine (specLists m.fr _ lo p1 wr (HO0.out.chg (Chg.ofBelow (lo := 0) HB.out) (.inr (.inr (Nat.zero_le _)))) (by rw [← HN0.out]; omega) HS.out.s0.1).mono ?_
                      rintro e wa ⟨va, rfl, oa, ba⟩
                      rw [← HV2.out]
                      have HOa := hid oa
                      have HBa := hid (HB.out.trans (ba.mono HB.out.size))
                      have HXa := hid (HXr.out.below ba)
                      obtain ⟨aa, ca, hva⟩ := br.own_val oa
                      obtain ⟨la, hla⟩ : ∃ l, l = (lstW m.fr).length := ⟨_, rfl⟩
                      rw [← hla] at hva
                      subst hva
                      have HLa := hid hla
                      have hsa := ba.size
                      have y3 := HXa.out.c3
                      clear hla oa ba HB HXr
                      go_wp2_with fail
                      clear y3
                      refine (specLists m.bk _ p1 p2 wa (HO1.out.chg (Chg.ofBelow (lo := 0) HBa.out) (.inr (.inr (Nat.zero_le _)))) (by rw [← HN1.out]; omega) HS.out.s1.1).mono ?_
                      rintro e wb ⟨vb, rfl, ob, bb⟩
                      rw [← HV3.out]
                      have HOb := hid ob
                      have HOa2 := hid (HOa.out.chg (Chg.ofBelow (lo := 0) bb) (.inr (.inr (Nat.zero_le _))))
                      have HBb := hid (HBa.out.trans (bb.mono HBa.out.size))
                      have HXb := hid (HXa.out.below bb)
                      obtain ⟨ab, cb, hvb⟩ := br.own_val ob
                      obtain ⟨lb, hlb⟩ : ∃ l, l = (lstW m.bk).length := ⟨_, rfl⟩
                      rw [← hlb] at hvb
                      subst hvb
                      have HLb := hid hlb
                      have hsb := bb.size
                      clear hlb ob bb HOa HBa HXa
                      have HDr := hid (HO4.out.chg (Chg.ofBelow (lo := 0) HBb.out) (.inr (.inr (Nat.zero_le _))))
                      have y5 := HXb.out.c5
                      have y6 := HXb.out.c6
                      have hwn : IntKind.i64.wrap ((k : Int) - 1) = (k : Int) - 1 := IntWalk.i64_in _ (by omega)
                      obtain ⟨r, hr⟩ : ∃ r, r = (m.dr.all (inB 0 ((k : Int) - 1)) && incB m.dr) := ⟨_, rfl⟩
                      have HRi : Hid (∀ z, Calls Try.prog 72 #[.slice a4 n4 k4, .int .i64 0, .int .i64 ((k : Int) - 1)] (wb.drewN z) fun e w' => e = .returned (.bool r) ∧ ∃ z', w' = (wb.drewN z).drewN z') := hid (fun z => by
                        rw [hr]
                        exact specRises 0 ((k : Int) - 1) m.dr _ _ (wb.drewN z) (HDr.out.drewN z).ints (by have := HS.out.s4; omega))
                      have HR1 : Hid (r = false → (i6 && d6) = false) := hid (fun h => by
                        rw [h] at hr
                        rw [HI6.out]
                        cases hd : d6 with
                        | false => simp
                        | true =>
                          rw [HD6.out] at hd
                          rw [diff_suffix hd, Bool.true_and] at hr
                          rw [← hr]; rfl)
                      have HR2 : Hid (r = true → i6 = true) := hid (fun h => by
                        rw [h] at hr
                        rw [HI6.out]
                        have := hr.symm
                        simp only [Bool.and_eq_true] at this
                        exact this.2)
                      clear hr HI6
                      cases v2 with
                      | true =>
                        have HF : Hid (q = false) := hid (by rw [HQ4.out]; simp)
                        go_wp2
                        go_quiet (fail)
                        go_wp2
                        go_ret
                        exact ⟨by rw [HF.out]; rfl, bdrewN HBb.out _⟩
                      | false =>
                        cases v3 with
                        | true =>
                          have HF : Hid (q = false) := hid (by rw [HQ4.out]; simp)
                          go_wp2
                          go_quiet (fail)
                          go_wp2
                          go_ret
                          exact ⟨by rw [HF.out]; rfl, bdrewN HBb.out _⟩
                        | false =>
                          cases r with
                          | false =>
                            have HF : Hid (q = false) := hid (by rw [HQ4.out, HR1.out rfl]; simp)
                            go_wp2
                            go_quiet ((go_at_call 72; exact Calls.quiet_of (HRi.out _)))
                            go_wp2
                            go_ret
                            exact ⟨by rw [HF.out]; rfl, bdrewN HBb.out _⟩
                          | true =>
                            have HQ5 : Hid (q = d6) := hid (by rw [HQ4.out, HR2.out rfl]; simp)
                            clear HQ4 HR1 HR2
                            go_wp2
                            go_quiet ((go_at_call 72; exact Calls.quiet_of (HRi.out _)))
                            go_wp2
                            generalize hWc : wb.drewN _ = wc at *
                            have bc : Below wb.heap.size wb wc := by rw [← hWc]; exact bdrewN (Below.refl _ _) _
                            have HBc := hid (HBb.out.trans (bc.mono HBb.out.size))
                            have HOa3 := hid (HOa2.out.chg (Chg.ofBelow (lo := 0) bc) (.inr (.inr (Nat.zero_le _))))
                            have HOb3 := hid (HOb.out.chg (Chg.ofBelow (lo := 0) bc) (.inr (.inr (Nat.zero_le _))))
                            have HDr3 := hid (HDr.out.chg (Chg.ofBelow (lo := 0) bc) (.inr (.inr (Nat.zero_le _))))
                            have HXc := hid (HXb.out.below bc)
                            have hsc := bc.size
                            have HWr := hid HXb.out.lt
                            have hbp := HX.out.lt
                            clear hWc bc HOa2 HOb HDr HXb HRi y5 y6 HBb
                            have HA1 : Hid (lstW m.fr = m.fr.flatten) := hid (by unfold lstW; rw [← HV2.out]; rfl)
                            have HA2 : Hid (lstW m.bk = m.bk.flatten) := hid (by unfold lstW; rw [← HV3.out]; rfl)
                            have HL1 : Hid ((lstW m.fr).length ≤ 1048576 * 8) := hid (by
                              rw [HA1.out]
                              have := stk_flat (W := a) (rows := m.fr) (by simp only [stkB]; rw [← HV2.out]; simp only [Bool.not_false, Bool.and_true, beq_iff_eq]; rw [← HN0.out]; exact hna)
                              have h2 := HS.out.s0.1; omega)
                            have HL2 : Hid ((lstW m.bk).length ≤ 1048576 * 8) := hid (by
                              rw [HA2.out]
                              have := stk_flat (W := a) (rows := m.bk) (by simp only [stkB]; rw [← HV3.out]; simp only [Bool.not_false, Bool.and_true, beq_iff_eq]; rw [← HN1.out]; exact hnb)
                              have h2 := HS.out.s1.1; omega)
                            have HD7 : Hid (d6 = diffB (k : Int) ((lstW m.fr ++ lstW m.bk) ++ m.dr)) := hid (by rw [HD6.out, HA1.out, HA2.out, List.flatten_append])
                            clear HA1 HA2 HV2 HV3 HD6
                            generalize lstW m.fr = la1 at *
                            generalize lstW m.bk = lb1 at *
                            obtain ⟨L, hL⟩ : ∃ L, L = (la1 ++ lb1) ++ m.dr := ⟨_, rfl⟩
                            rw [← hL] at HD7
                            obtain ⟨lc, hlc⟩ : ∃ l, l = L.length := ⟨_, rfl⟩
                            have HLl := hid hL
                            have HLc := hid hlc
                            have hlcb : lc ≤ 1099511627776 := by rw [hlc, hL, List.length_append, List.length_append]; have := HL1.out; have := HL2.out; have := HS.out.s4; omega
                            clear hL hlc
                            have y6 := HXc.out.c6
                            go_cut [10] from 12 to 194 (fun s10 wx => ∃ ac cc, s10 = .slice ac lc cc ∧ Own wx wr.heap.size wx.heap.size (.slice ac lc cc) L ∧ Below w.heap.size w wx)
                            case first =>
                              clear A0 A1 HO0 HO1 HO4 HN0 HN1 HN3 HN4 HB1 g3 g4 g5 hwr3 hwn y4 hna hnb HQ5 HD7 hn24
                              go_region_law (first
                                | (refine step_appendAll rfl _ _ rfl wr.heap.size wa.heap.size (.slice aa la ca) la1 (by exact HOa3.out) rfl (.slice ab lb cb) lb1 wb.heap.size (by exact HOb3.out.ints) (nilok_own HOb3.out) rfl (by show wr.heap.size ≤ wc.heap.size; omega) (by have := HL1.out; have := HL2.out; omega) ?_
                                   intro v5 w5 o5 c5
                                   obtain ⟨av, cv, hv5⟩ := br.own_val o5
                                   obtain ⟨l5, hl5⟩ : ∃ l, l = (la1 ++ lb1).length := ⟨_, rfl⟩
                                   rw [← hl5] at hv5
                                   subst hv5
                                   have HO5 := hid o5
                                   have hs5 : wc.heap.size ≤ w5.heap.size := c5.size
                                   have hb5 : Below w.heap.size wc w5 := ⟨c5.os, c5.tape, c5.output, c5.size, fun j hj => c5.block j (by show j < wc.heap.size; omega) (by omega)⟩
                                   have HB5 := hid (HBc.out.trans hb5)
                                   have y6 := (hb5.cell (p := ⟨pb, 6, none⟩) hbp).trans y6
                                   have HD5 := hid (HDr3.out.chg (show Chg wr.heap.size wa.heap.size wc w5 from ⟨c5.os, c5.tape, c5.output, c5.size, c5.block⟩) (.inl (by omega)))
                                   clear o5 c5 hb5 hl5)
                                | (refine step_appendAll rfl _ _ rfl wr.heap.size w5.heap.size (.slice av l5 cv) (la1 ++ lb1) (by exact HO5.out) rfl (.slice a4 n4 k4) m.dr wc.heap.size (by exact HD5.out.ints.mono (by omega)) (nilok_own HD5.out) rfl (by show wr.heap.size ≤ w5.heap.size; omega) (by rw [List.length_append]; have := HL1.out; have := HL2.out; have := HS.out.s4; omega) ?_
                                   intro v6 w6 o6 c6
                                   obtain ⟨av6, cv6, hv6⟩ := br.own_val o6
                                   have hv6l : v6 = .slice av6 lc cv6 := by rw [hv6, HLc.out, HLl.out]
                                   rw [hv6l] at o6
                                   have HO6 : Hid (Own w6 wr.heap.size w6.heap.size (.slice av6 lc cv6) L) := hid (by rw [HLl.out]; exact o6)
                                   have HB6 := hid (HB5.out.trans (show Below w.heap.size w5 w6 from ⟨c6.os, c6.tape, c6.output, c6.size, fun j hj => c6.block j (by show j < w5.heap.size; omega) (by omega)⟩))
                                   subst hv6l
                                   clear o6 c6 hv6))
                              all_goals (first | (go_wp2; go_meet; exact ⟨av6, cv6, rfl, HO6.out, HB6.out⟩) | (go_simp; go_meet; exact ⟨av6, cv6, rfl, HO6.out, HB6.out⟩) | (simp only [Act.put]; go_meet; exact ⟨av6, cv6, rfl, HO6.out, HB6.out⟩) | (trace_state; sorry))
                            case rest =>
                              obtain ⟨ac, cc, rfl, hoL, hbL⟩ := hcut
                              have HOL := hid hoL
                              have HBL := hid hbL
                              have HBad1 : Hid (∀ j, j < lc → inB 0 ((k : Int) - 1) (L.getD j 0) = false → d6 = false) := hid (fun j h1 h2 => by rw [HD7.out]; exact diff_bad1 (by rw [← HLc.out]; exact h1) h2)
                              have HBad2 : Hid (∀ j, j < lc → L.getD j 0 ∈ L.take j → d6 = false) := hid (fun j h1 h2 => by rw [HD7.out]; exact diff_bad2 (by rw [← HLc.out]; exact h1) h2)
                              have HGood : Hid (PreD (k : Int) L lc → d6 = true) := hid (fun h => by rw [HD7.out]; exact diff_good (by rw [← HLc.out]; exact h))
                              have HStep : Hid (∀ j, PreD (k : Int) L j → j < lc → inB 0 ((k : Int) - 1) (L.getD j 0) = true → L.getD j 0 ∉ L.take j → PreD (k : Int) L (j + 1)) := hid (fun j h1 h2 h3 h4 => preD_step h1 (by rw [← HLc.out]; exact h2) h3 h4)
                              clear hoL hbL y6 HOa3 HOb3 HDr3 HL1 HL2 HD7 HLl HXc HBc hlt hk hn24 A0 A1 HO0 HO1 HO4 HN0 HN1 HN4 HB1 g3 hwr3 y4 hna hnb
                              go_wp2
                              go_loopw [11] (fun i wr2 => ∃ j : Nat, j ≤ lc ∧ i = .int .i64 j ∧ PreD (k : Int) L j ∧ (∃ h, Own wr2 wr.heap.size h (.slice ac lc cc) L) ∧ Below w.heap.size w wr2) (fun i _ => lc - (intOf i).toNat)
                              case atStart => exact ⟨0, Nat.zero_le _, rfl, preD_zero _ _, ⟨_, HOL.out⟩, HBL.out⟩
                              case round =>
                                obtain ⟨j, hj, rfl, hpre, ⟨hh, hoj⟩, hbj⟩ := hrel
                                have HPr := hid hpre
                                have HO := hid hoj
                                have HB := hid hbj
                                have y5 := (HX.out.below hbj).c5
                                clear hpre hoj hbj HOL HBL
                                by_cases hjl : j < lc
                                · have hcap := (vr.capok_own HO.out _ _ _ rfl).1
                                  rcases HO.out.ints with ⟨h0, _⟩ | ⟨hp, b, off, cap, hv, hb, hcs⟩
                                  · have := HLc.out; rw [h0] at this; simp at this; omega
                                  · simp only [Value.slice.injEq] at hv
                                    obtain ⟨rfl, hlen, rfl⟩ := hv
                                    clear hlen
                                    have HCs := hid hcs
                                    rw [← HLc.out] at HCs
                                    have hx := HCs.out j hjl
                                    have H1 := hid (HBad1.out j hjl)
                                    have H2 := hid (HBad2.out j hjl)
                                    have H3 := hid (HStep.out j HPr.out hjl)
                                    clear hcs hp
                                    obtain ⟨t, ht⟩ : ∃ t, inB 0 ((k : Int) - 1) (L.getD j 0) = t := ⟨_, rfl⟩
                                    have HI := hid (fun W => vr.inQ (L.getD j 0) 0 ((k : Int) - 1) t ht W)
                                    cases t with
                                    | false =>
                                      have HF : Hid (q = false) := hid (by rw [HQ5.out, H1.out ht])
                                      clear ht
                                      generalize L.getD j 0 = x at *
                                      go_wp2
                                      go_quiet ((go_at_call 62; exact Calls.quiet_of_same (HI.out _)))
                                      go_wp2
                                      go_ret
                                      exact ⟨by rw [HF.out]; rfl, bdrewN HB.out _⟩
                                    | true =>
                                      have HFr := hid (fun W (hW : ∀ i, i < lc → W.cell? ⟨b, off + i, none⟩ = some (.int .i64 (L.getD i 0))) => vr.ints_front (w := W) (B := hh) (off := off) hb hW HLc.out j cc hj)
                                      have hlk : (L.take j).length ≤ 1099511627776 := by rw [List.length_take, ← HLc.out]; omega
                                      have H3b := hid (H3.out ht)
                                      clear ht
                                      obtain ⟨u, hu⟩ : ∃ u, vr.hasB (L.take j) (L.getD j 0) = u := ⟨_, rfl⟩
                                      have HH := hid (fun (W : World) (hW : Ints W hh (.slice (some ⟨b, off, none⟩) j cc) (L.take j)) => vr.hasQ (L.take j) (L.getD j 0) u hu _ _ W hW hlk)
                                      have HF0 := hid (HFr.out _ HCs.out)
                                      cases u with
                                      | true =>
                                        have HF : Hid (q = false) := hid (by rw [HQ5.out, H2.out ((vr.has_mem _ _).1 hu)])
                                        clear hu
                                        generalize L.getD j 0 = x at *
                                        go_wp2
                                        go_quiet ((first | (go_at_call 62; exact Calls.quiet_of_same (HI.out _)) | (go_at_call 43; exact Calls.quiet_of_same (HH.out _ (by exact HF0.out)))))
                                        go_wp2
                                        go_ret
                                        exact ⟨by rw [HF.out]; rfl, bdrewN HB.out _⟩
                                      | false =>
                                        have HPn := hid (H3b.out ((vr.has_not _ _).1 hu))
                                        clear hu
                                        generalize L.getD j 0 = x at *
                                        go_wp2
                                        go_quiet ((first | (go_at_call 62; exact Calls.quiet_of_same (HI.out _)) | (go_at_call 43; exact Calls.quiet_of_same (HH.out _ (by exact HF0.out)))))
                                        go_wp2
                                        go_roundw
                                        case rel => exact ⟨j + 1, by omega, by go_num, HPn.out, ⟨hh, HO.out.drewN _⟩, bdrewN HB.out _⟩
                                        case measure => simp [intOf]; omega
                                · obtain rfl : j = lc := by omega
                                  have HF : Hid (q = true) := hid (by rw [HQ5.out, HGood.out HPr.out])
                                  go_wp2
                                  go_ret
                                  exact ⟨by rw [HF.out]; rfl, HB.out⟩
end Go.Proofs.Ytlhpipcmebmpdab.mc
