/-
  WalesOf of the model.
-/
import Derived.Test.YtlhpipcmebmpdabWs0
namespace Go.Proofs.Ytlhpipcmebmpdab.mc
open Go.RowKit Go.Sort Go.Maps Go.Proofs.Ytlhpipcmebmpdab.sl Go.Proofs.Ytlhpipcmebmpdab.br Go.Proofs.Ytlhpipcmebmpdab.fn Go.Proofs.Ytlhpipcmebmpdab.ss Go.Proofs.Ytlhpipcmebmpdab.fb Go.Proofs.Ytlhpipcmebmpdab.wk
set_option linter.unusedVariables false
set_option linter.unusedSimpArgs false

set_option maxRecDepth 100000 in
set_option maxHeartbeats 4000000 in
theorem specWs (a p : Int) (m : Mch) (f0 f1 f2 f3 f4 : Value) (B : Nat) (w : World) (ha : MInC w B f0 f1 f2 f3 f4 m) (hB : B ≤ w.heap.size) (hq : Small m) :
    Calls Try.prog 13 #[.agg #[.int .i64 a, .int .i64 p, f0, f1, f2, f3, f4]] w fun e w' => ∃ v', e = .returned (.tuple #[v', .int .i64 (wsC a p m)]) ∧ ss.ROwn w' w.heap.size w'.heap.size v' (wsW a p m) ∧ Below w.heap.size w w' := by
  have HV := hid (fun W (h : Below w.heap.size w W) (hx : Bx w W w.heap.size a p f0 f1 f2 f3 f4) => specOkC a p m f0 f1 f2 f3 f4 B w.heap.size w W (ha.below h) hq hx)
  have HInf := hid (fun (X : World) (h : Below w.heap.size w X) => (ha.below h).rd.h3)
  have HLs := hid (fun h : okM a p m = true => ls_len (okM_parts h))
  have HPar := hid (fun h : okM a p m = true => (fun k hk => (par_ok (okM_parts h) k hk).2.2 : ParB m.ls))
  obtain ⟨u, hu⟩ : ∃ u, u = okM a p m := ⟨_, rfl⟩
  obtain ⟨xs, hxs⟩ : ∃ xs, xs = wsW a p m := ⟨_, rfl⟩
  obtain ⟨d, hd⟩ : ∃ d, d = wsC a p m := ⟨_, rfl⟩
  rw [← hxs, ← hd]
  unfold wsW at hxs
  unfold wsC at hd
  rw [← hu] at hxs hd
  rw [← hu] at HV HLs HPar
  have HX1 := hid hxs
  have HD1 := hid hd
  obtain ⟨⟨a0, k0, rfl⟩, ⟨a1, k1, rfl⟩, ⟨a2, k2, rfl⟩, ⟨a3, k3, rfl⟩, ⟨a4, k4, rfl⟩⟩ := ha.vals
  clear ha hq hxs hd hu
  generalize m.fr.length = n0 at *
  generalize m.bk.length = n1 at *
  generalize m.cs.length = n2 at *
  obtain ⟨n3, hn3⟩ : ∃ n, n = m.ls.length := ⟨_, rfl⟩
  have HN3 := hid hn3
  rw [← hn3] at HV HInf HLs ⊢
  generalize m.dr.length = n4 at *
  have HX := hid (bx_new w 34 a p (.slice a0 n0 k0) (.slice a1 n1 k1) (.slice a2 n2 k2) (.slice a3 n3 k3) (.slice a4 n4 k4))
  clear hn3
  go_enter Try.func13, Try.ntmps13
  go_wp2_with fail
  generalize (w.alloc (.cells #[.int .i64 a, .int .i64 p, .slice a0 n0 k0, .slice a1 n1 k1, .slice a2 n2 k2, .slice a3 n3 k3, .slice a4 n4 k4] 34)) = W1 at *
  refine (HV.out W1 HX.out.b0 HX.out).mono ?_
  rintro e W2 ⟨rfl, b2⟩
  have HX2 := hid (HX.out.below b2)
  clear b2 HX HV
  cases u with
  | false =>
    obtain rfl : xs = [] := HX1.out
    obtain rfl : d = 1 := HD1.out
    go_wp2
    go_ret2
    exact ⟨_, rfl, ⟨Nat.le_refl _, .inl ⟨rfl, _, _, rfl⟩⟩, HX2.out.b0⟩
  | true =>
    obtain rfl : d = 0 := HD1.out
    obtain rfl : xs = wsR m.ls (ctL m.ls m.ls.length) m.ls.length := HX1.out
    have hl3 := HLs.out rfl
    have HPr := hid (HPar.out rfl)
    have hzw : w.heap.size < W2.heap.size := HX2.out.lt
    have HO0 := hid (Own.built W2 #[] rfl)
    have HB0 : Hid (Below W2.heap.size W2 (W2.alloc (.cells #[] 2))) := hid ((Below.refl _ _).alloc (Nat.le_refl _) _)
    clear HX1 HD1 HLs HPar
    go_wp2
    go_loopw [4, 5] (fun v i wr => ∃ (k : Nat) (u : Value), k ≤ n3 ∧ v = u ∧ i = .int .i64 k ∧ sl.Own wr W2.heap.size wr.heap.size u (ctL m.ls k) ∧ Below W2.heap.size W2 wr) (fun _ i _ => n3 - (intOf i).toNat)
    case atStart => exact ⟨0, _, Nat.zero_le _, rfl, rfl, HO0.out, HB0.out⟩
    case round =>
      obtain ⟨k, u, hk, rfl, rfl, hown, hbel⟩ := hrel
      have HO := hid hown
      have HBr := hid hbel
      have hzr := hbel.size
      clear hown hbel HO0 HB0
      have HXr := hid (HX2.out.below HBr.out)
      have y5 := HXr.out.c5
      by_cases hlt : k < n3
      · have hI := HInf.out wr HXr.out.b0
        have hkl : k < m.ls.length := by rw [← HN3.out]; exact hlt
        have HY := hid (fun h => ct_nil m.ls k h)
        have HNo := hid (fun h => ct_cons m.ls k h)
        have HLn := hid (ct_len m.ls k)
        have HPk := hid (fun h => HPr.out k hkl 0 h)
        rcases hI with ⟨hnil, _⟩ | ⟨hp, g, off, cap, F, hv, hg, hc⟩
        · exfalso
          rw [hnil] at hkl
          simp at hkl
        · rw [← HN3.out] at hv
          simp only [Value.slice.injEq, true_and] at hv
          obtain ⟨rfl, rfl⟩ := hv
          obtain ⟨hAt, hPs⟩ := hc k hkl
          obtain ⟨ao5, cap5, hfv⟩ := ints_val hPs
          rw [hfv] at hAt hPs
          have z5 := hAt.c5
          have hcase : ((m.ls.getD k nf.iz).ps = [] ∧ (m.ls.getD k nf.iz).ps.length = 0) ∨ (0 < (m.ls.getD k nf.iz).ps.length ∧ ∃ b6 off6 : Nat, ao5 = some ⟨b6, off6, none⟩ ∧ wr.cell? ⟨b6, off6, none⟩ = some (.int .i64 ((m.ls.getD k nf.iz).ps.getD 0 0))) := by
            rcases hPs with ⟨h1, _⟩ | ⟨h1, b6, off6, cap6, hv, hb6, hc6⟩
            · exact .inl ⟨h1, by rw [h1]; rfl⟩
            · simp only [Value.slice.injEq, true_and] at hv
              exact .inr ⟨h1, b6, off6, hv.1, by have := hc6 0 h1; simpa using this⟩
          have HCs := hid hcase
          clear hAt hfv hPs hcase hc hp
          generalize (m.ls.getD k nf.iz).ps.getD 0 0 = q at *
          obtain ⟨l5, hl5⟩ : ∃ l, l = (m.ls.getD k nf.iz).ps.length := ⟨_, rfl⟩
          rw [← hl5] at z5 HCs HPk HNo
          clear hl5
          rcases HCs.out with ⟨h0, h5⟩ | ⟨h5, b6, off6, rfl, hc6⟩
          · subst h5
            have HE := hid (HY.out h0)
            clear HY HNo HCs HPk h0
            go_wp2
            go_roundw
            case rel => exact ⟨k + 1, _, by omega, rfl, by go_num, by rw [HE.out]; exact HO.out, HBr.out⟩
            case measure => simp [intOf]; omega
          · have HE := hid (HNo.out h5)
            have hq := HPk.out h5
            have h5I : (0 : Int) < (l5 : Int) := by omega
            clear HY HNo HCs HPk
            go_wp2_with (at_builtin; refine wp_append rfl _ _ rfl W2.heap.size wr.heap.size _ (ctL m.ls k) q HO.out rfl rfl hzr (by have := HLn.out; omega) ?_; intro v9 w1 hown1 hchg1 hsz1; have HO1 := hid hown1; have HB1 := hid (HBr.out.trans (hchg1.below (Nat.le_refl _) hzr)); clear hown1 hchg1)
            go_roundw
            case rel => exact ⟨k + 1, _, by omega, rfl, by go_num, by rw [HE.out]; exact HO1.out, HB1.out⟩
            case measure => simp [intOf]; omega
      · obtain rfl : k = n3 := by omega
        obtain ⟨W3, rfl⟩ : ∃ W3, W3 = wr := ⟨_, rfl⟩
        obtain ⟨c, hc⟩ : ∃ c, c = ctL m.ls m.ls.length := ⟨_, rfl⟩
        have HCx := hid hc
        have HOc : Hid (sl.Own W3 W2.heap.size W3.heap.size u4 c) := hid (by have := HO.out; rw [HN3.out] at this; rw [hc]; exact this)
        have hcl : c.length ≤ 300 := by have := ct_len m.ls m.ls.length; rw [hc]; have := HN3.out; omega
        have HSE := hid (SR.made W3 W3.heap.size (Nat.le_refl _))
        have HBE : Hid (Below W3.heap.size W3 (W3.alloc (.cells #[] 25))) := hid ((Below.refl _ _).alloc (Nat.le_refl _) _)
        clear HO hc
        go_wp2
        go_loopw [6, 7] (fun v i wr => ∃ (j : Nat) (z : Value) (vals : List Value), j ≤ k ∧ v = z ∧ i = .int .i64 j ∧ SR wr W3.heap.size z vals (wsR m.ls c j) ∧ Below W3.heap.size W3 wr) (fun _ i _ => k - (intOf i).toNat)
        case atStart => exact ⟨0, _, _, Nat.zero_le _, rfl, rfl, HSE.out, HBE.out⟩
        case round =>
          obtain ⟨j, z, vals, hj, rfl, rfl, hsr, hbel⟩ := hrel
          have HSr := hid hsr
          have HBj := hid hbel
          have hzj := hbel.size
          have HXj := hid (HXr.out.below HBj.out)
          have HLw := hid (wsR_len m.ls c j)
          clear y5
          have y5 := HXj.out.c5
          clear hsr hbel HSE HBE
          by_cases hlj : j < k
          · obtain ⟨t, ht⟩ : ∃ t, t = c.contains (j : Int) := ⟨_, rfl⟩
            have HHas := hid (vr.hasQ c (j : Int) t ht.symm u4 W3.heap.size wr (HOc.out.ints.chg (Chg.ofBelow (lo := 0) HBj.out) (.inr (Nat.zero_le _))) (by omega))
            have HWl := hid (specWale w.heap.size j m.ls (.slice a3 k k3) B wr HXj.out.c5 (HInf.out wr HXj.out.b0) (by have := HXj.out.b0.size; omega) (by rw [← HN3.out]; exact hl3) (by rw [← HN3.out]; exact hlj) HPr.out)
            have HY := hid (wsR_yes m.ls c j)
            have HNo := hid (wsR_no m.ls c j)
            rw [← ht] at HY HNo
            clear ht
            cases t with
            | true =>
              have HE := hid (HY.out rfl)
              clear HY HNo HWl
              go_wp2_with (go_at_call 43; refine HHas.out.mono ?_; rintro e w9 ⟨rfl, hw9⟩; subst w9)
              go_roundw
              case rel => exact ⟨j + 1, _, _, by omega, rfl, by go_num, by rw [HE.out]; exact HSr.out, HBj.out⟩
              case measure => simp [intOf]; omega
            | false =>
              have HE := hid (HNo.out rfl)
              clear HY HNo
              go_wp2_with (first | (go_at_call 43; refine HHas.out.mono ?_; rintro e w9 ⟨rfl, hw9⟩; subst w9) | (go_at_call 44; refine HWl.out.mono ?_; rintro e w6 ⟨v6, rfl, o6, b6⟩; have HO6 := hid o6; have HB6 := hid b6; have hz6 := b6.size; obtain ⟨ao6, cap6, hv6⟩ := br.own_val o6; generalize (waleL m.ls j).length = l6 at hv6; subst hv6; clear o6 b6) | (at_builtin; refine wp_appR rfl _ _ rfl W3.heap.size _ _ vals (wsR m.ls c j) (waleL m.ls j) HSr.out HB6.out HO6.out rfl rfl rfl (by omega) (by have := HLw.out; omega) ?_; intro v7 w7 hs7 hb7 hg7 h57; have HS7 := hid hs7; have HB7 := hid hb7; clear hs7 hb7 hg7 h57))
              go_roundw
              case rel => exact ⟨j + 1, _, _, by omega, rfl, by go_num, by rw [HE.out]; exact HS7.out, (HBj.out.trans (HB6.out.mono hzj)).trans HB7.out⟩
              case measure => simp [intOf]; omega
          · obtain rfl : j = k := by omega
            go_wp2
            go_ret2
            have hR := (HSr.out.low (show w.heap.size ≤ W3.heap.size by omega)).rown
            rw [HN3.out, HCx.out] at hR
            exact ⟨_, rfl, hR, HXj.out.b0⟩
end Go.Proofs.Ytlhpipcmebmpdab.mc
