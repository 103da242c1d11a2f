/-
  In one file: Ka6, Ka7, Ka8.
-/
import Derived.Test.YtbbnheiibkcgiabDoorCx0
import Derived.Test.YtbbnheiibkcgiabDoorKn6
import Derived.Test.YtbbnheiibkcgiabDoorRw1
import Derived.Test.YtbbnheiibkcgiabDoorKam
import Derived.Test.YtbbnheiibkcgiabDoorVr5
import Derived.Test.YtbbnheiibkcgiabDoorBv
import Derived.Deep.RegionWith
import Derived.Test.YtbbnheiibkcgiabDoorKn7
/- l15Thin of the model: the loops on all columns while a row is made. -/
namespace Go.Proofs.YtbbnheiibkcgiabDoor.kn
open Go.RowKit Go.Proofs.YtbbnheiibkcgiabDoor.sl Go.Proofs.YtbbnheiibkcgiabDoor.br Go.Proofs.YtbbnheiibkcgiabDoor.bw Go.Proofs.YtbbnheiibkcgiabDoor.st Go.Proofs.YtbbnheiibkcgiabDoor.cx
set_option linter.unusedVariables false

theorem aft_get {ss ks : List Int} (i t : Nat) (ht : t < (mdn ss ks i).length) : ∀ n, i < n → (aftTo ss ks n).getD ((aftTo ss ks i).length + t) 0 = (mdn ss ks i).getD t 0 ∧ (aftTo ss ks i).length + t < (aftTo ss ks n).length
  | 0, h => by omega
  | n + 1, h => by
    rw [aftTo_succ]
    by_cases e : i = n
    · subst e
      refine ⟨?_, by rw [List.length_append]; omega⟩
      simp [List.getD, List.getElem?_append_right]
    · obtain ⟨h1, h2⟩ := aft_get i t ht n (by omega)
      refine ⟨?_, by rw [List.length_append]; omega⟩
      rw [← h1]
      simp only [List.getD]
      rw [List.getElem?_append_left h2]
def mo (ss ks : List Int) (i : Nat) : Nat := (aftTo ss ks i).length
theorem mo_succ (ss ks : List Int) (i : Nat) : mo ss ks (i + 1) = mo ss ks i + (mdn ss ks i).length := by rw [mo, aftTo_succ, List.length_append]; rfl
theorem lp_succ (d : Int) (ss ks : List Int) (q : Nat) : lpTo d ss ks (q + 1) = lpTo d ss ks q - sumL (tkn ss ks (ix d ks.length q)) + sumL (mdn ss ks (ix d ks.length q)) := by
  rw [lpTo, cx.dl]; omega
theorem sumTo8 {xs : List Int} (hn : xs.length ≤ 8) (hb : ∀ q, q < xs.length → 1 ≤ xs.getD q 0 ∧ xs.getD q 0 ≤ 4) (t : Nat) (h : t ≤ xs.length) : -32 ≤ sumTo xs t ∧ sumTo xs t ≤ 32 := by
  have := sumTo_le xs 4 (fun j hj => by have := hb j hj; omega) t h
  omega

set_option maxRecDepth 100000 in
set_option maxHeartbeats 8000000 in
theorem specThin (d c : Int) (ss ks : List Int) (v u f : Value) (p o B C E : Nat) (w : World) (ha : Ints w B v ss) (hb : Ints w C u (aftTo ss ks ks.length)) (hr : ro.At w p o ⟨d, c, ks⟩ f) (hf : Ints w E f ks) (hg : cx.Good ss ks) (hd : d = 1 ∨ d = -1) :
    Calls Tryd.prog 46 #[v, u, .pointer (some ⟨p, o, none⟩)] w fun e w' => e = .returned (.bool (lw d ss ks)) ∧ Below w.heap.size w w' := by
  have hk16 := hg.k16
  have hs8 := hg.s8
  have hn8 : (aftTo ss ks ks.length).length ≤ 8 := (stks_parts hg.out).1
  have HG := hid hg
  have HA := hid ha
  have HN := hid hb
  have HF := hid hf
  have HK := hid (fun k (h : k < ks.length) => hg.kn k h)
  have HSs := hid hg.st
  have HOE0 : Hid (off ks ks.length = ss.length) := hid (by have h1 := off_nat hg.kn ks.length (Nat.le_refl _); rw [sF_all, hg.tot] at h1; omega)
  have HS0 : Hid (lpTo d ss ks 0 = sumTo ss ss.length) := hid (by rw [lpTo, sumTo_all])
  have HS1 := hid (fun k (h : k < ss.length) => sumTo_succ ss k h)
  have HSb := hid (fun t (h : t ≤ ss.length) => sumTo8 hs8 hg.st t h)
  have hp := hr.lt
  have r0 := hr.c0
  have r2 := hr.c2
  obtain ⟨a1, c1, hv1⟩ := ints_val ha
  obtain ⟨a2, c2, hv2⟩ := ints_val hb
  obtain ⟨a3, c3, hv3⟩ := ints_val hf
  obtain ⟨n, hnn⟩ : ∃ n, n = ks.length := ⟨_, rfl⟩
  obtain ⟨n1, hnn1⟩ : ∃ n, n = ss.length := ⟨_, rfl⟩
  obtain ⟨n2, hnn2⟩ : ∃ n, n = (aftTo ss ks ks.length).length := ⟨_, rfl⟩
  rw [← hnn1] at hv1 hs8 HS0 HS1 HSb HSs
  rw [← hnn2] at hv2 hn8
  rw [← hnn] at hv3 hk16 HK
  have HNn := hid hnn
  have HN1 := hid hnn1
  have HN2 := hid hnn2
  have HOE : Hid (off ks n = n1) := hid (by rw [HNn.out, HOE0.out, HN1.out])
  have HME : Hid (mo ss ks n = n2) := hid (by rw [HNn.out, HN2.out]; rfl)
  clear HOE0
  clear hnn hnn1 hnn2 ha hb hr hf hg
  subst hv1 hv2 hv3
  rcases hd with rfl | rfl
  · simp only at r0
    go_enter Tryd.func46, Tryd.ntmps46
    go_wp2
    go_loopw [7, 8] (fun l i wr => ∃ k : Nat, k ≤ n1 ∧ i = .int .i64 k ∧ l = .int .i64 (sumTo ss k) ∧ Below w.heap.size w wr) (fun _ i _ => n1 - (intOf i).toNat)
    case atStart => exact ⟨0, Nat.zero_le _, rfl, rfl, Below.refl _ _⟩
    case round =>
      obtain ⟨k, hk, rfl, rfl, hbel⟩ := hrel
      have HB := hid hbel
      clear hbel
      by_cases hlt : k < n1
      · have hs1 := HS1.out k hlt
        have hSb := HSb.out k hk
        have hSs := HSs.out k hlt
        rcases HA.out with ⟨h0, _⟩ | ⟨hp1, b5, o5, cp5, hv5, hb5, hc5⟩
        · exfalso
          have := HN1.out
          rw [h0] at this
          simp at this
          omega
        · rw [← HN1.out] at hv5
          simp only [Value.slice.injEq, true_and] at hv5
          obtain ⟨rfl, rfl⟩ := hv5
          have hcell0 := hc5 k (by rw [← HN1.out]; exact hlt)
          have hcell := (HB.out.cell (p := ⟨b5, o5 + k, none⟩) (World.block_lt_of_cell? w _ hcell0)).trans hcell0
          have HE := hid hs1
          clear hs1 hc5 hp1 hcell0
          generalize sumTo ss k = x at *
          generalize ss.getD k 0 = y at *
          go_wp2
          go_roundw
          case rel => exact ⟨k + 1, by omega, by go_num, by rw [HE.out], HB.out⟩
          case measure => simp [intOf]; omega
      · obtain rfl : k = n1 := by omega
        rw [← HS0.out]
        have s0 := (HB.out.cell (p := ⟨p, o, none⟩) hp).trans r0
        have s2 := (HB.out.cell (p := ⟨p, o + 2, none⟩) hp).trans r2
        have HB1 := HB
        clear HS1 HSs HSb HB
        go_wp2
        go_loopw [7, 10, 11, 12] (fun l a b i wr => ∃ q : Nat, q ≤ n ∧ i = .int .i64 q ∧ l = .int .i64 (lpTo 1 ss ks q) ∧ a = .int .i64 (off ks q : Int) ∧ b = .int .i64 (mo ss ks q : Int) ∧ lowTo 1 ss ks q = true ∧ Below w.heap.size w wr) (fun _ _ _ i _ => n - (intOf i).toNat)
        case atStart => exact ⟨0, Nat.zero_le _, rfl, rfl, rfl, rfl, rfl, HB1.out⟩
        case round =>
          obtain ⟨q, hq, rfl, rfl, rfl, rfl, hlow, hbel⟩ := hrel
          have HB := hid hbel
          have HLow := hid hlow
          clear hbel hlow s0 s2
          have s0 := (HB.out.cell (p := ⟨p, o, none⟩) hp).trans r0
          have s2 := (HB.out.cell (p := ⟨p, o + 2, none⟩) hp).trans r2
          by_cases hlq : q < n
          · have hi : q < n := by omega
            have hik : q < ks.length := by rw [← HNn.out]; exact hi
            rcases HF.out with ⟨h0, _⟩ | ⟨hp1, b7, o7, cp7, hv7, hb7, hc7⟩
            · exfalso
              rw [h0] at hik
              simp at hik
            rw [← HNn.out] at hv7
            simp only [Value.slice.injEq, true_and] at hv7
            obtain ⟨rfl, rfl⟩ := hv7
            have hkc0 := hc7 q hik
            have hkc := (HB.out.cell (p := ⟨b7, o7 + q, none⟩) (World.block_lt_of_cell? w _ hkc0)).trans hkc0
            have hk1 := HK.out q hi
            have htb := tk_bound hk1
            have hmb := md_bound hk1
            obtain ⟨tn, htn⟩ : ∃ tn : Nat, tk (ks.getD q 0) = (tn : Int) := ⟨(tk (ks.getD q 0)).toNat, by omega⟩
            obtain ⟨mn, hmn⟩ : ∃ mn : Nat, md (ks.getD q 0) = (mn : Int) := ⟨(md (ks.getD q 0)).toNat, by omega⟩
            have hmx : (mdn ss ks q).length = mn := by have := mkC_len hk1 (tkn ss ks q); rw [mdn]; omega
            have htl := tkn_len HG.out.kn HG.out.tot q hik
            have htx : (tkn ss ks q).length = tn := by omega
            have hos := off_succ HG.out.kn q hik
            have hms := mo_succ ss ks q
            have hol := off_le HG.out.kn HG.out.tot (q + 1) hik
            rw [htn] at hos
            rw [hmx] at hms
            have HT := hid (specTaken (ks.getD q 0))
            have HM := hid (specMade (ks.getD q 0))
            rw [htn] at HT htb
            rw [hmn] at HM hmb
            have HRt := hid (fun t (h : t < tn) => tkn_at HG.out.kn HG.out.tot q hik t (by rw [htn]; exact h))
            have HRm := hid (fun t (h : t < mn) => aft_get (ss := ss) (ks := ks) q t (by omega) ks.length hik)
            have hx := HG.out.lp 1 q (by rw [← HNn.out]; exact hq)
            have HSt1 := hid (fun t (h : t < tn) => sumTo_succ (tkn ss ks q) t (by omega))
            have HSm1 := hid (fun t (h : t < mn) => sumTo_succ (mdn ss ks q) t (by omega))
            have HSt2 := hid (fun t (h : t ≤ tn) => sumTo8 (HG.out.tlen q hik) (HG.out.tel q hik) t (by omega))
            have HSm2 := hid (fun t (h : t ≤ mn) => sumTo8 (HG.out.mlen q hik) (HG.out.el q hik) t (by omega))
            have HTe := hid (fun t (h : t < tn) => HG.out.tel q hik t (by omega))
            have HMe := hid (fun t (h : t < mn) => HG.out.el q hik t (by omega))
            have hlp := lp_succ 1 ss ks q
            rw [show ix 1 ks.length q = q from by simp [ix], ← sumTo_all, ← sumTo_all, htx, hmx] at hlp
            have HLp := hid hlp
            have HLs := hid (lowTo_succ 1 ss ks q)
            have HBad := hid (fun h => @low_bad 1 ss ks q ks.length h (by rw [← HNn.out]; exact hlq))
            have HRm2 : Hid (∀ t, t < mn → (aftTo ss ks ks.length).getD (mo ss ks q + t) 0 = (mdn ss ks q).getD t 0 ∧ mo ss ks q + t < n2) := hid (fun t h => by rw [HN2.out]; exact HRm.out t h)
            have HRt2 : Hid (∀ t, t < tn → ss.getD (off ks q + t) 0 = (tkn ss ks q).getD t 0 ∧ off ks q + t < k) := hid (fun t h => ⟨(HRt.out t h).symm, by rw [HN1.out]; omega⟩)
            clear HRm HRt hmx htl htx hlp htn hmn hk1 hc7 hp1 hkc0
            have HOs := hid hos
            have HMs := hid hms
            obtain ⟨oa, hoa⟩ : ∃ oa, oa = off ks q := ⟨_, rfl⟩
            obtain ⟨ma, hma⟩ : ∃ ma, ma = mo ss ks q := ⟨_, rfl⟩
            have hoa8 : oa ≤ 8 := by have := HN1.out; omega
            have hma8 : ma ≤ 64 := by rw [hma]; exact Nat.le_trans (aft_small HG.out.toFit q (by omega)) (Nat.le_refl _)
            rw [← hoa] at HOs HRt2 ⊢
            rw [← hma] at HMs HRm2 ⊢
            have HOa := hid hoa
            have HMa := hid hma
            clear hos hms hol hoa hma
            generalize tkn ss ks q = T at *
            generalize mdn ss ks q = M at *
            generalize ks.getD q 0 = kd at *
            generalize lpTo 1 ss ks q = x at *
            go_wp2
            go_loopw [7, 14] (fun l i wr => ∃ t : Nat, t ≤ tn ∧ i = .int .i64 t ∧ l = .int .i64 (x - sumTo T t) ∧ Below w.heap.size w wr) (fun _ i _ => tn - (intOf i).toNat)
            case atStart => exact ⟨0, Nat.zero_le _, rfl, by rw [sumTo_zero]; simp, HB.out⟩
            case round =>
              obtain ⟨t, ht, rfl, rfl, hbel⟩ := hrel
              have HBq := hid hbel
              clear hbel
              have hsb := HSt2.out t ht
              by_cases hlt : t < tn
              · have hrd := HRt2.out t hlt
                have hst := HSt1.out t hlt
                have hel := HTe.out t hlt
                rcases HA.out with ⟨h0, _⟩ | ⟨hp5, b5, o5, cp5, hv5, hb5, hc5⟩
                · exfalso
                  have := HN1.out
                  rw [h0] at this
                  simp at this
                  omega
                rw [← HN1.out] at hv5
                simp only [Value.slice.injEq, true_and] at hv5
                obtain ⟨rfl, rfl⟩ := hv5
                have hcell0 := hc5 (oa + t) (by rw [← HN1.out]; exact hrd.2)
                rw [hrd.1] at hcell0
                have hlb := World.block_lt_of_cell? w _ hcell0
                have hcell := (HBq.out.cell (p := ⟨b5, o5 + (oa + t), none⟩) hlb).trans hcell0
                have hlb2 : b5 < wr.heap.size := Nat.lt_of_lt_of_le hlb HBq.out.size
                have HE := hid hst
                have hrd2 := hrd.2
                clear hst hc5 hp5 hcell0 hrd
                generalize sumTo T t = y at *
                generalize T.getD t 0 = z at *
                have j1 : (0 : Int) ≤ (oa : Int) + (t : Int) := by omega
                have j2 : (oa : Int) + (t : Int) < (k : Int) := by omega
                have j3 : IntKind.i64.wrap ((oa : Int) + (t : Int)) = (oa : Int) + (t : Int) := by rw [IntKind.wrap_i64]; omega
                have j4 : ((oa : Int) + (t : Int)).toNat = oa + t := by omega
                go_wp2_with (go_at_call 62; refine (HT.out _).mono ?_; rintro e w9 ⟨rfl, b9⟩; have hcell9 := (b9.cell (p := ⟨b5, o5 + (oa + t), none⟩) hlb2).trans hcell; have HB9 := hid (HBq.out.trans (b9.mono HBq.out.size)); clear b9 hcell)
                go_roundw
                case rel => exact ⟨t + 1, by omega, by go_num, by rw [HE.out]; congr 1; omega, HB9.out⟩
                case measure => simp [intOf]; omega
              · obtain rfl : t = tn := by omega
                go_wp2_with (go_at_call 62; refine (HT.out _).mono ?_; rintro e w9 ⟨rfl, b9⟩; have HBr := hid (HBq.out.trans (b9.mono HBq.out.size)); clear b9)
                go_loopw [7, 15] (fun l i wr => ∃ r : Nat, r ≤ mn ∧ i = .int .i64 r ∧ l = .int .i64 (x - sumTo T t + sumTo M r) ∧ Below w.heap.size w wr) (fun _ i _ => mn - (intOf i).toNat)
                case atStart => exact ⟨0, Nat.zero_le _, rfl, by rw [sumTo_zero]; simp, HBr.out⟩
                case round =>
                  obtain ⟨r, ht, rfl, rfl, hbel⟩ := hrel
                  have HBs := hid hbel
                  clear hbel
                  have hsb := HSm2.out r ht
                  by_cases hlt : r < mn
                  · have hrd := HRm2.out r hlt
                    have hst := HSm1.out r hlt
                    have hel := HMe.out r hlt
                    rcases HN.out with ⟨h0, _⟩ | ⟨hp5, b5, o5, cp5, hv5, hb5, hc5⟩
                    · exfalso
                      have := HN2.out
                      rw [h0] at this
                      simp at this
                      omega
                    rw [← HN2.out] at hv5
                    simp only [Value.slice.injEq, true_and] at hv5
                    obtain ⟨rfl, rfl⟩ := hv5
                    have hcell0 := hc5 (ma + r) (by rw [← HN2.out]; exact hrd.2)
                    rw [hrd.1] at hcell0
                    have hlb := World.block_lt_of_cell? w _ hcell0
                    have hcell := (HBs.out.cell (p := ⟨b5, o5 + (ma + r), none⟩) hlb).trans hcell0
                    have hlb2 : b5 < wr.heap.size := Nat.lt_of_lt_of_le hlb HBs.out.size
                    have HE := hid hst
                    have hrd2 := hrd.2
                    clear hst hc5 hp5 hcell0 hrd
                    generalize sumTo M r = y at *
                    generalize M.getD r 0 = z at *
                    have j1 : (0 : Int) ≤ (ma : Int) + (r : Int) := by omega
                    have j2 : (ma : Int) + (r : Int) < (n2 : Int) := by omega
                    have j3 : IntKind.i64.wrap ((ma : Int) + (r : Int)) = (ma : Int) + (r : Int) := by rw [IntKind.wrap_i64]; omega
                    have j4 : ((ma : Int) + (r : Int)).toNat = ma + r := by omega
                    go_wp2_with (go_at_call 63; refine (HM.out _).mono ?_; rintro e w9 ⟨rfl, b9⟩; have hcell9 := (b9.cell (p := ⟨b5, o5 + (ma + r), none⟩) hlb2).trans hcell; have HB9 := hid (HBs.out.trans (b9.mono HBs.out.size)); clear b9 hcell)
                    go_roundw
                    case rel => exact ⟨r + 1, by omega, by go_num, by rw [HE.out]; congr 1; omega, HB9.out⟩
                    case measure => simp [intOf]; omega
                  · obtain rfl : r = mn := by omega
                    have hsr := HSm2.out r (Nat.le_refl _)
                    have hst2 := HSt2.out t (Nat.le_refl _)
                    by_cases h12 : 12 < x - sumTo T t + sumTo M r
                    · have HF : Hid (lw 1 ss ks = false) := hid (HBad.out (by rw [HLp.out]; omega))
                      clear HBad HLs
                      generalize sumTo T t = y at *
                      generalize sumTo M r = z at *
                      go_wp2_with (go_at_call 63; refine (HM.out _).mono ?_; rintro e w9 ⟨rfl, b9⟩; have HBt := hid (HBs.out.trans (b9.mono HBs.out.size)); have t0 := (HBt.out.cell (p := ⟨p, o, none⟩) hp).trans r0; clear b9)
                      go_ret
                      exact ⟨by rw [HF.out]; first | done | rfl, HBt.out⟩
                    · have HLw1 : Hid (lowTo 1 ss ks (q + 1) = true) := hid (by rw [HLs.out, HLow.out, HLp.out]; simpa using (by omega : x - sumTo T t + sumTo M r ≤ 12))
                      clear HBad HLs
                      generalize sumTo T t = y at *
                      generalize sumTo M r = z at *
                      go_wp2_with (first | (go_at_call 63; refine (HM.out _).mono ?_; rintro e w9 ⟨rfl, b9⟩; have HBt := hid (HBs.out.trans (b9.mono HBs.out.size)); have t0 := (HBt.out.cell (p := ⟨p, o, none⟩) hp).trans r0; clear b9) | (go_at_call 62; refine (HT.out _).mono ?_; rintro e w10 ⟨rfl, b10⟩; have HBu := hid (HBt.out.trans (b10.mono HBt.out.size)); clear b10) | (go_at_call 63; refine (HM.out _).mono ?_; rintro e w11 ⟨rfl, b11⟩; have HBv := hid (HBu.out.trans (b11.mono HBu.out.size)); clear b11))
                      go_roundw
                      case rel => exact ⟨q + 1, by omega, by go_num, by rw [HLp.out], by congr 1; have := HOs.out; omega, by congr 1; have := HMs.out; omega, HLw1.out, HBv.out⟩
                      case measure => simp [intOf]; omega
          · obtain rfl : q = n := by omega
            have HFin : Hid (lw 1 ss ks = true) := hid (by rw [lw, ← HNn.out]; exact HLow.out)
            go_wp2
            go_ret
            exact ⟨by rw [HFin.out]; first | done | rfl, HB.out⟩
  · simp only at r0
    go_enter Tryd.func46, Tryd.ntmps46
    go_wp2
    go_loopw [7, 8] (fun l i wr => ∃ k : Nat, k ≤ n1 ∧ i = .int .i64 k ∧ l = .int .i64 (sumTo ss k) ∧ Below w.heap.size w wr) (fun _ i _ => n1 - (intOf i).toNat)
    case atStart => exact ⟨0, Nat.zero_le _, rfl, rfl, Below.refl _ _⟩
    case round =>
      obtain ⟨k, hk, rfl, rfl, hbel⟩ := hrel
      have HB := hid hbel
      clear hbel
      by_cases hlt : k < n1
      · have hs1 := HS1.out k hlt
        have hSb := HSb.out k hk
        have hSs := HSs.out k hlt
        rcases HA.out with ⟨h0, _⟩ | ⟨hp1, b5, o5, cp5, hv5, hb5, hc5⟩
        · exfalso
          have := HN1.out
          rw [h0] at this
          simp at this
          omega
        · rw [← HN1.out] at hv5
          simp only [Value.slice.injEq, true_and] at hv5
          obtain ⟨rfl, rfl⟩ := hv5
          have hcell0 := hc5 k (by rw [← HN1.out]; exact hlt)
          have hcell := (HB.out.cell (p := ⟨b5, o5 + k, none⟩) (World.block_lt_of_cell? w _ hcell0)).trans hcell0
          have HE := hid hs1
          clear hs1 hc5 hp1 hcell0
          generalize sumTo ss k = x at *
          generalize ss.getD k 0 = y at *
          go_wp2
          go_roundw
          case rel => exact ⟨k + 1, by omega, by go_num, by rw [HE.out], HB.out⟩
          case measure => simp [intOf]; omega
      · obtain rfl : k = n1 := by omega
        rw [← HS0.out]
        have s0 := (HB.out.cell (p := ⟨p, o, none⟩) hp).trans r0
        have s2 := (HB.out.cell (p := ⟨p, o + 2, none⟩) hp).trans r2
        have HB1 := HB
        clear HS1 HSs HSb HB
        go_wp2
        go_loopw [7, 10, 11, 12] (fun l a b i wr => ∃ q : Nat, q ≤ n ∧ i = .int .i64 q ∧ l = .int .i64 (lpTo (-1) ss ks q) ∧ a = .int .i64 (off ks (n - q) : Int) ∧ b = .int .i64 (mo ss ks (n - q) : Int) ∧ lowTo (-1) ss ks q = true ∧ Below w.heap.size w wr) (fun _ _ _ i _ => n - (intOf i).toNat)
        case atStart => exact ⟨0, Nat.zero_le _, rfl, rfl, by rw [Nat.sub_zero, HOE.out], by rw [Nat.sub_zero, HME.out], rfl, HB1.out⟩
        case round =>
          obtain ⟨q, hq, rfl, rfl, rfl, rfl, hlow, hbel⟩ := hrel
          have HB := hid hbel
          have HLow := hid hlow
          clear hbel hlow s0 s2
          have s0 := (HB.out.cell (p := ⟨p, o, none⟩) hp).trans r0
          have s2 := (HB.out.cell (p := ⟨p, o + 2, none⟩) hp).trans r2
          by_cases hlq : q < n
          · have hi : (n - 1 - q) < n := by omega
            have hik : (n - 1 - q) < ks.length := by rw [← HNn.out]; exact hi
            rcases HF.out with ⟨h0, _⟩ | ⟨hp1, b7, o7, cp7, hv7, hb7, hc7⟩
            · exfalso
              rw [h0] at hik
              simp at hik
            rw [← HNn.out] at hv7
            simp only [Value.slice.injEq, true_and] at hv7
            obtain ⟨rfl, rfl⟩ := hv7
            have hkc0 := hc7 (n - 1 - q) hik
            have hkc := (HB.out.cell (p := ⟨b7, o7 + (n - 1 - q), none⟩) (World.block_lt_of_cell? w _ hkc0)).trans hkc0
            have hkq0 := hc7 q (by rw [← HNn.out]; exact hlq)
            have hkq := (HB.out.cell (p := ⟨b7, o7 + q, none⟩) (World.block_lt_of_cell? w _ hkq0)).trans hkq0
            clear hkq0
            have hk1 := HK.out (n - 1 - q) hi
            have htb := tk_bound hk1
            have hmb := md_bound hk1
            obtain ⟨tn, htn⟩ : ∃ tn : Nat, tk (ks.getD (n - 1 - q) 0) = (tn : Int) := ⟨(tk (ks.getD (n - 1 - q) 0)).toNat, by omega⟩
            obtain ⟨mn, hmn⟩ : ∃ mn : Nat, md (ks.getD (n - 1 - q) 0) = (mn : Int) := ⟨(md (ks.getD (n - 1 - q) 0)).toNat, by omega⟩
            have hmx : (mdn ss ks (n - 1 - q)).length = mn := by have := mkC_len hk1 (tkn ss ks (n - 1 - q)); rw [mdn]; omega
            have htl := tkn_len HG.out.kn HG.out.tot (n - 1 - q) hik
            have htx : (tkn ss ks (n - 1 - q)).length = tn := by omega
            have hos := off_succ HG.out.kn (n - 1 - q) hik
            have hms := mo_succ ss ks (n - 1 - q)
            have hol := off_le HG.out.kn HG.out.tot ((n - 1 - q) + 1) hik
            rw [htn] at hos
            rw [hmx] at hms
            have HT := hid (specTaken (ks.getD (n - 1 - q) 0))
            have HM := hid (specMade (ks.getD (n - 1 - q) 0))
            rw [htn] at HT htb
            rw [hmn] at HM hmb
            have HRt := hid (fun t (h : t < tn) => tkn_at HG.out.kn HG.out.tot (n - 1 - q) hik t (by rw [htn]; exact h))
            have HRm := hid (fun t (h : t < mn) => aft_get (ss := ss) (ks := ks) (n - 1 - q) t (by omega) ks.length hik)
            have hx := HG.out.lp (-1) q (by rw [← HNn.out]; exact hq)
            have HSt1 := hid (fun t (h : t < tn) => sumTo_succ (tkn ss ks (n - 1 - q)) t (by omega))
            have HSm1 := hid (fun t (h : t < mn) => sumTo_succ (mdn ss ks (n - 1 - q)) t (by omega))
            have HSt2 := hid (fun t (h : t ≤ tn) => sumTo8 (HG.out.tlen (n - 1 - q) hik) (HG.out.tel (n - 1 - q) hik) t (by omega))
            have HSm2 := hid (fun t (h : t ≤ mn) => sumTo8 (HG.out.mlen (n - 1 - q) hik) (HG.out.el (n - 1 - q) hik) t (by omega))
            have HTe := hid (fun t (h : t < tn) => HG.out.tel (n - 1 - q) hik t (by omega))
            have HMe := hid (fun t (h : t < mn) => HG.out.el (n - 1 - q) hik t (by omega))
            have hlp := lp_succ (-1) ss ks q
            rw [show ix (-1) ks.length q = (n - 1 - q) from by rw [← HNn.out]; simp [ix], ← sumTo_all, ← sumTo_all, htx, hmx] at hlp
            have HLp := hid hlp
            have HLs := hid (lowTo_succ (-1) ss ks q)
            have HBad := hid (fun h => @low_bad (-1) ss ks q ks.length h (by rw [← HNn.out]; exact hlq))
            have HRm2 : Hid (∀ t, t < mn → (aftTo ss ks ks.length).getD (mo ss ks (n - 1 - q) + t) 0 = (mdn ss ks (n - 1 - q)).getD t 0 ∧ mo ss ks (n - 1 - q) + t < n2) := hid (fun t h => by rw [HN2.out]; exact HRm.out t h)
            have HRt2 : Hid (∀ t, t < tn → ss.getD (off ks (n - 1 - q) + t) 0 = (tkn ss ks (n - 1 - q)).getD t 0 ∧ off ks (n - 1 - q) + t < k) := hid (fun t h => ⟨(HRt.out t h).symm, by rw [HN1.out]; omega⟩)
            clear HRm HRt hmx htl htx hlp htn hmn hk1 hc7 hp1 hkc0
            have HOs := hid hos
            have HMs := hid hms
            obtain ⟨oa, hoa⟩ : ∃ oa, oa = off ks (n - 1 - q) := ⟨_, rfl⟩
            obtain ⟨ma, hma⟩ : ∃ ma, ma = mo ss ks (n - 1 - q) := ⟨_, rfl⟩
            have hoa8 : oa ≤ 8 := by have := HN1.out; omega
            have hma8 : ma ≤ 64 := by rw [hma]; exact Nat.le_trans (aft_small HG.out.toFit (n - 1 - q) (by omega)) (Nat.le_refl _)
            rw [← hoa] at HOs HRt2
            rw [← hma] at HMs HRm2
            have HOa := hid hoa
            have HMa := hid hma
            clear hos hms hol hoa hma
            generalize tkn ss ks (n - 1 - q) = T at *
            generalize mdn ss ks (n - 1 - q) = M at *
            generalize ks.getD (n - 1 - q) 0 = kd at *
            generalize lpTo (-1) ss ks q = x at *
            rw [show n - 1 - q + 1 = n - q from by omega] at HOs HMs
            obtain ⟨oA, hoA⟩ : ∃ oA, oA = off ks (n - q) := ⟨_, rfl⟩
            obtain ⟨mA, hmA⟩ : ∃ mA, mA = mo ss ks (n - q) := ⟨_, rfl⟩
            rw [← hoA] at HOs ⊢
            rw [← hmA] at HMs ⊢
            clear hoA hmA
            generalize ks.getD q 0 = kq at *
            have eA : (oA : Int) - (tn : Int) = (oa : Int) := by have := HOs.out; omega
            have eB : (mA : Int) - (mn : Int) = (ma : Int) := by have := HMs.out; omega
            have EA := hid eA
            have EB := hid eB
            clear eA eB
            have hoA20 : oA ≤ 20 := by have := HOs.out; omega
            have hmA80 : mA ≤ 80 := by have := HMs.out; omega
            have j5 : (0 : Int) ≤ (n : Int) - 1 - (q : Int) := by omega
            have j6 : (n : Int) - 1 - (q : Int) < (n : Int) := by omega
            have j7 : IntKind.i64.wrap ((n : Int) - 1 - (q : Int)) = (n : Int) - 1 - (q : Int) := by rw [IntKind.wrap_i64]; omega
            have j8 : ((n : Int) - 1 - (q : Int)).toNat = n - 1 - q := by omega
            go_wp2_with (first | (go_at_call 62; refine (HT.out _).mono ?_; rintro e w5 ⟨rfl, b5'⟩; have HBc := hid (HB.out.trans (b5'.mono HB.out.size)); clear b5') | (go_at_call 63; refine (HM.out _).mono ?_; rintro e w6 ⟨rfl, b6'⟩; have HBd := hid (HBc.out.trans (b6'.mono HBc.out.size)); clear b6'))
            rw [EA.out, EB.out]
            clear j5 j6 j7 j8 hkc hkq
            go_loopw [7, 14] (fun l i wr => ∃ t : Nat, t ≤ tn ∧ i = .int .i64 t ∧ l = .int .i64 (x - sumTo T t) ∧ Below w.heap.size w wr) (fun _ i _ => tn - (intOf i).toNat)
            case atStart => exact ⟨0, Nat.zero_le _, rfl, by rw [sumTo_zero]; simp, HBd.out⟩
            case round =>
              obtain ⟨t, ht, rfl, rfl, hbel⟩ := hrel
              have HBq := hid hbel
              clear hbel
              have hsb := HSt2.out t ht
              by_cases hlt : t < tn
              · have hrd := HRt2.out t hlt
                have hst := HSt1.out t hlt
                have hel := HTe.out t hlt
                rcases HA.out with ⟨h0, _⟩ | ⟨hp5, b5, o5, cp5, hv5, hb5, hc5⟩
                · exfalso
                  have := HN1.out
                  rw [h0] at this
                  simp at this
                  omega
                rw [← HN1.out] at hv5
                simp only [Value.slice.injEq, true_and] at hv5
                obtain ⟨rfl, rfl⟩ := hv5
                have hcell0 := hc5 (oa + t) (by rw [← HN1.out]; exact hrd.2)
                rw [hrd.1] at hcell0
                have hlb := World.block_lt_of_cell? w _ hcell0
                have hcell := (HBq.out.cell (p := ⟨b5, o5 + (oa + t), none⟩) hlb).trans hcell0
                have hlb2 : b5 < wr.heap.size := Nat.lt_of_lt_of_le hlb HBq.out.size
                have HE := hid hst
                have hrd2 := hrd.2
                clear hst hc5 hp5 hcell0 hrd
                generalize sumTo T t = y at *
                generalize T.getD t 0 = z at *
                have j1 : (0 : Int) ≤ (oa : Int) + (t : Int) := by omega
                have j2 : (oa : Int) + (t : Int) < (k : Int) := by omega
                have j3 : IntKind.i64.wrap ((oa : Int) + (t : Int)) = (oa : Int) + (t : Int) := by rw [IntKind.wrap_i64]; omega
                have j4 : ((oa : Int) + (t : Int)).toNat = oa + t := by omega
                go_wp2_with (go_at_call 62; refine (HT.out _).mono ?_; rintro e w9 ⟨rfl, b9⟩; have hcell9 := (b9.cell (p := ⟨b5, o5 + (oa + t), none⟩) hlb2).trans hcell; have HB9 := hid (HBq.out.trans (b9.mono HBq.out.size)); clear b9 hcell)
                go_roundw
                case rel => exact ⟨t + 1, by omega, by go_num, by rw [HE.out]; congr 1; omega, HB9.out⟩
                case measure => simp [intOf]; omega
              · obtain rfl : t = tn := by omega
                go_wp2_with (go_at_call 62; refine (HT.out _).mono ?_; rintro e w9 ⟨rfl, b9⟩; have HBr := hid (HBq.out.trans (b9.mono HBq.out.size)); clear b9)
                go_loopw [7, 15] (fun l i wr => ∃ r : Nat, r ≤ mn ∧ i = .int .i64 r ∧ l = .int .i64 (x - sumTo T t + sumTo M r) ∧ Below w.heap.size w wr) (fun _ i _ => mn - (intOf i).toNat)
                case atStart => exact ⟨0, Nat.zero_le _, rfl, by rw [sumTo_zero]; simp, HBr.out⟩
                case round =>
                  obtain ⟨r, ht, rfl, rfl, hbel⟩ := hrel
                  have HBs := hid hbel
                  clear hbel
                  have hsb := HSm2.out r ht
                  by_cases hlt : r < mn
                  · have hrd := HRm2.out r hlt
                    have hst := HSm1.out r hlt
                    have hel := HMe.out r hlt
                    rcases HN.out with ⟨h0, _⟩ | ⟨hp5, b5, o5, cp5, hv5, hb5, hc5⟩
                    · exfalso
                      have := HN2.out
                      rw [h0] at this
                      simp at this
                      omega
                    rw [← HN2.out] at hv5
                    simp only [Value.slice.injEq, true_and] at hv5
                    obtain ⟨rfl, rfl⟩ := hv5
                    have hcell0 := hc5 (ma + r) (by rw [← HN2.out]; exact hrd.2)
                    rw [hrd.1] at hcell0
                    have hlb := World.block_lt_of_cell? w _ hcell0
                    have hcell := (HBs.out.cell (p := ⟨b5, o5 + (ma + r), none⟩) hlb).trans hcell0
                    have hlb2 : b5 < wr.heap.size := Nat.lt_of_lt_of_le hlb HBs.out.size
                    have HE := hid hst
                    have hrd2 := hrd.2
                    clear hst hc5 hp5 hcell0 hrd
                    generalize sumTo M r = y at *
                    generalize M.getD r 0 = z at *
                    have j1 : (0 : Int) ≤ (ma : Int) + (r : Int) := by omega
                    have j2 : (ma : Int) + (r : Int) < (n2 : Int) := by omega
                    have j3 : IntKind.i64.wrap ((ma : Int) + (r : Int)) = (ma : Int) + (r : Int) := by rw [IntKind.wrap_i64]; omega
                    have j4 : ((ma : Int) + (r : Int)).toNat = ma + r := by omega
                    go_wp2_with (go_at_call 63; refine (HM.out _).mono ?_; rintro e w9 ⟨rfl, b9⟩; have hcell9 := (b9.cell (p := ⟨b5, o5 + (ma + r), none⟩) hlb2).trans hcell; have HB9 := hid (HBs.out.trans (b9.mono HBs.out.size)); clear b9 hcell)
                    go_roundw
                    case rel => exact ⟨r + 1, by omega, by go_num, by rw [HE.out]; congr 1; omega, HB9.out⟩
                    case measure => simp [intOf]; omega
                  · obtain rfl : r = mn := by omega
                    have hsr := HSm2.out r (Nat.le_refl _)
                    have hst2 := HSt2.out t (Nat.le_refl _)
                    by_cases h12 : 12 < x - sumTo T t + sumTo M r
                    · have HF : Hid (lw (-1) ss ks = false) := hid (HBad.out (by rw [HLp.out]; omega))
                      clear HBad HLs
                      generalize sumTo T t = y at *
                      generalize sumTo M r = z at *
                      go_wp2_with (go_at_call 63; refine (HM.out _).mono ?_; rintro e w9 ⟨rfl, b9⟩; have HBt := hid (HBs.out.trans (b9.mono HBs.out.size)); have t0 := (HBt.out.cell (p := ⟨p, o, none⟩) hp).trans r0; clear b9)
                      go_ret
                      exact ⟨by rw [HF.out]; first | done | rfl, HBt.out⟩
                    · have HLw1 : Hid (lowTo (-1) ss ks (q + 1) = true) := hid (by rw [HLs.out, HLow.out, HLp.out]; simpa using (by omega : x - sumTo T t + sumTo M r ≤ 12))
                      clear HBad HLs
                      generalize sumTo T t = y at *
                      generalize sumTo M r = z at *
                      go_wp2_with (first | (go_at_call 63; refine (HM.out _).mono ?_; rintro e w9 ⟨rfl, b9⟩; have HBt := hid (HBs.out.trans (b9.mono HBs.out.size)); have t0 := (HBt.out.cell (p := ⟨p, o, none⟩) hp).trans r0; clear b9) | (go_at_call 62; refine (HT.out _).mono ?_; rintro e w10 ⟨rfl, b10⟩; have HBu := hid (HBt.out.trans (b10.mono HBt.out.size)); clear b10) | (go_at_call 63; refine (HM.out _).mono ?_; rintro e w11 ⟨rfl, b11⟩; have HBv := hid (HBu.out.trans (b11.mono HBu.out.size)); clear b11))
                      go_roundw
                      case rel => exact ⟨q + 1, by omega, by go_num, by rw [HLp.out], by rw [show n - (q + 1) = n - 1 - q from by omega, ← HOa.out], by rw [show n - (q + 1) = n - 1 - q from by omega, ← HMa.out], HLw1.out, HBt.out⟩
                      case measure => simp [intOf]; omega
          · obtain rfl : q = n := by omega
            have HFin : Hid (lw (-1) ss ks = true) := hid (by rw [lw, ← HNn.out]; exact HLow.out)
            go_wp2
            go_ret
            exact ⟨by rw [HFin.out]; first | done | rfl, HB.out⟩
end Go.Proofs.YtbbnheiibkcgiabDoor.kn

/- l15Stacks of the model. -/
namespace Go.Proofs.YtbbnheiibkcgiabDoor.kn
open Go.RowKit Go.Proofs.YtbbnheiibkcgiabDoor.sl Go.Proofs.YtbbnheiibkcgiabDoor.br Go.Proofs.YtbbnheiibkcgiabDoor.bw Go.Proofs.YtbbnheiibkcgiabDoor.st Go.Proofs.YtbbnheiibkcgiabDoor.cx Go.Proofs.YtbbnheiibkcgiabDoor.ro
set_option linter.unusedVariables false

def slen : Value → Nat
  | .slice _ l _ => l
  | _ => 0
theorem rep_succ (j : Nat) : List.replicate (j + 1) (1 : Int) = List.replicate j 1 ++ [1] := List.replicate_succ'
theorem row_dir {d c : Int} {ks : List Int} (h : vr5.rowB d c ks = true) : d = 1 ∨ d = -1 := by
  simp only [vr5.rowB, vo.dirB, Bool.and_eq_true] at h
  have := h.1
  simp at this
  omega

set_option maxRecDepth 100000 in
set_option maxHeartbeats 4000000 in
theorem specLS (c : Int) (xs : List V) (f : Value) (B p : Nat) (w : World) (hp : p < w.heap.size) (h0 : w.cell? ⟨p, 0, none⟩ = some (.int .i64 c)) (h1 : w.cell? ⟨p, 1, none⟩ = some f) (ha : Infs w B f xs) (hB : B ≤ w.heap.size) (hq : Small xs) :
    Calls Tryd.prog 32 #[.pointer (some ⟨p, 0, none⟩)] w fun e w' => ∃ v', e = .returned (.tuple #[v', .bool (chB c xs)]) ∧ ss.ROwn w' w.heap.size w'.heap.size v' (chW c xs) ∧ Below w.heap.size w w' := by
  have HA := hid ha
  have HSm := hid hq
  obtain ⟨ao, cap, hv⟩ := infs_val ha
  clear ha
  have hn0 := hq.len
  clear hq
  obtain ⟨b, hbb⟩ : ∃ b, b = chB c xs := ⟨_, rfl⟩
  rw [← hbb]
  have HBb := hid hbb
  have HNo : Hid (b = false → chW c xs = []) := hid (fun h => by rw [chW, ← hbb, h]; rfl)
  have HYes : Hid (b = true → chW c xs = chL c xs xs.length) := hid (fun h => by rw [chW, ← hbb, h]; rfl)
  clear hbb
  obtain ⟨n, hnn⟩ : ∃ n, n = xs.length := ⟨_, rfl⟩
  rw [← hnn] at hv hn0
  have HN := hid hnn
  clear hnn
  subst hv
  obtain ⟨p1, hp1⟩ : ∃ p1, p1 = decide (1 ≤ c ∧ c ≤ 8) := ⟨_, rfl⟩
  have HP := hid hp1
  have HC1 := hid (fun W => quiet_in c 1 8 p1 hp1.symm W)
  clear hp1
  obtain ⟨t, ht⟩ : ∃ t, t = decide ((1 : Int) ≤ (n : Int) ∧ (n : Int) ≤ 8) := ⟨_, rfl⟩
  have HT2 := hid ht
  have HC2 := hid (fun W => quiet_in (n : Int) 1 8 t ht.symm W)
  clear ht
  cases p1 with
  | false =>
    have HR : Hid (b = false) := hid (by rw [HBb.out, chB, ← HP.out]; rfl)
    have HW := hid (HNo.out HR.out)
    clear HNo HYes HBb HC2 HT2
    go_enter Tryd.func32, Tryd.ntmps32
    go_wp2_with (go_at_call 16; refine (HC1.out _).mono ?_; rintro e w' ⟨rfl, hw9⟩; obtain rfl := hw9.symm)
    go_ret2
    exact ⟨.slice none 0 0, by rw [HR.out]; rfl, by rw [HW.out]; exact ss.ROwn.nil _ _, Below.refl _ _⟩
  | true =>
    cases t with
    | false =>
      have HR : Hid (b = false) := hid (by rw [HBb.out, chB, ← HP.out]; have h2 := HT2.out; rw [HN.out] at h2; rw [show decide (1 ≤ xs.length ∧ xs.length ≤ 8) = false from by simp at h2 ⊢; omega]; rfl)
      have HW := hid (HNo.out HR.out)
      clear HNo HYes HBb HT2
      go_enter Tryd.func32, Tryd.ntmps32
      go_wp2_with (first | (go_at_call_of 16 (Value.int .i64 (n : Int)); refine (HC2.out _).mono ?_; rintro e w' ⟨rfl, hw9⟩; obtain rfl := hw9.symm) | (go_at_call 16; refine (HC1.out _).mono ?_; rintro e w' ⟨rfl, hw9⟩; obtain rfl := hw9.symm))
      go_ret2
      exact ⟨.slice none 0 0, by rw [HR.out]; rfl, by rw [HW.out]; exact ss.ROwn.nil _ _, Below.refl _ _⟩
    | true =>
      have hc8 : 1 ≤ c ∧ c ≤ 8 := by have := HP.out; simpa using this.symm
      have hn8 : 1 ≤ n ∧ n ≤ 8 := by have := HT2.out; simp at this; omega
      have HOk : Hid (b = okTo c xs xs.length) := hid (by rw [HBb.out, chB, ← HP.out, show decide (1 ≤ xs.length ∧ xs.length ≤ 8) = true from by rw [← HN.out]; simpa using hn8]; rfl)
      clear HBb HP HT2
      obtain ⟨k, rfl⟩ : ∃ k : Nat, c = (k : Int) := ⟨c.toNat, by omega⟩
      have HO0 := hid (Own.built w #[] rfl)
      have HB0 : Hid (Below w.heap.size w (w.alloc (.cells #[] 2))) := hid ((Below.refl _ _).alloc (Nat.le_refl _) _)
      go_enter Tryd.func32, Tryd.ntmps32
      go_wp2_with (first | (go_at_call_of 16 (Value.int .i64 (n : Int)); refine (HC2.out _).mono ?_; rintro e w' ⟨rfl, hw9⟩; obtain rfl := hw9.symm) | (go_at_call 16; refine (HC1.out _).mono ?_; rintro e w' ⟨rfl, hw9⟩; obtain rfl := hw9.symm))
      clear HC1 HC2
      go_loopw [4] (fun u wr => ∃ (j : Nat) (z : Value), j ≤ k ∧ u = z ∧ sl.Own wr w.heap.size wr.heap.size z (List.replicate j 1) ∧ Below w.heap.size w wr) (fun u _ => k - slen u)
      case atStart => exact ⟨0, _, Nat.zero_le _, rfl, HO0.out, HB0.out⟩
      case round =>
        obtain ⟨j, z, hj, rfl, hown, hbel⟩ := hrel
        obtain ⟨ao1, cp1, hz⟩ := own_val hown
        rw [List.length_replicate] at hz
        have HO := hid hown
        have HB := hid hbel
        have hzr := hbel.size
        clear hown hbel HO0 HB0
        subst hz
        have g0 := (HB.out.cell (p := ⟨p, 0, none⟩) hp).trans h0
        have g1 := (HB.out.cell (p := ⟨p, 1, none⟩) hp).trans h1
        by_cases hlt : j < k
        · go_wp2_with (at_builtin; refine wp_append rfl _ _ rfl w.heap.size wr.heap.size _ (List.replicate j 1) 1 HO.out rfl rfl hzr (by simp; omega) ?_; intro v9 w1 hown1 hchg1 hsz1; obtain ⟨ao9, cp9, hv9⟩ := own_val hown1; rw [List.length_append, List.length_replicate] at hv9; simp only [List.length_cons, List.length_nil, Nat.zero_add] at hv9; have HO1 := hid hown1; have HB1 := hid (HB.out.trans (hchg1.below (Nat.le_refl _) hzr)); clear hown1 hchg1; subst hv9)
          go_roundw
          case rel => exact ⟨j + 1, _, by omega, rfl, by rw [rep_succ]; exact HO1.out, HB1.out⟩
          case measure => simp [slen]; omega
        · obtain rfl : j = k := by omega
          obtain ⟨W1, rfl⟩ : ∃ W1, W1 = wr := ⟨_, rfl⟩
          have HSE := hid (wk.SR.made W1 W1.heap.size (Nat.le_refl _))
          have HBE : Hid (Below W1.heap.size W1 (W1.alloc (.cells #[] 48))) := hid ((Below.refl _ _).alloc (Nat.le_refl _) _)
          have HR0 : Hid (Rest (W1.alloc (.cells #[] 48)) (W1.alloc (.cells #[] 48)).heap.size (.slice ao1 j cp1) (nowAt (j : Int) xs 0)) := hid (by rw [nowAt, Int.toNat_natCast]; exact ((rest_own HO.out).below HBE.out).mono HBE.out.size)
          clear HO
          go_wp2
          go_loopw [4, 5, 6] (fun sv lv iv wr => ∃ (i : Nat) (s l : Value) (vals : List Value), i ≤ n ∧ sv = s ∧ lv = l ∧ iv = .int .i64 i ∧ okTo (j : Int) xs i = true ∧ Rest wr wr.heap.size s (nowAt (j : Int) xs i) ∧ wk.SR wr W1.heap.size l vals (chL (j : Int) xs i) ∧ Below W1.heap.size W1 wr) (fun _ _ iv _ => n - (intOf iv).toNat)
          case atStart => exact ⟨0, _, _, _, Nat.zero_le _, rfl, rfl, rfl, rfl, HR0.out, HSE.out, HBE.out⟩
          case round =>
            obtain ⟨i, s, l, vals, hin, rfl, rfl, rfl, hok, hrs, hsr, hbel⟩ := hrel
            have HBr := hid hbel
            have HSr := hid hsr
            have HOkI := hid hok
            have hzr2 := hbel.size
            have HBw := hid (HB.out.trans (hbel.mono hzr))
            have HLl := hid (chL_len (j : Int) xs i)
            clear hbel hsr HR0 HSE HBE g0 g1
            have g0 := (HBw.out.cell (p := ⟨p, 0, none⟩) hp).trans h0
            have g1 := (HBw.out.cell (p := ⟨p, 1, none⟩) hp).trans h1
            by_cases hlt2 : i < n
            · have hxi : i < xs.length := by rw [← HN.out]; exact hlt2
              have hInf := HA.out.below HBw.out
              rcases hInf with ⟨hnil, _⟩ | ⟨hpp, b6, off6, cap6, F, hv6, hb6, hc6⟩
              · exfalso; rw [hnil] at hxi; simp at hxi
              rw [← HN.out] at hv6
              simp only [Value.slice.injEq, true_and] at hv6
              obtain ⟨rfl, rfl⟩ := hv6
              obtain ⟨hAt, hPs⟩ := hc6 i hxi
              obtain ⟨ao5, cap5, hfv⟩ := ints_val hPs
              rw [hfv] at hAt hPs
              have z2 := hAt.c2
              have hnow := now_inv hc8 i hok
              have hshort := HSm.out.short i hxi
              have HNoR := hid (fun h : rowOk (nowAt (j : Int) xs i) (xs.getD i iz) = false => ok_bad h hxi)
              have HOkS := hid (okTo_succ (j : Int) xs i)
              obtain ⟨so, sc, hsv, hs1, hs2⟩ := hrs.cap
              subst hsv
              have hBw2 : B ≤ wr.heap.size := by have := HBw.out.size; omega
              have hRow := vr5.specRow (xs.getD i iz).a0 (xs.getD i iz).a1 (xs.getD i iz).ps (.slice ao5 (xs.getD i iz).ps.length cap5) B b6 (off6 + i * 3) wr hAt hPs hBw2 (by omega)
              have hSA := specSA0 (nowAt (j : Int) xs i) (xs.getD i iz).ps _ _ wr.heap.size B wr hrs.ints hPs (Nat.le_refl _) hBw2 (by have := (stks_parts hnow.1).1; omega) (by omega)
              obtain ⟨t1, ht1⟩ : ∃ t, t = vr5.rowB (xs.getD i iz).a0 (xs.getD i iz).a1 (xs.getD i iz).ps := ⟨_, rfl⟩
              obtain ⟨cc, hcc⟩ : ∃ cc, cc = saC (nowAt (j : Int) xs i) (xs.getD i iz).ps := ⟨_, rfl⟩
              obtain ⟨t3, ht3⟩ : ∃ t, t = lw (xs.getD i iz).a0 (nowAt (j : Int) xs i) (xs.getD i iz).ps := ⟨_, rfl⟩
              have HRo : Hid (rowOk (nowAt (j : Int) xs i) (xs.getD i iz) = (t1 && (decide (cc = 0) && t3))) := hid (by rw [rowOk, ht1, hcc, ht3])
              have HTh : Hid (t1 = true → cc = 0 → ∀ (v' : Value) (W : World), Below wr.heap.size wr W → ∀ C, Ints W C v' (nowAt (j : Int) xs (i + 1)) → Calls Tryd.prog 46 #[.slice so (nowAt (j : Int) xs i).length sc, v', .pointer (some ⟨b6, off6 + i * 3, none⟩)] W fun e w' => e = .returned (.bool t3) ∧ Below W.heap.size W w') := hid (fun h1' h2' v' W bw C hI => by
                rw [ht3]
                rw [hcc] at h2'
                rw [ht1] at h1'
                refine specThin (xs.getD i iz).a0 (xs.getD i iz).a1 (nowAt (j : Int) xs i) (xs.getD i iz).ps _ v' (.slice ao5 (xs.getD i iz).ps.length cap5) b6 (off6 + i * 3) wr.heap.size C B W (hrs.ints.chg (Chg.ofBelow (lo := 0) bw) (.inr (Nat.zero_le _))) (by rw [← saW_yes h2']; exact hI) (hAt.below bw) (hPs.chg (Chg.ofBelow (lo := 0) bw) (.inr (Nat.zero_le _))) (cx.good_of h2') (row_dir h1'))
              rw [← ht1] at hRow
              rw [← hcc] at hSA
              have HRow := hid hRow
              have HSA : Hid (Calls Tryd.prog 45 #[.slice so (nowAt (j : Int) xs i).length sc, .slice ao5 (xs.getD i iz).ps.length cap5] wr fun e w' => ∃ v', e = .returned (.tuple #[v', .int .i64 cc]) ∧ sl.Own w' wr.heap.size w'.heap.size v' (nowAt (j : Int) xs (i + 1)) ∧ Below wr.heap.size wr w') := hid hSA
              have HLs := hid (chL_succ (j : Int) xs i)
              clear ht1 hcc ht3 hRow hSA hPs hfv hAt hc6 hnow hrs hok
              generalize (xs.getD i iz).ps.length = l5 at *
              generalize (nowAt (j : Int) xs i).length = sn at *
              cases t1 with
              | false =>
                have HR : Hid (b = false) := hid (by rw [HOk.out, HNoR.out (by rw [HRo.out]; rfl)])
                have HW := hid (HNo.out HR.out)
                clear HNo HYes HNoR HOkS HOkI HTh HSA HRo
                go_wp2_with (go_at_call 44; refine HRow.out.mono ?_; rintro e w9 ⟨rfl, rfl⟩)
                go_ret2
                exact ⟨.slice none 0 0, by rw [HR.out]; rfl, by rw [HW.out]; exact ss.ROwn.lo (ss.ROwn.nil _ _) (by omega), HBw.out⟩
              | true =>
                by_cases hcc0 : cc = 0
                · subst hcc0
                  cases t3 with
                  | false =>
                    have HR : Hid (b = false) := hid (by rw [HOk.out, HNoR.out (by rw [HRo.out]; rfl)])
                    have HW := hid (HNo.out HR.out)
                    have HTh2 := hid (HTh.out rfl rfl)
                    clear HNo HYes HNoR HOkS HOkI HTh HRo
                    go_wp2_with (first | (go_at_call 44; refine HRow.out.mono ?_; rintro e w9 ⟨rfl, rfl⟩) | (go_at_call 45; refine HSA.out.mono ?_; rintro e w5 ⟨v5, rfl, o5, b5⟩; have HB5 := hid b5; have HT5 := hid (HTh2.out v5 w5 b5 _ o5.ints); have g15 := (b5.cell (p := ⟨p, 1, none⟩) (Nat.lt_of_lt_of_le hp HBw.out.size)).trans g1; clear o5 b5) | (go_at_call 46; refine HT5.out.mono ?_; rintro e w6 ⟨rfl, b6'⟩; have HB6 := hid (HB5.out.trans (b6'.mono HB5.out.size)); clear b6'))
                    go_ret2
                    exact ⟨.slice none 0 0, by rw [HR.out]; rfl, by rw [HW.out]; exact ss.ROwn.lo (ss.ROwn.nil _ _) (by have := HB6.out.size; have := HBw.out.size; omega), HBw.out.trans (HB6.out.mono HBw.out.size)⟩
                  | true =>
                    have HOk1 : Hid (okTo (j : Int) xs (i + 1) = true) := hid (by rw [HOkS.out, HOkI.out, HRo.out]; rfl)
                    have HTh2 := hid (HTh.out rfl rfl)
                    clear HNoR HOkS HOkI HTh HRo
                    go_wp2_with (first | (go_at_call 44; refine HRow.out.mono ?_; rintro e w9 ⟨rfl, rfl⟩) | (go_at_call 45; refine HSA.out.mono ?_; rintro e w5 ⟨v5, rfl, o5, b5⟩; have HB5 := hid b5; have HT5 := hid (HTh2.out v5 w5 b5 _ o5.ints); have g15 := (b5.cell (p := ⟨p, 1, none⟩) (Nat.lt_of_lt_of_le hp HBw.out.size)).trans g1; have O5 := hid o5; obtain ⟨ao9, cap9, hv9⟩ := own_val o5; clear o5 b5; generalize (nowAt (j : Int) xs (i + 1)).length = l9 at *; subst hv9) | (go_at_call 46; refine HT5.out.mono ?_; rintro e w6 ⟨rfl, b6'⟩; have HB6 := hid (HB5.out.trans (b6'.mono HB5.out.size)); have O6 := hid ((O5.out.chg (Chg.ofBelow (lo := 0) b6') (.inr (.inr (Nat.zero_le _)))).hi b6'.size (Nat.le_refl _)); clear b6') | (at_builtin; refine wk.wp_appR rfl _ _ rfl W1.heap.size _ _ vals (chL (j : Int) xs i) (nowAt (j : Int) xs (i + 1)) HSr.out HB6.out O6.out rfl rfl rfl hzr2 (by rw [HLl.out]; omega) ?_; intro v7 w7 hs7 hb7 hg7 h57; have HS7 := hid hs7; have HB7 := hid hb7; clear hs7 hb7 hg7 h57))
                    go_roundw
                    case rel => exact ⟨i + 1, _, _, _, by omega, rfl, rfl, by go_num, HOk1.out, sr_last HS7.out, by rw [HLs.out]; exact HS7.out, (HBr.out.trans (HB6.out.mono hzr2)).trans HB7.out⟩
                    case measure => simp [intOf]; omega
                · have HR : Hid (b = false) := hid (by rw [HOk.out, HNoR.out (by rw [HRo.out]; simp [hcc0])])
                  have HW := hid (HNo.out HR.out)
                  have e1 : (cc == 0) = false := by simpa using hcc0
                  have e2 : (cc != 0) = true := by simpa using hcc0
                  clear HNo HYes HNoR HOkS HOkI HTh HRo hcc0
                  go_wp2_with (first | (go_at_call 44; refine HRow.out.mono ?_; rintro e w9 ⟨rfl, rfl⟩) | (go_at_call 45; refine HSA.out.mono ?_; rintro e w5 ⟨v5, rfl, o5, b5⟩; have HB5 := hid b5; have g15 := (b5.cell (p := ⟨p, 1, none⟩) (Nat.lt_of_lt_of_le hp HBw.out.size)).trans g1; clear o5 b5))
                  go_ret2
                  exact ⟨.slice none 0 0, by rw [HR.out]; rfl, by rw [HW.out]; exact ss.ROwn.lo (ss.ROwn.nil _ _) (by have := HB5.out.size; have := HBw.out.size; omega), HBw.out.trans (HB5.out.mono HBw.out.size)⟩
            · obtain rfl : i = n := by omega
              have HR : Hid (b = true) := hid (by rw [HOk.out, ← HN.out, HOkI.out])
              have HW := hid (HYes.out HR.out)
              clear HNo HYes HOkI
              go_wp2
              go_ret2
              have hR := (HSr.out.low (show w.heap.size ≤ W1.heap.size by omega)).rown
              rw [HN.out] at hR
              exact ⟨_, by rw [HR.out]; rfl, by rw [HW.out]; exact hR, HBw.out⟩
end Go.Proofs.YtbbnheiibkcgiabDoor.kn

/- ValidChart of the model. -/
namespace Go.Proofs.YtbbnheiibkcgiabDoor.kn
open Go.RowKit Go.Proofs.YtbbnheiibkcgiabDoor.sl Go.Proofs.YtbbnheiibkcgiabDoor.br Go.Proofs.YtbbnheiibkcgiabDoor.bw Go.Proofs.YtbbnheiibkcgiabDoor.st Go.Proofs.YtbbnheiibkcgiabDoor.cx Go.Proofs.YtbbnheiibkcgiabDoor.ro
set_option linter.unusedVariables false

set_option maxRecDepth 20000 in
theorem specOk15 (c : Int) (xs : List V) (f : Value) (B p : Nat) (w : World) (hp : p < w.heap.size) (h0 : w.cell? ⟨p, 0, none⟩ = some (.int .i64 c)) (h1 : w.cell? ⟨p, 1, none⟩ = some f) (ha : Infs w B f xs) (hB : B ≤ w.heap.size) (hq : Small xs) :
    Calls Tryd.prog 15 #[.pointer (some ⟨p, 0, none⟩)] w fun e w' => e = .returned (.bool (chB c xs)) ∧ Below w.heap.size w w' := by
  have HS := hid (specLS c xs f B p w hp h0 h1 ha hB hq)
  obtain ⟨ao, cap, hv⟩ := infs_val ha
  clear ha
  generalize xs.length = n at *
  subst hv
  generalize chB c xs = b at *
  go_enter Tryd.func15, Tryd.ntmps15
  go_wp2_with fail
  refine HS.out.mono ?_
  rintro e w1 ⟨v1, rfl, _, b1⟩
  have B1 := hid b1
  clear b1
  go_wp2
  go_ret
  exact ⟨rfl, B1.out⟩

end Go.Proofs.YtbbnheiibkcgiabDoor.kn
