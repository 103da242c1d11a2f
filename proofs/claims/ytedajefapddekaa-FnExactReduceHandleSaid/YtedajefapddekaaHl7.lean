/-
  Reducing a handle in a linked word: the program's walk.
-/
import Derived.Test.YtedajefapddekaaHl6
namespace Go.Proofs.Ytedajefapddekaa.hl
open Go.RowKit Go.Proofs.Ytedajefapddekaa.sl Go.Proofs.Ytedajefapddekaa.br Go.Proofs.Ytedajefapddekaa.bw Go.Proofs.Ytedajefapddekaa.fn
set_option linter.unusedVariables false

theorem insQ_lo {Q : Nat → Nat} {k X i : Nat} (h : i ≤ k) : insQ Q k X i = Q i := by unfold insQ; rw [if_pos h]
theorem insQ_hi {Q : Nat → Nat} {k X i : Nat} (h : k + 1 ≤ i) : insQ Q k X (i + 1) = Q i := by unfold insQ; rw [if_neg (by omega), if_neg (by omega)]; rfl
theorem remQ_lo {Q : Nat → Nat} {k i : Nat} (h : i ≤ k) : remQ Q k i = Q i := by unfold remQ; rw [if_pos h]
theorem remQ_hi {Q : Nat → Nat} {k i : Nat} (h : k < i) : remQ Q k i = Q (i + 1) := by unfold remQ; rw [if_neg (by omega)]
theorem LW.chL {w : World} {lo W : Nat} {Q : Nat → Nat} {xs ys : List Int} (h : LW w lo W Q xs) (e : xs = ys) : LW w lo W Q ys := e ▸ h

/-- Where the loop of reduce stands at the letter i; g letters are left. -/
def RS (w : World) (C lo W : Nat) (Q : Nat → Nat) (xs : List Int) (p q i a : Nat) (wr : World) : Prop :=
  ∃ Q', (wr.heap[C]? = w.heap[C]? ∧ Away Q' (cur xs p i).length W C) ∧ a = Q' (p + 1 + (mid xs p i).length + 1) ∧ Q' p = Q p ∧ Q' (p + 1) = Q (p + 1) ∧ Q' (p + 1 + (mid xs p i).length + 1 + (q - i)) = Q (q + 1) ∧ LW wr lo W Q' (cur xs p i)
theorem cur_at (xs : List Int) (p i : Nat) (hp : p < i) (hi : i < xs.length) : (cur xs p i).getD (p + 1 + (mid xs p i).length) 0 = xs.getD i 0 := by
  have hf := cur_front xs p i hp (by omega)
  unfold cur
  rw [List.getD, List.getElem?_append_right (by omega), hf, Nat.sub_self, drop_at xs i hi]
  rfl

set_option maxRecDepth 100000 in
set_option maxHeartbeats 4000000 in
theorem redW (lo W : Nat) (Q : Nat → Nat) (xs : List Int) (p q : Nat) (hp : p < q) (hq : q < xs.length) (w : World) (h : LW w lo W Q xs) (hlo : lo ≤ w.heap.size) (hn : xs.length ≤ 10000) (hL : Let 11 xs) (C : Nat) (hC : C < w.heap.size) (hA : Away Q xs.length W C) :
    Calls Try.prog 86 #[ptr W, ptr (Q (p + 1)), ptr (Q (q + 1))] w fun e w' => ∃ Q', e = .returned (ptr (Q' (p + 1))) ∧ LW w' lo W Q' (hred xs p q) ∧ Below lo w w' ∧ w'.heap[C]? = w.heap[C]? ∧ Away Q' (hred xs p q).length W C := by
  have HH := hid h
  have HL := hid hL
  have HAw := hid hA
  have HC0 := hid hC
  clear hA hC
  have x0 := h.lst.lt p (by omega)
  have x1 := h.lst.pv p (by omega)
  have x2 := h.lst.nx (p + 1) (by omega)
  have hx := hL.at p (by omega)
  clear h hL
  obtain ⟨n, hnn⟩ : ∃ n, n = xs.length := ⟨_, rfl⟩
  rw [← hnn] at hq hn
  have HN := hid hnn
  clear hnn
  obtain ⟨y, hy⟩ : ∃ y, y = xs.getD p 0 := ⟨_, rfl⟩
  rw [← hy] at x0 hx
  have HY := hid hy
  obtain ⟨b0, hb0⟩ : ∃ b0, b0 = Q p := ⟨_, rfl⟩
  obtain ⟨b1, hb1⟩ : ∃ b1, b1 = Q (p + 1) := ⟨_, rfl⟩
  obtain ⟨b2, hb2⟩ : ∃ b2, b2 = Q (p + 1 + 1) := ⟨_, rfl⟩
  obtain ⟨bl, hbl⟩ : ∃ bl, bl = Q (q + 1) := ⟨_, rfl⟩
  rw [← hb1] at x0 x1 x2
  rw [← hb0] at x1
  rw [← hb2] at x2
  rw [← hb1, ← hbl]
  unfold ptr at x1 x2
  have HB0 := hid hb0
  have HB1 := hid hb1
  have HB2 := hid hb2
  have HBl := hid hbl
  have hyb := ab_bound y 11 hx
  obtain ⟨j, hj⟩ : ∃ j, ab y = j := ⟨_, rfl⟩
  obtain ⟨e, he⟩ : ∃ e, sg y = e := ⟨_, rfl⟩
  rw [hj] at hx
  have hsg : e = 1 ∨ e = -1 := by rw [← he]; exact sg_two y
  have HGy := hid (quiet_gen y (by omega) j hj)
  have HSy := hid (quiet_sign y e he)
  have HJ := hid hj
  have HE := hid he
  have HHP := hid hp
  have HHQ := hid hq
  have w1 : IntKind.i64.wrap (-e) = -e := IntWalk.i64_in _ (by omega)
  have w2 : IntKind.i64.wrap (j + 1) = j + 1 := IntWalk.i64_in _ (by omega)
  have w3 : IntKind.i64.wrap (-e * (j + 1)) = -e * (j + 1) := IntWalk.i64_in _ (by rcases hsg with rfl | rfl <;> omega)
  have w4 : IntKind.i64.wrap (e * (j + 1)) = e * (j + 1) := IntWalk.i64_in _ (by rcases hsg with rfl | rfl <;> omega)
  have HSG := hid hsg
  have HJb := hid hx
  clear hy hb0 hb1 hb2 hbl hj he hp hq hsg hyb
  unfold ptr
  go_enter Try.func86, Try.ntmps86
  go_wp2
  go_quiet ((first | (go_at_call 108; exact Calls.quiet_of_same (HGy.out _)) | (go_at_call 110; exact Calls.quiet_of_same (HSy.out _))))
  generalize hw1 : w.drewN _ = wd
  have z2 : wd.cell? ⟨b1, 2, none⟩ = some (.pointer (some ⟨b2, 0, none⟩)) := by rw [← hw1]; exact x2
  have HD : Hid (LW wd lo W Q xs) := hid (by rw [← hw1]; exact HH.out.drewN _)
  have HDC : Hid (wd.heap[C]? = w.heap[C]?) := hid (by rw [← hw1]; rfl)
  have HDB : Hid (Below lo w wd) := hid (by rw [← hw1]; exact bdrewN (Below.refl _ _) _)
  have hlod : lo ≤ wd.heap.size := by rw [← hw1]; exact hlo
  clear hw1 x0 x1 x2
  go_wp2
  go_loopg [10] (q - (p + 1)) (fun g x wr => ∃ i a : Nat, i + g = q ∧ p < i ∧ x = .pointer (some ⟨a, 0, none⟩) ∧ RS w C lo W Q xs p q i a wr ∧ Below lo w wr)
  case atStart =>
    refine ⟨p + 1, b2, by have := HHP.out; omega, by omega, rfl, ⟨Q, ⟨HDC.out, by rw [cur_zero]; exact HAw.out⟩, ?_, rfl, rfl, ?_, ?_⟩, HDB.out⟩
    · rw [mid_zero]; exact HB2.out
    · rw [mid_zero]; congr 1; have := HHP.out; simp; omega
    · rw [cur_zero]; exact HD.out
  case round =>
    obtain ⟨i, a, hig, hpi, rfl, ⟨Q', haw, ha, hq0, hq1, hql, hlw⟩, hbel⟩ := hrel
    have HW2 := hid haw
    clear haw
    have HI := hid (And.intro hig hpi)
    have HA := hid ha
    have HQ0 := hid hq0
    have HQ1 := hid hq1
    have HQL := hid hql
    have HR := hid hlw
    have HB := hid hbel
    have hsz := hbel.size
    obtain ⟨m, hm⟩ : ∃ m, m = (mid xs p i).length := ⟨_, rfl⟩
    have HM := hid hm
    have hiq : i ≤ q := by omega
    have hcl := cur_len xs p i hpi (by rw [← HN.out]; have := HHQ.out; omega)
    have hml := mid_len xs p i hpi (by rw [← HN.out]; have := HHQ.out; omega)
    rw [← hm, ← HN.out] at hcl
    rw [← hm] at hml
    have HCL := hid hcl
    have HML := hid hml
    clear hq0 hq1 hql hlw hbel hm
    have hqn := HHQ.out
    have HC := hid (neqP wr a bl (by rw [ha]; exact HR.out.blk _ (by rw [← HM.out, hcl]; omega)) (by rw [HBl.out, ← HQL.out]; exact HR.out.blk _ (by rw [← HM.out, hcl]; omega)) wr rfl)
    cases gk with
    | zero =>
      have hap : a = bl := by rw [ha, HBl.out, ← HQL.out, show q - i = 0 from by omega]
      clear ha
      subst hap
      obtain rfl : i = q := by omega
      have hcm : (binOp .neq 99 (.pointer (some ⟨a, 0, none⟩)) (.pointer (some ⟨a, 0, none⟩))).run Try.prog wr = .ok (.bool false) wr := by
        rw [HC.out]; simp
      have HR1 := hid (rmv lo W Q' (cur xs p i) p (by rw [hcl]; omega) wr HR.out (by rw [hcl]; omega))
      rw [HQ1.out, ← HB1.out] at HR1
      unfold ptr at HR1
      clear hcl hml hig hpi hiq hqn HC
      go_wp2_with fail
      refine HR1.out.mono ?_
      rintro e1 w5 ⟨rfl, l5, b5, c5⟩
      have HC5 := hid (c5 C (by have := HC0.out; have := HB.out.size; omega) HW2.out.2)
      clear c5
      have HL5 := hid l5
      have HB5 := hid (HB.out.trans b5)
      have hle : ((cur xs p i).eraseIdx p).length + 1 = (cur xs p i).length := len_erase _ _ (by rw [HCL.out]; omega)
      have HR2 := hid (rmv lo W (remQ Q' p) ((cur xs p i).eraseIdx p) (p + m) (by rw [HCL.out] at hle; have := HHQ.out; have := HI.out; omega) w5 HL5.out (by rw [HCL.out] at hle; have := HML.out; have := HHQ.out; have := HI.out; omega))
      have ha2 : remQ Q' p (p + m + 1) = a := by rw [remQ_hi (by omega), HA.out, ← HM.out]; congr 1; omega
      rw [ha2] at HR2
      unfold ptr at HR2
      clear l5 b5 ha2 hle
      go_wp2_with fail
      refine HR2.out.mono ?_
      rintro e2 w6 ⟨rfl, l6, b6, c6⟩
      have HC6 := hid (c6 C (by have := HC0.out; have := HB5.out.size; omega) HC5.out.2)
      clear c6
      have HL6 : Hid (LW w6 lo W (remQ (remQ Q' p) (p + m)) (hred xs p i)) := hid (l6.chL (by rw [HM.out]; exact cur_end xs p i HI.out.2 (by rw [← HN.out]; exact HHQ.out)))
      have HB6 := hid (HB5.out.trans b6)
      have hpl : p ≤ (hred xs p i).length := by rw [hred_mid]; have h1 := HHQ.out; have h2 := HI.out; have h3 := HN.out; simp; omega
      have g2 := HL6.out.lst.nx p hpl
      have hqq : remQ (remQ Q' p) (p + m) p = b0 := by rw [remQ_lo (by omega), remQ_lo (Nat.le_refl _), HQ0.out, HB0.out]
      rw [hqq] at g2
      unfold ptr at g2
      clear l6 b6 hpl hqq
      obtain ⟨r, hr⟩ : ∃ r, r = remQ (remQ Q' p) (p + m) (p + 1) := ⟨_, rfl⟩
      rw [← hr] at g2
      have HRr := hid hr
      clear hr
      go_wp2
      go_ret
      exact ⟨_, by rw [← HRr.out]; rfl, HL6.out, HB6.out, HC6.out.1.trans (HC5.out.1.trans HW2.out.1), by have := HC6.out.2; rwa [HM.out, cur_end xs p i HI.out.2 (by rw [← HN.out]; exact HHQ.out), ← HM.out] at this⟩
    | succ g =>
      have hne : ¬ a = bl := fun e => by
        rw [ha, HBl.out, ← HQL.out, ← HM.out] at e
        by_cases e9 : p + 1 + m + 1 + (q - i) = (cur xs p i).length + 1
        · omega
        · have := HR.out.lst.apart _ _ (by omega) (by omega) e; omega
      have hcm : (binOp .neq 99 (.pointer (some ⟨a, 0, none⟩)) (.pointer (some ⟨bl, 0, none⟩))).run Try.prog wr = .ok (.bool true) wr := by
        rw [HC.out, decide_eq_false hne]; rfl
      have hiq2 : i < q := by omega
      have HIQ := hid hiq2
      have hin : i < xs.length := by rw [← HN.out]; omega
      have g0 := HR.out.lst.lt (p + 1 + m) (by omega)
      have g1 := HR.out.lst.nx (p + 1 + m + 1) (by omega)
      rw [HM.out, cur_at xs p i hpi hin, ← HA.out] at g0
      rw [HM.out, ← HA.out] at g1
      have hzl := HL.out.at i hin
      obtain ⟨z, hz⟩ : ∃ z, z = xs.getD i 0 := ⟨_, rfl⟩
      rw [← hz] at g0 hzl
      have HZ := hid hz
      have hzb := ab_bound z 11 hzl
      obtain ⟨c, hc⟩ : ∃ c, c = Q' (p + 1 + (mid xs p i).length + 1 + 1) := ⟨_, rfl⟩
      rw [← hc] at g1
      unfold ptr at g1
      have HCc := hid hc
      obtain ⟨gz, hgz⟩ : ∃ gz, ab z = gz := ⟨_, rfl⟩
      rw [hgz] at hzl
      have HGz := hid (quiet_gen z (by omega) gz hgz)
      have HGZ := hid hgz
      have HIN := hid hin
      clear hc hz hgz hne HC hin ha hig hpi hiq hiq2 hml hcl hqn
      by_cases hw : gz = j + 1
      · subst hw
        have hsz' : sg z = 1 ∨ sg z = -1 := sg_two z
        obtain ⟨d, hd⟩ : ∃ d, sg z = d := ⟨_, rfl⟩
        rw [hd] at hsz'
        have HSz := hid (quiet_sign z d hd)
        have HDd := hid hd
        have hjb := HJb.out
        have w5 : IntKind.i64.wrap (d * j) = d * j := IntWalk.i64_in _ (by rcases hsz' with rfl | rfl <;> omega)
        obtain ⟨k, hk⟩ : ∃ k, k = p + 1 + m := ⟨_, rfl⟩
        have HK := hid hk
        have HIQm := hid (show k + 1 ≤ (cur xs p i).length by have := HCL.out; have := HIQ.out; have := HHQ.out; omega)
        have hcl4 : (cur xs p i).length ≤ 100000 := by have := HCL.out; have := HML.out; have := HHQ.out; have := HI.out; omega
        have haQ : Q' (k + 1) = a := by rw [HA.out, ← HM.out, hk]
        have HR1 := hid (insB lo W Q' (cur xs p i) k (by have := HIQm.out; omega) (-e * (j + 1)) wr HR.out (by have := HB.out.size; omega) (by omega))
        rw [haQ] at HR1
        have HAQ := hid haQ
        have HW3 := hid (cur_wide xs p i HI.out.2 HIN.out (by rw [← HZ.out, ← HY.out, HGZ.out, HJ.out]) (-e * (j + 1)) (d * j) (e * (j + 1)) (by rw [← HY.out, HJ.out, HE.out]) (by rw [← HZ.out, ← HY.out, HJ.out, HDd.out]) (by rw [← HY.out, HJ.out, HE.out]) k (by rw [hk, HM.out]))
        unfold ptr at HR1
        clear hd hsz' hjb hk haQ
        go_wp2_with fail
        refine (HGz.out _).mono ?_
        rintro e1 w7 ⟨rfl, hw7⟩
        obtain rfl := hw7.symm
        go_wp2_with fail
        refine HR1.out.mono ?_
        rintro e2 w8 ⟨rfl, l8, b8, c8⟩
        have HC8 := hid (c8 C (by have := HC0.out; have := HB.out.size; omega) HW2.out.2)
        clear c8
        have HL8 := hid l8
        have HB8 := hid (HB.out.trans b8)
        have hl8 := len_ins (cur xs p i) k (-e * (j + 1)) (by have := HIQm.out; omega)
        have hq8 : insQ Q' k wr.heap.size (k + 1 + 1) = a := by rw [insQ_hi (Nat.le_refl _)]; exact HAQ.out
        have y0 := HL8.out.lst.lt (k + 1) (by rw [hl8]; have := HIQm.out; omega)
        rw [hq8, getD_ins _ _ _ _ (by have := HIQm.out; omega), if_neg (by omega), if_neg (by omega), show k + 1 - 1 = p + 1 + (mid xs p i).length from by rw [HK.out, HM.out]; omega, cur_at xs p i HI.out.2 HIN.out, ← HZ.out] at y0
        have HR2 := hid (insB lo W (insQ Q' k wr.heap.size) (insL (cur xs p i) k (-e * (j + 1))) (k + 1) (by rw [hl8]; have := HIQm.out; omega) (d * j) w8 HL8.out (by have := HB8.out.size; omega) (by rw [hl8]; omega))
        rw [hq8] at HR2
        have HLn8 := hid hl8
        have HQ8 := hid hq8
        unfold ptr at HR2
        clear l8 b8 hl8 hq8
        go_wp2_with fail
        refine (HSz.out _).mono ?_
        rintro e3 w9 ⟨rfl, hw9⟩
        obtain rfl := hw9.symm
        go_wp2_with fail
        refine HR2.out.mono ?_
        rintro e4 w10 ⟨rfl, l10, b10, c10⟩
        have HC10 := hid (c10 C (by have := HC0.out; have := HB8.out.size; omega) HC8.out.2)
        clear c10
        have HL10 := hid l10
        have HB10 := hid (HB8.out.trans b10)
        have hl10 := len_ins (insL (cur xs p i) k (-e * (j + 1))) (k + 1) (d * j) (by rw [HLn8.out]; have := HIQm.out; omega)
        rw [HLn8.out] at hl10
        have hq10 : insQ (insQ Q' k wr.heap.size) (k + 1) w8.heap.size (k + 2 + 1) = a := by rw [insQ_hi (by omega)]; exact HQ8.out
        have v0 := HL10.out.lst.lt (k + 2) (by rw [hl10]; have := HIQm.out; omega)
        have vf := HL10.out.lst.fz (k + 2 + 1) 0 (by rw [hl10]; have := HIQm.out; omega)
        rw [hq10] at v0 vf
        have HL11 := hid (HL10.out.setL (k + 2) (by rw [hl10]; have := HIQm.out; omega) (e * (j + 1)))
        have HB11 := hid (HB10.out.setCell (p := (⟨a, 0, none⟩ : Addr)) (by have := HL10.out.lst.own (k + 2 + 1) (by rw [hl10]; have := HIQm.out; omega); rw [hq10] at this; exact this.1) (.int .i64 (e * (j + 1))))
        rw [hq10, HW3.out.1] at HL11
        have v2 := HL11.out.lst.nx (k + 2 + 1) (by have := cur_len xs p (i + 1) (by have := HI.out; omega) (by have := HIN.out; omega); have h2 := HW3.out.2; have h3 := HK.out; have h4 := HM.out; omega)
        rw [hq10] at v2
        unfold ptr at v2
        obtain ⟨r, hr⟩ : ∃ r, r = insQ (insQ Q' k wr.heap.size) (k + 1) w8.heap.size (k + 2 + 1 + 1) := ⟨_, rfl⟩
        rw [← hr] at v2
        have HRr := hid hr
        have HLen := hid hl10
        have HQ10 := hid hq10
        clear l10 b10 hl10 hq10 hr
        go_wp2
        go_roundg g
        case measure => omega
        case rel =>
          refine ⟨i + 1, r, by have := HI.out; omega, by have := HI.out; omega, rfl, ⟨insQ (insQ Q' k wr.heap.size) (k + 1) w8.heap.size, ?_, ?_, ?_, ?_, ?_, ?_⟩, HB11.out⟩
          · refine ⟨?_, ?_⟩
            · rw [Below.heap_setCell _ _ _ _ (fun e => HC10.out.2.2 (k + 2 + 1) (by rw [HLen.out]; have := HIQm.out; omega) (by rw [HQ10.out]; exact e.symm))]
              exact HC10.out.1.trans (HC8.out.1.trans HW2.out.1)
            · have := HC10.out.2
              rwa [← HW3.out.1, List.length_set]
          · rw [HW3.out.2, HRr.out, HK.out, HM.out]; congr 1
          · rw [insQ_lo (by have := HK.out; omega), insQ_lo (by have := HK.out; omega)]; exact HQ0.out
          · rw [insQ_lo (by have := HK.out; omega), insQ_lo (by have := HK.out; omega)]; exact HQ1.out
          · have h1 := HIQ.out
            rw [HW3.out.2, ← HM.out, show p + 1 + (m + 3) + 1 + (q - (i + 1)) = (k + 1 + (q - i)) + 1 + 1 from by have := HK.out; omega, insQ_hi (by omega), insQ_hi (by omega), ← HQL.out, ← HM.out, ← HK.out]
          · exact HL11.out
      · have b1 : (gz == j + 1) = false := by simpa using hw
        have HS := hid (cur_same xs p i HI.out.2 HIN.out (by rw [← HZ.out, ← HY.out, HGZ.out, HJ.out]; exact hw))
        clear hw
        go_wp2_with fail
        refine (HGz.out _).mono ?_
        rintro e1 w5 ⟨rfl, rfl⟩
        go_wp2
        go_roundg g
        case measure => omega
        case rel =>
          refine ⟨i + 1, c, by have := HI.out; omega, by have := HI.out; omega, rfl, ⟨Q', ⟨HW2.out.1, by rw [HS.out.1]; exact HW2.out.2⟩, ?_, HQ0.out, HQ1.out, ?_, ?_⟩, HB.out⟩
          · rw [HS.out.2, HCc.out]; congr 1
          · rw [HS.out.2, ← HQL.out]; congr 1; have := HIQ.out; omega
          · rw [HS.out.1]; exact HR.out
end Go.Proofs.Ytedajefapddekaa.hl
