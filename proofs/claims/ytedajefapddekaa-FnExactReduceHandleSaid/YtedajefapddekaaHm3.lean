/-
  Reducing handles until there is none, in the model.
-/
import Derived.Test.YtedajefapddekaaHm2
namespace Go.Proofs.Ytedajefapddekaa.hl
open Go.RowKit Go.Proofs.Ytedajefapddekaa.sl Go.Proofs.Ytedajefapddekaa.br Go.Proofs.Ytedajefapddekaa.bw Go.Proofs.Ytedajefapddekaa.fn
set_option linter.unusedVariables false

theorem inQ (c lo hi : Int) (q : Bool) (hq : decide (lo ≤ c ∧ c ≤ hi) = q) (w : World) : Calls Try.prog 53 #[.int .i64 c, .int .i64 lo, .int .i64 hi] w fun e w' => e = .returned (.bool q) ∧ w = w' := by
  subst hq; exact (pm.specIn c lo hi w).mono fun _ _ h => ⟨by rw [h.1], h.2⟩

def CapOk (v : Value) : Prop := ∀ ao n cap, v = .slice ao n cap → n ≤ cap ∧ cap ≤ 9223372036854775807
theorem capok_own {w : World} {lo hi : Nat} {v : Value} {xs : List Int} (o : Own w lo hi v xs) : CapOk v := fun ao n cap hv => by subst hv; exact own_caps o

set_option maxRecDepth 100000 in
set_option maxHeartbeats 4000000 in
theorem formS (b : Int) (xs : List Int) (v : Value) (B : Nat) (w : World) (ha : Ints w B v xs) (hB : B ≤ w.heap.size) (hnil : NilOk v) (hcp : CapOk v) (hn : xs.length ≤ 4000) (hL : Let 11 xs) :
    Calls Try.prog 89 #[v, .int .i64 b] w fun e w' => ∃ v', e = .returned (.tuple #[v', .int .i64 (hfS b xs), .int .i64 (hfC b xs)]) ∧ Own w' w.heap.size w'.heap.size v' (hfL b xs) ∧ Below w.heap.size w w' := by
  have HA := hid ha
  have HL := hid hL
  have HN := hid hn
  have HNil := hid hnil
  have HCp := hid hcp
  clear ha hL hn hnil hcp
  cases hb : hfIn b
  · have HF := hid (hf_out (xs := xs) hb)
    have HWi := hid (inQ b 0 5000 false hb)
    clear hb
    go_enter Try.func89, Try.ntmps89
    go_wp2_with fail
    refine (HWi.out _).mono ?_
    rintro e w1 ⟨rfl, rfl⟩
    go_wp2
    refine bodyPost_ret (v := .tuple #[.slice none 0 0, .int .i64 0, .int .i64 2]) (by simp [results, Try.results89, go_sem]) rfl ⟨_, by rw [HF.out.2.1, HF.out.2.2], by rw [HF.out.1]; exact Own.nil _ _, Below.refl _ _⟩
  · have HF := hid (fun y s => hf_some (xs := xs) (y := y) (s := s) hb)
    have HFn := hid (hf_none (xs := xs) hb)
    have hbb := of_decide_eq_true hb
    have HWi := hid (inQ b 0 5000 true hb)
    clear hb
    obtain ⟨n, rfl⟩ : ∃ n : Nat, b = n := ⟨b.toNat, by omega⟩
    have hn5 : n ≤ 5000 := by omega
    clear hbb
    go_enter Try.func89, Try.ntmps89
    go_wp2_with fail
    refine (HWi.out _).mono ?_
    rintro e w1 ⟨rfl, hw1⟩
    obtain rfl := hw1
    go_wp2
    go_loopg [0, 7] n (fun g u st wr => ∃ (s : Nat) (y : List Int), s + g = n ∧ st = .int .i64 s ∧ Ints wr wr.heap.size u y ∧ NilOk u ∧ CapOk u ∧ y.length ≤ 4000 ∧ Let 11 y ∧ form g y s = hfR n xs ∧ Below w.heap.size w wr)
    case atStart => exact ⟨0, xs, by omega, rfl, HA.out.mono hB, HNil.out, HCp.out, HN.out, HL.out, by unfold hfR; rw [Int.toNat_natCast]; rfl, Below.refl _ _⟩
    case round =>
      obtain ⟨s, y, hsg, rfl, hints, hnil, hcp, hy4, hlet, hform, hbel⟩ := hrel
      have HSG := hid hsg
      have HI := hid hints
      have HNl := hid hnil
      have HCk := hid hcp
      have HY4 := hid hy4
      have HLet := hid hlet
      have HFo := hid hform
      have HB := hid hbel
      have hsz := hbel.size
      obtain ⟨ao, cap, hu⟩ := ints_val hints
      obtain ⟨l0, hl0⟩ : ∃ l0, l0 = y.length := ⟨_, rfl⟩
      rw [← hl0] at hu
      have HL0 := hid hl0
      subst hu
      have HFi := hid (specFirst y (.slice ao l0 cap) wr.heap.size wr HI.out (Nat.le_refl _) (by omega) hlet)
      clear hsg hints hnil hcp hy4 hlet hform hbel hl0
      rcases fst_cases y with ⟨hno, _⟩ | ⟨p, q, hyes, hql, hqe, _⟩
      · rw [(fs_no hno).1, (fs_no hno).2.1, (fs_no hno).2.2] at HFi
        have HE := hid (HF.out y s (by rw [← HFo.out]; exact form_end _ _ _ hno))
        clear hno
        go_wp2_with fail
        refine HFi.out.mono ?_
        rintro e w3 ⟨rfl, b3⟩
        have HB3 := hid ((HB.out.trans (b3.mono hsz)).alloc (by have := (HB.out.trans (b3.mono hsz)).size; exact this) (.cells #[.int .i64 0, .int .i64 0] 50))
        have HI3 : Hid (Ints (w3.alloc (.cells #[.int .i64 0, .int .i64 0] 50)) wr.heap.size (.slice ao l0 cap) y) := hid (ints_al (HI.out.chg (Chg.ofBelow b3) (.inl (Nat.le_refl _))) _)
        clear b3
        go_wp2_with fail
        generalize w3.alloc (.cells #[.int .i64 0, .int .i64 0] 50) = w4 at *
        refine (ownM y (.slice ao l0 cap) wr.heap.size w4 HI3.out HNl.out (by have := HY4.out; omega)).mono ?_
        rintro e w5 ⟨v5, rfl, o5, b5⟩
        have HO5 := hid (o5.lo HB3.out.size)
        have HB5 := hid (HB3.out.trans (b5.mono HB3.out.size))
        clear o5 b5
        go_wp2
        refine bodyPost_ret (v := .tuple #[v5, .int .i64 s, .int .i64 0]) (by simp [results, Try.results89, go_sem]) rfl ⟨v5, by rw [HE.out.2.1, HE.out.2.2], by rw [HE.out.1]; exact HO5.out, HB5.out⟩
      · rw [(fs_yes hyes).1, (fs_yes hyes).2.1, (fs_yes hyes).2.2] at HFi
        have HYes := hid hyes
        have HQL := hid hql
        have HPQ := hid (fst_ok hyes).1
        clear hyes hqe hql
        go_wp2_with fail
        refine HFi.out.mono ?_
        rintro e w3 ⟨rfl, b3⟩
        have HB3 := hid ((HB.out.trans (b3.mono hsz)).alloc (by have := (HB.out.trans (b3.mono hsz)).size; exact this) (.cells #[.int .i64 p, .int .i64 q] 50))
        have HI3 : Hid (Ints (w3.alloc (.cells #[.int .i64 p, .int .i64 q] 50)) wr.heap.size (.slice ao l0 cap) y) := hid (ints_al (HI.out.chg (Chg.ofBelow b3) (.inl (Nat.le_refl _))) _)
        have hsz3 : wr.heap.size ≤ (w3.alloc (.cells #[.int .i64 p, .int .i64 q] 50)).heap.size := by have := b3.size; simp; omega
        clear b3
        go_wp2_with fail
        generalize w3.alloc (.cells #[.int .i64 p, .int .i64 q] 50) = w4 at *
        refine (specRd y p q (.slice ao l0 cap) wr.heap.size w4 HI3.out hsz3 HPQ.out HQL.out (by have := HY4.out; omega) HLet.out HCk.out).mono ?_
        rintro e w5 ⟨v5, rfl, o5, b5⟩
        have HO5 := hid o5
        have HB5 := hid (HB3.out.trans (b5.mono HB3.out.size))
        have HLen := hid (hred_len y p q HPQ.out HQL.out)
        obtain ⟨ao5, cp5, hv5⟩ := br.own_val HO5.out
        obtain ⟨l, hl⟩ : ∃ l, l = (hred y p q).length := ⟨_, rfl⟩
        rw [← hl] at hv5 HLen
        have HLl := hid hl
        have hl12 : l ≤ 12000 := by have := HLen.out; have := HY4.out; omega
        subst hv5
        have hgn : s + gk = n := HSG.out
        clear o5 b5 hl
        cases gk with
        | zero =>
          have HE := hid (HFn.out (by rw [← HFo.out]; exact form_zero _ _ p q HYes.out))
          have hs5 : s ≤ 5000 := by omega
          have c1 : (n : Int) < (s : Int) + 1 := by omega
          clear hgn
          go_wp2
          refine bodyPost_ret (v := .tuple #[.slice none 0 0, .int .i64 0, .int .i64 5]) (by simp [results, Try.results89, go_sem]) rfl ⟨_, by rw [HE.out.2.1, HE.out.2.2], by rw [HE.out.1]; exact Own.nil _ _, HB5.out⟩
        | succ g =>
          have c1 : ¬ (n : Int) < (s : Int) + 1 := by omega
          have hs5 : s ≤ 5000 := by omega
          clear hgn
          by_cases hlong : 4000 < l
          · have HE := hid (HFn.out (by rw [← HFo.out]; exact form_long _ _ _ p q HYes.out (by rw [← HLl.out]; exact hlong)))
            have b1 : (4000 : Int) < (l : Int) := by omega
            go_wp2
            refine bodyPost_ret (v := .tuple #[.slice none 0 0, .int .i64 0, .int .i64 5]) (by simp [results, Try.results89, go_sem]) rfl ⟨_, by rw [HE.out.2.1, HE.out.2.2], by rw [HE.out.1]; exact Own.nil _ _, HB5.out⟩
          · have HE := hid (form_step g y s p q HYes.out (by rw [← HLl.out]; exact hlong))
            have b1 : ¬ (4000 : Int) < (l : Int) := by omega
            go_wp2
            go_roundg g
            case measure => omega
            case rel => exact ⟨s + 1, hred y p q, by have := HSG.out; omega, by go_num, HO5.out.ints, nilok_own HO5.out, capok_own HO5.out, by rw [← HLl.out]; omega, HLet.out.hred p q (by have := HPQ.out; have := HQL.out; omega), by rw [← HFo.out, HE.out]; simp, HB5.out⟩
end Go.Proofs.Ytedajefapddekaa.hl
