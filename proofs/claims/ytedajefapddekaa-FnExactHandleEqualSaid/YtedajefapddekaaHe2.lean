/-
  HandleEqual and CompareBraids of both sides.
-/
import Derived.Test.YtedajefapddekaaHe1
import Derived.Test.YtedajefapddekaaJo
namespace Go.Proofs.Ytedajefapddekaa.hl
open Go.RowKit Go.Proofs.Ytedajefapddekaa.sl Go.Proofs.Ytedajefapddekaa.br Go.Proofs.Ytedajefapddekaa.bw Go.Proofs.Ytedajefapddekaa.fn
set_option linter.unusedVariables false

def bwL (a b : Int) (xs ys : List Int) : List Int := if jnP a b xs ys = 0 then beL xs ys else []
theorem bw_yes {a b : Int} {xs ys : List Int} (h : jnP a b xs ys = 0) : bwL a b xs ys = beL xs ys := by unfold bwL; rw [if_pos h]
theorem bw_no {a b : Int} {xs ys : List Int} (h : ¬ jnP a b xs ys = 0) : bwL a b xs ys = [] := by unfold bwL; rw [if_neg h]
theorem jn_a {a b : Int} {xs ys : List Int} (h : okB a xs = false) : jnP a b xs ys = 1 := by unfold jnP; rw [h]; rfl
theorem jn_b {a b : Int} {xs ys : List Int} (h : okB a xs = true) (h2 : okB b ys = false) : jnP a b xs ys = 1 := by unfold jnP; rw [h, h2]; rfl
theorem jn_s {a b : Int} {xs ys : List Int} (h : okB a xs = true) (h2 : okB b ys = true) (h3 : ¬ a = b) : jnP a b xs ys = 6 := by unfold jnP; rw [h, h2]; simp [h3]
theorem jn_0 {a b : Int} {xs ys : List Int} (h : okB a xs = true) (h2 : okB b ys = true) (h3 : a = b) : jnP a b xs ys = 0 := by unfold jnP; rw [h, h2]; simp [h3]

set_option maxRecDepth 100000 in
set_option maxHeartbeats 4000000 in
theorem specBe (a b : Int) (xs ys : List Int) (v u : Value) (B C ga gb : Nat) (w : World) (ha : Ints w B v xs) (hB : B ≤ w.heap.size) (hb : Ints w C u ys) (hC : C ≤ w.heap.size) (nu : NilOk u) (hn : xs.length ≤ 1099511627776) (hm : ys.length ≤ 1099511627776)
    (d0 : w.cell? ⟨ga, 0, none⟩ = some (.int .i64 a)) (d1 : w.cell? ⟨ga, 1, none⟩ = some v) (e0 : w.cell? ⟨gb, 0, none⟩ = some (.int .i64 b)) (e1 : w.cell? ⟨gb, 1, none⟩ = some u) (la : ga < w.heap.size) (lb : gb < w.heap.size) :
    Calls Try.prog 91 #[.pointer (some ⟨ga, 0, none⟩), .pointer (some ⟨gb, 0, none⟩)] w fun e w' => ∃ v', e = .returned (.tuple #[v', .int .i64 (jnP a b xs ys)]) ∧ Own w' w.heap.size w'.heap.size v' (bwL a b xs ys) ∧ Below w.heap.size w w' := by
  obtain ⟨ao, cap, hv⟩ := ints_val ha
  obtain ⟨bo, dap, hu⟩ := ints_val hb
  subst hv
  subst hu
  have HX := hid ha
  have HY := hid hb
  have HNu := hid nu
  clear ha hb nu
  have HV := hid (specOkP a xs (.slice ao xs.length cap) B ga w HX.out hn d0 d1)
  cases h : okB a xs
  · have HW := hid (And.intro (jn_a (b := b) (ys := ys) h) (bw_no (a := a) (b := b) (xs := xs) (ys := ys) (by rw [jn_a h]; decide)))
    rw [h] at HV
    clear h
    go_enter Try.func91, Try.ntmps91
    go_wp2_with fail
    refine HV.out.mono ?_
    rintro e w1 ⟨rfl, q, hw1⟩
    have HB1 : Hid (Below w.heap.size w w1) := hid (by rw [hw1]; exact bdrewN (Below.refl _ _) q)
    clear hw1
    go_wp2
    go_ret2
    exact ⟨_, by rw [HW.out.1]; rfl, by rw [HW.out.2]; exact Own.nil _ _, HB1.out⟩
  · rw [h] at HV
    have HVb := hid (fun q => specOkP b ys (.slice bo ys.length dap) C gb (w.drewN q) (HY.out.chg (Chg.ofBelow (lo := 0) (bdrewN (Below.refl w.heap.size w) q)) (.inr (Nat.zero_le _))) hm e0 e1)
    cases h2 : okB b ys
    · have HW := hid (And.intro (jn_b h h2) (bw_no (a := a) (b := b) (xs := xs) (ys := ys) (by rw [jn_b h h2]; decide)))
      rw [h2] at HVb
      clear h h2
      go_enter Try.func91, Try.ntmps91
      go_wp2_with fail
      refine HV.out.mono ?_
      rintro e w1 ⟨rfl, q, hw1⟩
      have HVc := hid (HVb.out q)
      rw [← hw1] at HVc
      have HB1 : Hid (Below w.heap.size w w1) := hid (by rw [hw1]; exact bdrewN (Below.refl _ _) q)
      clear hw1
      go_wp2_with fail
      refine HVc.out.mono ?_
      rintro e w2 ⟨rfl, q2, hw2⟩
      have HB2 : Hid (Below w.heap.size w w2) := hid (by rw [hw2]; exact bdrewN HB1.out q2)
      clear hw2
      go_wp2
      go_ret2
      exact ⟨_, by rw [HW.out.1]; rfl, by rw [HW.out.2]; exact Own.nil _ _, HB2.out⟩
    · rw [h2] at HVb
      by_cases h3 : a = b
      · subst h3
        have HW := hid (And.intro (jn_0 h h2 rfl) (bw_yes (a := a) (b := a) (xs := xs) (ys := ys) (jn_0 h h2 rfl)))
        have hl1 : xs.length ≤ 40 := (ok_parts h).2.2.1
        have hl2 : ys.length ≤ 40 := (ok_parts h2).2.2.1
        have HS1 := hid (ok_small h)
        clear h h2
        go_enter Try.func91, Try.ntmps91
        go_wp2_with fail
        refine HV.out.mono ?_
        rintro e w1 ⟨rfl, q, hw1⟩
        have HVc := hid (HVb.out q)
        rw [← hw1] at HVc
        have HB1 : Hid (Below w.heap.size w w1) := hid (by rw [hw1]; exact bdrewN (Below.refl _ _) q)
        clear hw1
        go_wp2_with fail
        refine HVc.out.mono ?_
        rintro e w2 ⟨rfl, q2, hw2⟩
        have HB2 : Hid (Below w.heap.size w w2) := hid (by rw [hw2]; exact bdrewN HB1.out q2)
        clear hw2
        have d0b := (HB2.out.cell (p := ⟨ga, 0, none⟩) la).trans d0
        have d1b := (HB2.out.cell (p := ⟨ga, 1, none⟩) la).trans d1
        have e0b := (HB2.out.cell (p := ⟨gb, 0, none⟩) lb).trans e0
        have e1b := (HB2.out.cell (p := ⟨gb, 1, none⟩) lb).trans e1
        have hs2 := HB2.out.size
        clear d0 d1 e0 e1 HVc HVb HV
        go_wp2
        go_region
        generalize hw3 : w2.drew = w3
        have HB3 : Hid (Below w.heap.size w w3) := hid (by rw [← hw3]; exact HB2.out.drew)
        have hs3 : w.heap.size ≤ w3.heap.size := by rw [← hw3]; exact hs2
        have d1c : w3.cell? ⟨ga, 1, none⟩ = some (.slice ao xs.length cap) := by rw [← hw3]; exact d1b
        have e1c : w3.cell? ⟨gb, 1, none⟩ = some (.slice bo ys.length dap) := by rw [← hw3]; exact e1b
        clear hw3 d0b d1b e0b e1b
        have HXd : Hid (Ints w3.drew B (.slice ao xs.length cap) xs) := hid (HX.out.chg (Chg.ofBelow (lo := 0) HB3.out.drew) (.inr (Nat.zero_le _)))
        have HYd : Hid (Ints w3.drew C (.slice bo ys.length dap) ys) := hid (HY.out.chg (Chg.ofBelow (lo := 0) HB3.out.drew) (.inr (Nat.zero_le _)))
        have HBd : Hid (Below w.heap.size w w3.drew) := hid HB3.out.drew
        clear HX HY
        go_wp2_with fail
        go_region_law (first
          | (refine step_appendAll rfl _ _ rfl w3.heap.size w4.heap.size _ (xs.reverse.map fun x => -x) HO4.out rfl _ ys C HY4.out HNu.out rfl (by omega) (by simp; omega) ?_; intro v5 w5 o5 c5; have HO5 := hid (o5.lo (lo' := w.heap.size) (by omega)); have HB5 := hid (HB4.out.trans (c5.below (B := w.heap.size) (by omega) (by omega))); clear o5 c5)
          | (go_wp2_with (go_at_call 120; refine (specInverse xs _ B w3.drew HXd.out (by show B ≤ w3.heap.size; omega) hn HS1.out).mono ?_; rintro e w4 ⟨v4, rfl, o4, b4⟩; have HO4 : Hid (Own w4 w3.heap.size w4.heap.size v4 (xs.reverse.map fun x => -x)) := hid o4; have hz4 : w3.heap.size ≤ w4.heap.size := b4.size; have HY4 := hid (HYd.out.chg (Chg.ofBelow (lo := 0) b4) (.inr (Nat.zero_le _))); have HB4 := hid (HBd.out.trans (b4.mono (by show w.heap.size ≤ w3.heap.size; omega))); have e1d := (b4.cell (p := ⟨gb, 1, none⟩) (by show gb < w3.heap.size; omega)).trans e1c; have d1d := (b4.cell (p := ⟨ga, 1, none⟩) (by show ga < w3.heap.size; omega)).trans d1c; clear o4 b4)))
        all_goals (try go_wp2)
        all_goals go_ret2
        all_goals exact ⟨v5, by rw [HW.out.1]; rfl, by rw [HW.out.2]; exact HO5.out, HB5.out⟩
      · have HW := hid (And.intro (jn_s h h2 h3) (bw_no (a := a) (b := b) (xs := xs) (ys := ys) (by rw [jn_s h h2 h3]; decide)))
        clear h h2
        have hab : (a == b) = false := by simpa using h3
        go_enter Try.func91, Try.ntmps91
        go_wp2_with fail
        refine HV.out.mono ?_
        rintro e w1 ⟨rfl, q, hw1⟩
        have HVc := hid (HVb.out q)
        rw [← hw1] at HVc
        have HB1 : Hid (Below w.heap.size w w1) := hid (by rw [hw1]; exact bdrewN (Below.refl _ _) q)
        clear hw1
        go_wp2_with fail
        refine HVc.out.mono ?_
        rintro e w2 ⟨rfl, q2, hw2⟩
        have HB2 : Hid (Below w.heap.size w w2) := hid (by rw [hw2]; exact bdrewN HB1.out q2)
        clear hw2
        have d0b := (HB2.out.cell (p := ⟨ga, 0, none⟩) la).trans d0
        have e0b := (HB2.out.cell (p := ⟨gb, 0, none⟩) lb).trans e0
        clear d0 d1 e0 e1 HVc HVb HV
        go_wp2
        go_region
        go_wp2
        go_ret2
        exact ⟨_, by rw [HW.out.1]; rfl, by rw [HW.out.2]; exact Own.nil _ _, HB2.out.drew⟩

theorem implHE (a b d : Int) (xs ys : List Int) (v u : Value) (B C : Nat) (w : World) (ha : Ints w B v xs) (hB : B ≤ w.heap.size) (hb : Ints w C u ys) (hC : C ≤ w.heap.size) (nv : SOk v) (nu : SOk u) (hn : xs.length ≤ 1099511627776) (hm : ys.length ≤ 1099511627776) :
    Calls Try.prog 48 #[.agg #[.int .i64 a, v], .agg #[.int .i64 b, u], .int .i64 d] w fun e w' => e = .returned (.tuple #[.bool (heB a b d xs ys), .int .i64 (fbC a b d xs ys)]) ∧ Below w.heap.size w w' := by
  obtain ⟨ao, cap, hv⟩ := ints_val ha
  obtain ⟨bo, dap, hu⟩ := ints_val hb
  subst hv
  subst hu
  have HX := hid ha
  have HY := hid hb
  have HNu := hid nu
  clear ha hb nu nv
  have HP := hid (implFB a b d xs ys (.slice ao xs.length cap) (.slice bo ys.length dap) B C ((w.alloc (.cells #[.int .i64 a, .slice ao xs.length cap] 39)).alloc (.cells #[.int .i64 b, .slice bo ys.length dap] 39)) (ints_al (ints_al HX.out _) _) (by simp; omega) (ints_al (ints_al HY.out _) _) (by simp; omega) HNu.out.1 hn hm)
  have HLt := hid (fb_let a b d xs ys)
  have HT : Hid (heB a b d xs ys = (decide (fbC a b d xs ys = 0) && decide ((fbL a b d xs ys).length = 0))) := hid rfl
  rw [HT.out]
  clear HT
  generalize fbC a b d xs ys = f2 at *
  generalize fbL a b d xs ys = f3 at *
  obtain ⟨l3, hl3⟩ : ∃ l3, l3 = f3.length := ⟨_, rfl⟩
  rw [← hl3]
  have HL3 := hid hl3
  clear hl3
  by_cases c1 : f2 = 0
  · have g1 : (f2 == 0) = true := by simp [c1]
    by_cases c2 : l3 = 0
    · have g2 : decide (l3 = 0) = true := by simp [c2]
      have g3 : ((l3 : Int) == 0) = true := by simp [c2]
      rw [decide_eq_true c1, g2]
      clear c1 c2 g2
      go_enter Try.func48, Try.ntmps48
      go_wp2_with fail
      refine HP.out.mono ?_
      rintro e w1 ⟨v1, rfl, o1, b1⟩
      have HB1 := hid (box2 b1).2.2.1
      obtain ⟨ao1, cp1, rfl⟩ := br.own_val o1
      rw [← HL3.out]
      clear b1 o1
      go_wp2
      go_ret2
      exact ⟨rfl, HB1.out⟩
    · have g2 : decide (l3 = 0) = false := by simp [c2]
      have g3 : ((l3 : Int) == 0) = false := by simp; omega
      rw [decide_eq_true c1, g2]
      clear c1 c2 g2
      go_enter Try.func48, Try.ntmps48
      go_wp2_with fail
      refine HP.out.mono ?_
      rintro e w1 ⟨v1, rfl, o1, b1⟩
      have HB1 := hid (box2 b1).2.2.1
      obtain ⟨ao1, cp1, rfl⟩ := br.own_val o1
      rw [← HL3.out]
      clear b1 o1
      go_wp2
      go_ret2
      exact ⟨rfl, HB1.out⟩
  · have g1 : (f2 == 0) = false := by simp [c1]
    rw [decide_eq_false c1, Bool.false_and]
    clear c1
    go_enter Try.func48, Try.ntmps48
    go_wp2_with fail
    refine HP.out.mono ?_
    rintro e w1 ⟨v1, rfl, o1, b1⟩
    have HB1 := hid (box2 b1).2.2.1
    obtain ⟨ao1, cp1, rfl⟩ := br.own_val o1
    rw [← HL3.out]
    clear b1 o1
    go_wp2
    go_ret2
    exact ⟨rfl, HB1.out⟩

theorem specHE (a b d : Int) (xs ys : List Int) (v u : Value) (B C : Nat) (w : World) (ha : Ints w B v xs) (hB : B ≤ w.heap.size) (hb : Ints w C u ys) (hC : C ≤ w.heap.size) (nv : SOk v) (nu : SOk u) (hn : xs.length ≤ 1099511627776) (hm : ys.length ≤ 1099511627776) :
    Calls Try.prog 47 #[.agg #[.int .i64 a, v], .agg #[.int .i64 b, u], .int .i64 d] w fun e w' => e = .returned (.tuple #[.bool (heB a b d xs ys), .int .i64 (fbC a b d xs ys)]) ∧ Below w.heap.size w w' := by
  obtain ⟨ao, cap, hv⟩ := ints_val ha
  obtain ⟨bo, dap, hu⟩ := ints_val hb
  subst hv
  subst hu
  have HX := hid ha
  have HY := hid hb
  have HNu := hid nu
  clear ha hb nu nv
  have bA := (((Below.refl w.heap.size w).alloc (Nat.le_refl _) (.cells #[.int .i64 a, .slice ao xs.length cap] 39)).alloc (by simp) (.cells #[.int .i64 b, .slice bo ys.length dap] 39))
  have hbx := box2 (Below.refl _ ((w.alloc (.cells #[.int .i64 a, .slice ao xs.length cap] 39)).alloc (.cells #[.int .i64 b, .slice bo ys.length dap] 39)))
  have HBA := hid bA
  have HP := hid (specBe a b xs ys (.slice ao xs.length cap) (.slice bo ys.length dap) B C w.heap.size (w.heap.size + 1) ((w.alloc (.cells #[.int .i64 a, .slice ao xs.length cap] 39)).alloc (.cells #[.int .i64 b, .slice bo ys.length dap] 39)) (ints_al (ints_al HX.out _) _) (by simp; omega) (ints_al (ints_al HY.out _) _) (by simp; omega) HNu.out.1 hn hm (hbx.1 0) (hbx.1 1) (hbx.2.1 0).1 (hbx.2.1 1).1 (by simp; omega) (by simp))
  clear bA hbx
  by_cases h : jnP a b xs ys = 0
  · obtain ⟨h1, h2, hab⟩ := jnP_ok h
    clear hab
    have hl1 : xs.length ≤ 40 := (ok_parts h1).2.2.1
    have hl2 : ys.length ≤ 40 := (ok_parts h2).2.2.1
    have HLb := hid (beL_let (Let.ofOk h1) (Let.ofOk h2))
    have HLn := hid (beL_len xs ys)
    have HBW := hid (bw_yes h)
    have HFB := hid (fb_yes (d := d) h)
    have HLt := hid (hfL_let d (beL xs ys) HLb.out (by rw [beL_len]; omega))
    rw [h, HBW.out] at HP
    clear h h1 h2
    have HFm : Hid (∀ (W : World) (z : Value) (C : Nat), Ints W C z (beL xs ys) → C ≤ W.heap.size → NilOk z → CapOk z → Calls Try.prog 89 #[z, .int .i64 d] W fun e w' => ∃ v', e = .returned (.tuple #[v', .int .i64 (hfS d (beL xs ys)), .int .i64 (hfC d (beL xs ys))]) ∧ Own w' W.heap.size w'.heap.size v' (hfL d (beL xs ys)) ∧ Below W.heap.size W w') := hid (fun W z C i l n1 n2 => formS d (beL xs ys) z C W i l n1 n2 (by rw [HLn.out]; omega) HLb.out)
    have HT : Hid (heB a b d xs ys = (decide (hfC d (beL xs ys) = 0) && decide ((hfL d (beL xs ys)).length = 0))) := hid (by unfold heB; rw [HFB.out.1, HFB.out.2])
    have HFC := hid HFB.out.1
    rw [HT.out, HFC.out]
    clear HT HFC HFB HBW HLt
    generalize hfC d (beL xs ys) = f2 at *
    generalize hfL d (beL xs ys) = f3 at *
    generalize hfS d (beL xs ys) = f1 at *
    obtain ⟨l3, hl3⟩ : ∃ l3, l3 = f3.length := ⟨_, rfl⟩
    rw [← hl3]
    have HL3 := hid hl3
    clear hl3
    by_cases c1 : f2 = 0
    · have g1 : (f2 == 0) = true := by simp [c1]
      by_cases c2 : l3 = 0
      · have g2 : decide (l3 = 0) = true := by simp [c2]
        have g3 : ((l3 : Int) == 0) = true := by simp [c2]
        rw [decide_eq_true c1, g2]
        clear c1 c2 g2
        go_enter Try.func47, Try.ntmps47
        go_wp2_with fail
        refine HP.out.mono ?_
        rintro e w1 ⟨v1, rfl, o1, b1⟩
        have HB1 := hid (HBA.out.trans (b1.mono (by simp; omega)))
        have HO1 := hid o1
        clear b1 o1
        go_wp2_with fail
        refine (HFm.out w1 v1 w1.heap.size HO1.out.ints (Nat.le_refl _) (nilok_own HO1.out) (capok_own HO1.out)).mono ?_
        rintro e w2 ⟨v2, rfl, o2, b2⟩
        have HB2 := hid (HB1.out.trans (b2.mono HB1.out.size))
        obtain ⟨ao1, cp1, rfl⟩ := br.own_val o2
        rw [← HL3.out]
        clear b2 o2
        go_wp2
        go_ret2
        exact ⟨rfl, HB2.out⟩
      · have g2 : decide (l3 = 0) = false := by simp [c2]
        have g3 : ((l3 : Int) == 0) = false := by simp; omega
        rw [decide_eq_true c1, g2]
        clear c1 c2 g2
        go_enter Try.func47, Try.ntmps47
        go_wp2_with fail
        refine HP.out.mono ?_
        rintro e w1 ⟨v1, rfl, o1, b1⟩
        have HB1 := hid (HBA.out.trans (b1.mono (by simp; omega)))
        have HO1 := hid o1
        clear b1 o1
        go_wp2_with fail
        refine (HFm.out w1 v1 w1.heap.size HO1.out.ints (Nat.le_refl _) (nilok_own HO1.out) (capok_own HO1.out)).mono ?_
        rintro e w2 ⟨v2, rfl, o2, b2⟩
        have HB2 := hid (HB1.out.trans (b2.mono HB1.out.size))
        obtain ⟨ao1, cp1, rfl⟩ := br.own_val o2
        rw [← HL3.out]
        clear b2 o2
        go_wp2
        go_ret2
        exact ⟨rfl, HB2.out⟩
    · have g1 : (f2 == 0) = false := by simp [c1]
      rw [decide_eq_false c1, Bool.false_and]
      clear c1
      go_enter Try.func47, Try.ntmps47
      go_wp2_with fail
      refine HP.out.mono ?_
      rintro e w1 ⟨v1, rfl, o1, b1⟩
      have HB1 := hid (HBA.out.trans (b1.mono (by simp; omega)))
      have HO1 := hid o1
      clear b1 o1
      go_wp2_with fail
      refine (HFm.out w1 v1 w1.heap.size HO1.out.ints (Nat.le_refl _) (nilok_own HO1.out) (capok_own HO1.out)).mono ?_
      rintro e w2 ⟨v2, rfl, o2, b2⟩
      have HB2 := hid (HB1.out.trans (b2.mono HB1.out.size))
      obtain ⟨ao1, cp1, rfl⟩ := br.own_val o2
      rw [← HL3.out]
      clear b2 o2
      go_wp2
      go_ret2
      exact ⟨rfl, HB2.out⟩
  · have HBW := hid (bw_no h)
    have HFB := hid (fb_no (d := d) h)
    have HJ : Hid (heB a b d xs ys = false) := hid (by unfold heB; rw [HFB.out.1, decide_eq_false h]; rfl)
    rw [HJ.out, HFB.out.1]
    obtain ⟨j, hj⟩ : ∃ j, j = jnP a b xs ys := ⟨_, rfl⟩
    rw [← hj] at HP h ⊢
    have g1 : (j == 0) = false := by simpa using h
    clear hj h
    go_enter Try.func47, Try.ntmps47
    go_wp2_with fail
    refine HP.out.mono ?_
    rintro e w1 ⟨v1, rfl, o1, b1⟩
    have HB1 := hid (HBA.out.trans (b1.mono (by simp; omega)))
    clear b1 o1
    go_wp2
    go_ret2
    exact ⟨rfl, HB1.out⟩

theorem implCB (a b d : Int) (xs ys : List Int) (v u : Value) (B C : Nat) (w : World) (ha : Ints w B v xs) (hB : B ≤ w.heap.size) (hb : Ints w C u ys) (hC : C ≤ w.heap.size) (nv : SOk v) (nu : SOk u) (hn : xs.length ≤ 1099511627776) (hm : ys.length ≤ 1099511627776) :
    Calls Try.prog 52 #[.agg #[.int .i64 a, v], .agg #[.int .i64 b, u], .int .i64 d] w fun e w' => e = .returned (.tuple #[.int .i64 (cbI a b d xs ys), .int .i64 (fbC a b d xs ys)]) ∧ Below w.heap.size w w' := by
  obtain ⟨ao, cap, hv⟩ := ints_val ha
  obtain ⟨bo, dap, hu⟩ := ints_val hb
  subst hv
  subst hu
  have HX := hid ha
  have HY := hid hb
  have HNu := hid nu
  clear ha hb nu nv
  have HP := hid (implFB a b d xs ys (.slice ao xs.length cap) (.slice bo ys.length dap) B C ((w.alloc (.cells #[.int .i64 a, .slice ao xs.length cap] 39)).alloc (.cells #[.int .i64 b, .slice bo ys.length dap] 39)) (ints_al (ints_al HX.out _) _) (by simp; omega) (ints_al (ints_al HY.out _) _) (by simp; omega) HNu.out.1 hn hm)
  have HLt := hid (fb_let a b d xs ys)
  have HCb : Hid (cbI a b d xs ys = -(sgL (fbL a b d xs ys))) := hid rfl
  have hsg : -1 ≤ sgL (fbL a b d xs ys) ∧ sgL (fbL a b d xs ys) ≤ 1 := by unfold sgL; split <;> (try split) <;> omega
  have e1 : IntKind.i64.wrap (-(sgL (fbL a b d xs ys))) = -(sgL (fbL a b d xs ys)) := IntWalk.i64_in _ (by omega)
  have HSg : Hid (∀ (W : World) (u : Value) (C : Nat), Ints W C u (fbL a b d xs ys) → C ≤ W.heap.size → Calls Try.prog 94 #[u] W fun e w' => e = .returned (.int .i64 (sgL (fbL a b d xs ys))) ∧ Below W.heap.size W w') := hid (fun W u C i l => implSg _ u C W i l HLt.out.2 HLt.out.1)
  generalize sgL (fbL a b d xs ys) = r at *
  generalize fbC a b d xs ys = f2 at *
  generalize fbL a b d xs ys = f3 at *
  go_enter Try.func52, Try.ntmps52
  go_wp2_with fail
  refine HP.out.mono ?_
  rintro e w1 ⟨v1, rfl, o1, b1⟩
  have HB1 := hid (box2 b1).2.2.1
  have HI1 := hid o1.ints
  clear b1 o1
  go_wp2_with fail
  refine (HSg.out w1 v1 _ HI1.out (Nat.le_refl _)).mono ?_
  rintro e w2 ⟨rfl, b2⟩
  have HB2 := hid (HB1.out.trans (b2.mono HB1.out.size))
  clear b2
  go_wp2
  go_ret2
  exact ⟨by rw [HCb.out]; rfl, HB2.out⟩

theorem specCB (a b d : Int) (xs ys : List Int) (v u : Value) (B C : Nat) (w : World) (ha : Ints w B v xs) (hB : B ≤ w.heap.size) (hb : Ints w C u ys) (hC : C ≤ w.heap.size) (nv : SOk v) (nu : SOk u) (hn : xs.length ≤ 1099511627776) (hm : ys.length ≤ 1099511627776) :
    Calls Try.prog 51 #[.agg #[.int .i64 a, v], .agg #[.int .i64 b, u], .int .i64 d] w fun e w' => e = .returned (.tuple #[.int .i64 (cbI a b d xs ys), .int .i64 (fbC a b d xs ys)]) ∧ Below w.heap.size w w' := by
  obtain ⟨ao, cap, hv⟩ := ints_val ha
  obtain ⟨bo, dap, hu⟩ := ints_val hb
  subst hv
  subst hu
  have HX := hid ha
  have HY := hid hb
  have HNu := hid nu
  clear ha hb nu nv
  have bA := (((Below.refl w.heap.size w).alloc (Nat.le_refl _) (.cells #[.int .i64 a, .slice ao xs.length cap] 39)).alloc (by simp) (.cells #[.int .i64 b, .slice bo ys.length dap] 39))
  have hbx := box2 (Below.refl _ ((w.alloc (.cells #[.int .i64 a, .slice ao xs.length cap] 39)).alloc (.cells #[.int .i64 b, .slice bo ys.length dap] 39)))
  have HBA := hid bA
  have HP := hid (specBe a b xs ys (.slice ao xs.length cap) (.slice bo ys.length dap) B C w.heap.size (w.heap.size + 1) ((w.alloc (.cells #[.int .i64 a, .slice ao xs.length cap] 39)).alloc (.cells #[.int .i64 b, .slice bo ys.length dap] 39)) (ints_al (ints_al HX.out _) _) (by simp; omega) (ints_al (ints_al HY.out _) _) (by simp; omega) HNu.out.1 hn hm (hbx.1 0) (hbx.1 1) (hbx.2.1 0).1 (hbx.2.1 1).1 (by simp; omega) (by simp))
  clear bA hbx
  by_cases h : jnP a b xs ys = 0
  · obtain ⟨h1, h2, hab⟩ := jnP_ok h
    clear hab
    have hl1 : xs.length ≤ 40 := (ok_parts h1).2.2.1
    have hl2 : ys.length ≤ 40 := (ok_parts h2).2.2.1
    have HLb := hid (beL_let (Let.ofOk h1) (Let.ofOk h2))
    have HLn := hid (beL_len xs ys)
    have HBW := hid (bw_yes h)
    have HFB := hid (fb_yes (d := d) h)
    have HLt := hid (hfL_let d (beL xs ys) HLb.out (by rw [beL_len]; omega))
    rw [h, HBW.out] at HP
    clear h h1 h2
    have HFm : Hid (∀ (W : World) (z : Value) (C : Nat), Ints W C z (beL xs ys) → C ≤ W.heap.size → NilOk z → CapOk z → Calls Try.prog 89 #[z, .int .i64 d] W fun e w' => ∃ v', e = .returned (.tuple #[v', .int .i64 (hfS d (beL xs ys)), .int .i64 (hfC d (beL xs ys))]) ∧ Own w' W.heap.size w'.heap.size v' (hfL d (beL xs ys)) ∧ Below W.heap.size W w') := hid (fun W z C i l n1 n2 => formS d (beL xs ys) z C W i l n1 n2 (by rw [HLn.out]; omega) HLb.out)
    have HCb : Hid (cbI a b d xs ys = -(sgL (hfL d (beL xs ys)))) := hid (by unfold cbI; rw [HFB.out.2])
    have hsg : -1 ≤ sgL (hfL d (beL xs ys)) ∧ sgL (hfL d (beL xs ys)) ≤ 1 := by unfold sgL; split <;> (try split) <;> omega
    have e1 : IntKind.i64.wrap (-(sgL (hfL d (beL xs ys)))) = -(sgL (hfL d (beL xs ys))) := IntWalk.i64_in _ (by omega)
    have HSg : Hid (∀ (W : World) (u : Value) (C : Nat), Ints W C u (hfL d (beL xs ys)) → C ≤ W.heap.size → Calls Try.prog 93 #[u] W fun e w' => e = .returned (.int .i64 (sgL (hfL d (beL xs ys)))) ∧ Below W.heap.size W w') := hid (fun W u C i l => specSg _ u C W i l HLt.out.2 HLt.out.1)
    rw [HCb.out, HFB.out.1]
    clear HCb HFB HBW HLt
    generalize sgL (hfL d (beL xs ys)) = r at *
    generalize hfC d (beL xs ys) = f2 at *
    generalize hfL d (beL xs ys) = f3 at *
    generalize hfS d (beL xs ys) = f1 at *
    go_enter Try.func51, Try.ntmps51
    go_wp2_with fail
    refine HP.out.mono ?_
    rintro e w1 ⟨v1, rfl, o1, b1⟩
    have HB1 := hid (HBA.out.trans (b1.mono (by simp; omega)))
    have HO1 := hid o1
    clear b1 o1
    go_wp2_with fail
    refine (HFm.out w1 v1 w1.heap.size HO1.out.ints (Nat.le_refl _) (nilok_own HO1.out) (capok_own HO1.out)).mono ?_
    rintro e w2 ⟨v2, rfl, o2, b2⟩
    have HB2 := hid (HB1.out.trans (b2.mono HB1.out.size))
    have HI2 := hid o2.ints
    clear b2 o2
    go_wp2_with fail
    refine (HSg.out w2 v2 _ HI2.out (Nat.le_refl _)).mono ?_
    rintro e w3 ⟨rfl, b3⟩
    have HB3 := hid (HB2.out.trans (b3.mono HB2.out.size))
    clear b3
    go_wp2
    go_ret2
    exact ⟨rfl, HB3.out⟩
  · have HFB := hid (fb_no (d := d) h)
    have HJ : Hid (cbI a b d xs ys = 0) := hid (by unfold cbI; rw [HFB.out.2]; rfl)
    rw [HJ.out, HFB.out.1]
    obtain ⟨j, hj⟩ : ∃ j, j = jnP a b xs ys := ⟨_, rfl⟩
    rw [← hj] at HP h ⊢
    have g1 : (j == 0) = false := by simpa using h
    clear hj h
    go_enter Try.func51, Try.ntmps51
    go_wp2_with fail
    refine HP.out.mono ?_
    rintro e w1 ⟨v1, rfl, o1, b1⟩
    have HB1 := hid (HBA.out.trans (b1.mono (by simp; omega)))
    clear b1 o1
    go_wp2
    go_ret2
    exact ⟨rfl, HB1.out⟩
end Go.Proofs.Ytedajefapddekaa.hl
