/-
  In one file: Rh1, Rh2, Rh3, Rhu.
-/
import Derived.Test.YtedajefapddekaaHm3
import Derived.Test.YtedajefapddekaaIhi
import Derived.Test.YtedajefapddekaaH7
import Derived.Test.YtedajefapddekaaL5
import Derived.Deep.CutRange
/- ReduceHandle of both sides. -/
namespace Go.Proofs.Ytedajefapddekaa.hl
open Go.RowKit Go.Proofs.Ytedajefapddekaa.sl Go.Proofs.Ytedajefapddekaa.br Go.Proofs.Ytedajefapddekaa.bw Go.Proofs.Ytedajefapddekaa.fn Go.Proofs.Ytedajefapddekaa.ih
set_option linter.unusedVariables false

def rhL (xs : List Int) (a c : Int) : List Int := hred xs a.toNat c.toNat
def rhOk (s : Int) (xs : List Int) (a c : Int) : Bool := okB s xs && (hdB xs a c && decide ((rhL xs a c).length ≤ 40))
def rhS (s : Int) (xs : List Int) (a c : Int) : Int := if rhOk s xs a c = true then s else 0
def rhW (s : Int) (xs : List Int) (a c : Int) : List Int := if rhOk s xs a c = true then rhL xs a c else []
def rhC (s : Int) (xs : List Int) (a c : Int) : Int := if okB s xs = false then 1 else if hdB xs a c = false then 6 else if (rhL xs a c).length ≤ 40 then 0 else 5
theorem rh_len (s : Int) (xs : List Int) (a c : Int) : (rhW s xs a c).length ≤ 40 := by
  unfold rhW
  split
  · rename_i h
    simp only [rhOk, Bool.and_eq_true, decide_eq_true_eq] at h
    exact h.2.2
  · simp
theorem rh_1 {s : Int} {xs : List Int} {a c : Int} (h : okB s xs = false) : rhS s xs a c = 0 ∧ rhW s xs a c = [] ∧ rhC s xs a c = 1 := by
  unfold rhS rhW rhC rhOk; rw [h]; exact ⟨rfl, rfl, rfl⟩
theorem rh_2 {s : Int} {xs : List Int} {a c : Int} (h : okB s xs = true) (h2 : hdB xs a c = false) : rhS s xs a c = 0 ∧ rhW s xs a c = [] ∧ rhC s xs a c = 6 := by
  unfold rhS rhW rhC rhOk; rw [h, h2]; exact ⟨rfl, rfl, rfl⟩
theorem rh_3 {s : Int} {xs : List Int} {a c : Int} (h : okB s xs = true) (h2 : hdB xs a c = true) (h3 : ¬ (rhL xs a c).length ≤ 40) : rhS s xs a c = 0 ∧ rhW s xs a c = [] ∧ rhC s xs a c = 5 := by
  unfold rhS rhW rhC rhOk; rw [h, h2, decide_eq_false h3, if_neg h3]; exact ⟨rfl, rfl, rfl⟩
theorem rh_4 {s : Int} {xs : List Int} {a c : Int} (h : okB s xs = true) (h2 : hdB xs a c = true) (h3 : (rhL xs a c).length ≤ 40) : rhS s xs a c = s ∧ rhW s xs a c = rhL xs a c ∧ rhC s xs a c = 0 := by
  unfold rhS rhW rhC rhOk; rw [h, h2, decide_eq_true h3, if_pos h3]; exact ⟨rfl, rfl, rfl⟩
theorem hd_nat {xs : List Int} {a c : Int} (h : hdB xs a c = true) : ∃ p q : Nat, a = p ∧ c = q ∧ p < q ∧ q < xs.length := by
  unfold hdB at h
  simp only [Bool.and_eq_true, decide_eq_true_eq] at h
  exact ⟨a.toNat, c.toNat, by omega, by omega, by omega, by omega⟩
theorem rh_join (s : Int) (xs : List Int) (a c : Int) (h : okB s xs = true) (h2 : hdB xs a c = true) : joinS s [rhL xs a c] = rhS s xs a c ∧ joinW s [rhL xs a c] = rhW s xs a c ∧ joinC s [rhL xs a c] = rhC s xs a c := by
  have hs := (ok_parts h).2.1
  by_cases h3 : (rhL xs a c).length ≤ 40
  · have hj : joinOk s [rhL xs a c] = true := by unfold joinOk; rw [decide_eq_true hs]; simpa using h3
    rw [joinS, joinW, joinC, hj, (rh_4 h h2 h3).1, (rh_4 h h2 h3).2.1, (rh_4 h h2 h3).2.2]; simp
  · have hj : joinOk s [rhL xs a c] = false := by unfold joinOk; rw [decide_eq_true hs]; simpa using h3
    rw [joinS, joinW, joinC, hj, (rh_3 h h2 h3).1, (rh_3 h h2 h3).2.1, (rh_3 h h2 h3).2.2]; simp

/-- The boxes of the braid, the handle and the answer. -/
theorem hbox3 (w : World) (s a c : Int) (f : Value) : ∃ wb, wb = ((w.alloc (.cells #[.int .i64 s, f] 39)).alloc (.cells #[.int .i64 a, .int .i64 c] 50)).alloc (.cells #[.int .i64 0, .slice none 0 0] 39) ∧ wb.heap.size = w.heap.size + 3 ∧ Below w.heap.size w wb ∧ ∀ W, Below (w.heap.size + 3) wb W →
    W.cell? ⟨w.heap.size, 0, none⟩ = some (.int .i64 s) ∧ W.cell? ⟨w.heap.size, 1, none⟩ = some f ∧ W.cell? ⟨w.heap.size + 1, 0, none⟩ = some (.int .i64 a) ∧ W.cell? ⟨w.heap.size + 1, 1, none⟩ = some (.int .i64 c) ∧ W.cell? ⟨w.heap.size + 2, 0, none⟩ = some (.int .i64 0) ∧ W.cell? ⟨w.heap.size + 2, 1, none⟩ = some (.slice none 0 0) ∧ W.frozen? ⟨w.heap.size + 2, 0, none⟩ = false ∧ W.frozen? ⟨w.heap.size + 2, 1, none⟩ = false := by
  refine ⟨_, rfl, by simp, (((Below.refl _ w).alloc (Nat.le_refl _) _).alloc (by simp) _).alloc (by simp; omega) _, fun W b => ?_⟩
  exact ⟨(b.cell (p := ⟨w.heap.size, 0, none⟩) (by simp)).trans (by go_simp), (b.cell (p := ⟨w.heap.size, 1, none⟩) (by simp)).trans (by go_simp), (b.cell (p := ⟨w.heap.size + 1, 0, none⟩) (by simp)).trans (by go_simp), (b.cell (p := ⟨w.heap.size + 1, 1, none⟩) (by simp)).trans (by go_simp), (b.cell (p := ⟨w.heap.size + 2, 0, none⟩) (by simp)).trans (by go_simp), (b.cell (p := ⟨w.heap.size + 2, 1, none⟩) (by simp)).trans (by go_simp), (b.frozen (p := ⟨w.heap.size + 2, 0, none⟩) (by simp)).trans (by go_simp), (b.frozen (p := ⟨w.heap.size + 2, 1, none⟩) (by simp)).trans (by go_simp)⟩

theorem keep4 {w w2 W : World} {a b c d : Value} (h : Below w2.heap.size w2 W) (hl : w.heap.size + 1 < w2.heap.size) (k0 : w2.cell? ⟨w.heap.size, 0, none⟩ = some a) (k1 : w2.cell? ⟨w.heap.size, 1, none⟩ = some b) (l0 : w2.cell? ⟨w.heap.size + 1, 0, none⟩ = some c) (l1 : w2.cell? ⟨w.heap.size + 1, 1, none⟩ = some d) :
    W.cell? ⟨w.heap.size, 0, none⟩ = some a ∧ W.cell? ⟨w.heap.size, 1, none⟩ = some b ∧ W.cell? ⟨w.heap.size + 1, 0, none⟩ = some c ∧ W.cell? ⟨w.heap.size + 1, 1, none⟩ = some d :=
  ⟨(h.cell (p := ⟨w.heap.size, 0, none⟩) (by show w.heap.size < w2.heap.size; omega)).trans k0, (h.cell (p := ⟨w.heap.size, 1, none⟩) (by show w.heap.size < w2.heap.size; omega)).trans k1, (h.cell (p := ⟨w.heap.size + 1, 0, none⟩) (by show w.heap.size + 1 < w2.heap.size; omega)).trans l0, (h.cell (p := ⟨w.heap.size + 1, 1, none⟩) (by show w.heap.size + 1 < w2.heap.size; omega)).trans l1⟩

/-- The answer in a box of its own, at g. -/
structure Rbx (w2 : World) (s : Int) (y : List Int) (g : Nat) (v : Value) (X : World) : Prop where
  c0 : X.cell? ⟨g, 0, none⟩ = some (.int .i64 s)
  c1 : X.cell? ⟨g, 1, none⟩ = some v
  own : sl.Own X w2.heap.size X.heap.size v y
  bel : Below w2.heap.size w2 X
theorem rbxA {w2 w3 : World} {s : Int} {y : List Int} {v : Value} (o : sl.Own w3 w2.heap.size w3.heap.size v y) (b : Below w2.heap.size w2 w3) (T : TypeId) : Rbx w2 s y w3.heap.size v (w3.alloc (.cells #[.int .i64 s, v] T)) :=
  ⟨World.cell?_alloc_at _ _ _ _ rfl, World.cell?_alloc_at _ _ _ _ rfl, (o.chg (Chg.ofBelow (lo := 0) ((Below.refl w3.heap.size w3).alloc (Nat.le_refl _) _)) (.inr (.inr (Nat.zero_le _)))).hi (by simp) (Nat.le_refl _), b.alloc b.size _⟩
theorem rbxB {w2 w3 : World} {s : Int} {y : List Int} {v x0 x1 : Value} (o : sl.Own w3 (w2.heap.size + 1) w3.heap.size v y) (b : Below w2.heap.size w2 w3) (c0 : w3.cell? ⟨w2.heap.size, 0, none⟩ = some x0) (c1 : w3.cell? ⟨w2.heap.size, 1, none⟩ = some x1) : Rbx w2 s y w2.heap.size v ((w3.setCell ⟨w2.heap.size, 0, none⟩ (.int .i64 s)).setCell ⟨w2.heap.size, 1, none⟩ v) :=
  ⟨(World.cell?_setCell_other _ _ _ _ (by simp)).trans (World.cell?_setCell_same _ _ _ c0), World.cell?_setCell_same _ _ _ ((World.cell?_setCell_other _ _ _ _ (by simp)).trans c1), ((own_other (own_other o w2.heap.size 0 _ (.inl (Nat.lt_succ_self _))) w2.heap.size 1 _ (.inl (Nat.lt_succ_self _))).lo (Nat.le_succ _)).hi (by simp) (Nat.le_refl _), (b.setCell (Nat.le_refl _) _).setCell (Nat.le_refl _) _⟩

set_option maxRecDepth 100000 in
set_option maxHeartbeats 4000000 in
theorem specRh (s : Int) (xs : List Int) (a c : Int) (v : Value) (B : Nat) (w : World) (ha : Ints w B v xs) (hB : B ≤ w.heap.size) (hn : xs.length ≤ 1099511627776) (hf : CapOk v) :
    Calls Try.prog 40 #[.agg #[.int .i64 s, v], .agg #[.int .i64 a, .int .i64 c]] w fun e w' => ∃ ao cap, e = .returned (.tuple #[.agg #[.int .i64 (rhS s xs a c), .slice ao (rhW s xs a c).length cap], .int .i64 (rhC s xs a c)]) ∧ sl.Own w' w.heap.size w'.heap.size (.slice ao (rhW s xs a c).length cap) (rhW s xs a c) ∧ Below w.heap.size w w' := by
  obtain ⟨ao, cap, hv⟩ := ints_val ha
  obtain ⟨wb, hwb, hzb, hbb, hcl⟩ := hbox3 w s a c v
  subst hv
  obtain ⟨n, hnn⟩ : ∃ n, n = xs.length := ⟨_, rfl⟩
  rw [← hnn] at ha hn hwb hcl hf ⊢
  have HN := hid hnn
  have HA := hid (ha.chg (Chg.ofBelow (lo := 0) hbb) (.inr (Nat.zero_le _)))
  have HF := hid hf
  clear hnn ha hf
  have c0 := (hcl wb (Below.refl _ _)).1
  have c1 := (hcl wb (Below.refl _ _)).2.1
  have HV := hid (specOkP s xs (.slice ao n cap) B w.heap.size wb HA.out (by rw [← HN.out]; exact hn) c0 c1)
  have HBb := hid hbb
  clear hbb c0 c1
  cases h : okB s xs
  · have HW := hid (rh_1 (a := a) (c := c) h)
    rw [HW.out.1, HW.out.2.1, HW.out.2.2, List.length_nil]
    rw [h] at HV
    clear h HA
    go_enter Try.func40, Try.ntmps40
    go_wp2_with fail
    rw [← hwb]
    refine HV.out.mono ?_
    rintro e w1 ⟨rfl, q, hw1⟩
    have hb1 : Below wb.heap.size wb w1 := by rw [hw1]; exact bdrewN (Below.refl _ _) q
    obtain ⟨_, _, _, _, r0, r1, f0, f1⟩ := hcl w1 (hzb ▸ hb1)
    have HB1 := hid (HBb.out.trans (hb1.mono HBb.out.size))
    clear hw1 hb1 hcl hwb HV
    go_wp2
    refine bodyPost_ret (v := .tuple #[.agg #[.int .i64 0, .slice none 0 0], .int .i64 1]) (by simp [results, Try.results40, go_sem, r0, r1]) rfl ⟨none, 0, rfl, Own.nil _ _, ?_⟩
    exact (HB1.out.setCell (by simp; try omega) _).setCell (by simp; try omega) _
  · have hl : n ≤ 40 := by rw [HN.out]; exact (ok_parts h).2.2.1
    have HLt := hid (Let.ofOk h)
    have HSm := hid (ih.ok_small h)
    rw [h] at HV
    have HOk := hid h
    clear h
    go_enter Try.func40, Try.ntmps40
    go_wp2_with fail
    rw [← hwb]
    refine HV.out.mono ?_
    rintro e w1 ⟨rfl, q, hw1⟩
    have hb1 : Below wb.heap.size wb w1 := by rw [hw1]; exact bdrewN (Below.refl _ _) q
    have HI1 := hid (HA.out.chg (Chg.ofBelow (lo := 0) hb1) (.inr (Nat.zero_le _)))
    obtain ⟨k0, k1, l0, l1, r0, r1, f0, f1⟩ := hcl w1 (hzb ▸ hb1)
    have HCl := hid hcl
    have HWb1 := hid hb1
    have hz1 := hb1.size
    have HIs := hid (specIs xs a c (.slice ao n cap) B w1 HI1.out (by omega) (by rw [← HN.out]; exact hn) HSm.out)
    clear hw1 hb1 hcl hwb HV HA
    cases h2 : hdB xs a c
    · rw [h2] at HIs
      have HW := hid (rh_2 HOk.out h2)
      clear h2
      go_wp2_with fail
      refine HIs.out.mono ?_
      rintro e w2 ⟨rfl, b2⟩
      have hb2 := HWb1.out.trans (b2.mono HWb1.out.size)
      obtain ⟨_, _, _, _, r0, r1, f0, f1⟩ := HCl.out w2 (hzb ▸ hb2)
      have HB2 := hid (HBb.out.trans (hb2.mono HBb.out.size))
      clear hb2 b2 HCl HIs HWb1
      go_wp2
      refine bodyPost_ret (v := .tuple #[.agg #[.int .i64 0, .slice none 0 0], .int .i64 6]) (by simp [results, Try.results40, go_sem, r0, r1]) rfl ⟨none, 0, by rw [HW.out.1, HW.out.2.1, HW.out.2.2]; rfl, by rw [HW.out.2.1]; exact Own.nil _ _, ?_⟩
      exact (HB2.out.setCell (by simp; try omega) _).setCell (by simp; try omega) _
    · rw [h2] at HIs
      obtain ⟨p, q, rfl, rfl, hpq, hq⟩ := hd_nat h2
      have HJ : Hid (rhL xs p q = hred xs p q) := hid (by unfold rhL; rfl)
      have HPQ := hid (And.intro hpq hq)
      have HH2 := hid h2
      clear h2 hpq hq
      go_wp2_with fail
      refine HIs.out.mono ?_
      rintro e w2 ⟨rfl, b2⟩
      have hb2 := HWb1.out.trans (b2.mono HWb1.out.size)
      obtain ⟨k0, k1, l0, l1, r0, r1, f0, f1⟩ := HCl.out w2 (hzb ▸ hb2)
      have HB2 := hid (HBb.out.trans (hb2.mono HBb.out.size))
      have hz2 := b2.size
      have HI2 := hid (HI1.out.chg (Chg.ofBelow (lo := 0) b2) (.inr (Nat.zero_le _)))
      have HWb2 := hid hb2
      clear hb2 b2 HIs HWb1 HI1
      have HRd := hid (fun W (b : Below w2.heap.size w2 W) => specRd xs p q (.slice ao n cap) B W (HI2.out.chg (Chg.ofBelow (lo := 0) b) (.inr (Nat.zero_le _))) (by have := b.size; omega) HPQ.out.1 HPQ.out.2 (by rw [← HN.out]; omega) HLt.out (fun a1 n1 c1 e => HF.out a1 n1 c1 e))
      obtain ⟨y, hy⟩ : ∃ y, y = hred xs p q := ⟨_, rfl⟩
      rw [← hy] at HRd HJ
      obtain ⟨l, hyl⟩ : ∃ l, l = y.length := ⟨_, rfl⟩
      have HYl := hid hyl
      clear hy hyl
      have HRa := hid ((HRd.out (w2.drew.alloc (.cells #[.int .i64 0, .slice none 0 0] 39)) (((Below.refl _ _).drew).alloc (Nat.le_refl _) _)).mono (fun e w3 h => show (∃ ao3 cap3, e = .returned (.slice ao3 l cap3) ∧ sl.Own w3 w2.heap.size w3.heap.size (.slice ao3 l cap3) y ∧ Below w2.heap.size w2 w3 ∧ w3.cell? ⟨w2.heap.size, 0, none⟩ = some (.int .i64 0) ∧ w3.cell? ⟨w2.heap.size, 1, none⟩ = some (.slice none 0 0) ∧ w3.frozen? ⟨w2.heap.size, 0, none⟩ = false ∧ w3.frozen? ⟨w2.heap.size, 1, none⟩ = false ∧ w2.heap.size + 1 ≤ w3.heap.size ∧ sl.Own w3 (w2.heap.size + 1) w3.heap.size (.slice ao3 l cap3) y) from by
        obtain ⟨v3, rfl, o3, b3⟩ := h
        obtain ⟨ao3, cap3, hv3⟩ := br.own_val o3
        rw [← HYl.out] at hv3
        subst hv3
        have o4 : sl.Own w3 (w2.heap.size + 1) w3.heap.size (.slice ao3 l cap3) y := o3.lo (by simp)
        exact ⟨ao3, cap3, rfl, o4.lo (Nat.le_succ _), (((Below.refl _ _).drew).alloc (Nat.le_refl _) _).trans (b3.mono (by simp)), (b3.cell (p := ⟨w2.heap.size, 0, none⟩) (by simp)).trans (World.cell?_alloc_at _ _ _ _ rfl), (b3.cell (p := ⟨w2.heap.size, 1, none⟩) (by simp)).trans (World.cell?_alloc_at _ _ _ _ rfl), (b3.frozen (p := ⟨w2.heap.size, 0, none⟩) (by simp)).trans (World.frozen?_alloc_at _ _ _ _ rfl), (b3.frozen (p := ⟨w2.heap.size, 1, none⟩) (by simp)).trans (World.frozen?_alloc_at _ _ _ _ rfl), by have := b3.size; simpa using this, o4⟩))
      have HRb := hid ((HRd.out w2.drew ((Below.refl _ _).drew)).mono (fun e w3 h => show (∃ ao3 cap3, e = .returned (.slice ao3 l cap3) ∧ sl.Own w3 w2.heap.size w3.heap.size (.slice ao3 l cap3) y ∧ Below w2.heap.size w2 w3) from by
        obtain ⟨v3, rfl, o3, b3⟩ := h
        obtain ⟨ao3, cap3, hv3⟩ := br.own_val o3
        rw [← HYl.out] at hv3
        subst hv3
        exact ⟨ao3, cap3, rfl, o3, ((Below.refl _ _).drew).trans b3⟩))
      clear HRd
      go_wp2_with fail
      go_region_held3 (fun w' => w'.cell? ⟨w.heap.size, 0, none⟩ = some (.int .i64 s) ∧ w'.cell? ⟨w.heap.size, 1, none⟩ = some (.slice ao n cap) ∧ w'.cell? ⟨w.heap.size + 1, 0, none⟩ = some (.int .i64 p) ∧ w'.cell? ⟨w.heap.size + 1, 1, none⟩ = some (.int .i64 q)) (first | go_keep | exact keep4 ((HB3.out.setCell (Nat.le_refl _) _).setCell (Nat.le_refl _) _) (by show w.heap.size + 1 < w2.heap.size; omega) k0 k1 l0 l1 | exact keep4 (((HB3.out.alloc hz3 _).setCell hz3 _).setCell hz3 _) (by show w.heap.size + 1 < w2.heap.size; omega) k0 k1 l0 l1) (first
        | (go_at_call 84
           refine HRa.out.mono ?_
           rintro e w3 ⟨ao3, cap3, rfl, o3, b3, x0, x1, x2, x3, x4, o4⟩
           have hz3 : w2.heap.size ≤ w3.heap.size := b3.size
           have HB3 := hid b3
           have HO3 := hid o3
           have g0 := (HB3.out.cell (p := ⟨w.heap.size, 0, none⟩) (by show w.heap.size < w2.heap.size; omega)).trans k0
           have g1 := (HB3.out.cell (p := ⟨w.heap.size, 1, none⟩) (by show w.heap.size < w2.heap.size; omega)).trans k1
           have g2 := (HB3.out.cell (p := ⟨w.heap.size + 1, 0, none⟩) (by show w.heap.size + 1 < w2.heap.size; omega)).trans l0
           have g3 := (HB3.out.cell (p := ⟨w.heap.size + 1, 1, none⟩) (by show w.heap.size + 1 < w2.heap.size; omega)).trans l1
           have r0 := (HB3.out.cell (p := ⟨w.heap.size + 2, 0, none⟩) (by show w.heap.size + 2 < w2.heap.size; omega)).trans r0
           have r1 := (HB3.out.cell (p := ⟨w.heap.size + 2, 1, none⟩) (by show w.heap.size + 2 < w2.heap.size; omega)).trans r1
           have f0 := (HB3.out.frozen (p := ⟨w.heap.size + 2, 0, none⟩) (by show w.heap.size + 2 < w2.heap.size; omega)).trans f0
           have f1 := (HB3.out.frozen (p := ⟨w.heap.size + 2, 1, none⟩) (by show w.heap.size + 2 < w2.heap.size; omega)).trans f1
           have HO4 := hid o4
           clear o3 b3 o4)
        | (go_at_call 84
           refine HRb.out.mono ?_
           rintro e w3 ⟨ao3, cap3, rfl, o3, b3⟩
           have hz3 : w2.heap.size ≤ w3.heap.size := b3.size
           have HB3 := hid b3
           have HO3 := hid o3
           have g0 := (HB3.out.cell (p := ⟨w.heap.size, 0, none⟩) (by show w.heap.size < w2.heap.size; omega)).trans k0
           have g1 := (HB3.out.cell (p := ⟨w.heap.size, 1, none⟩) (by show w.heap.size < w2.heap.size; omega)).trans k1
           have g2 := (HB3.out.cell (p := ⟨w.heap.size + 1, 0, none⟩) (by show w.heap.size + 1 < w2.heap.size; omega)).trans l0
           have g3 := (HB3.out.cell (p := ⟨w.heap.size + 1, 1, none⟩) (by show w.heap.size + 1 < w2.heap.size; omega)).trans l1
           have r0 := (HB3.out.cell (p := ⟨w.heap.size + 2, 0, none⟩) (by show w.heap.size + 2 < w2.heap.size; omega)).trans r0
           have r1 := (HB3.out.cell (p := ⟨w.heap.size + 2, 1, none⟩) (by show w.heap.size + 2 < w2.heap.size; omega)).trans r1
           have f0 := (HB3.out.frozen (p := ⟨w.heap.size + 2, 0, none⟩) (by show w.heap.size + 2 < w2.heap.size; omega)).trans f0
           have f1 := (HB3.out.frozen (p := ⟨w.heap.size + 2, 1, none⟩) (by show w.heap.size + 2 < w2.heap.size; omega)).trans f1
           clear o3 b3))
      rotate_left 1
      · have HX := hid (rbxB (s := s) HO4.out HB3.out x0 x1)
        clear x0 x1 x2 x3 g0 g1 g2 g3 r0 r1 f0 f1
        obtain ⟨W4, hW4⟩ : ∃ W4, W4 = (w3.setCell ⟨w2.heap.size, 0, none⟩ (.int .i64 s)).setCell ⟨w2.heap.size, 1, none⟩ (.slice ao3 l cap3) := ⟨_, rfl⟩
        rw [← hW4] at HX ⊢
        clear hW4
        obtain ⟨k0, k1, l0, l1, r0, r1, f0, f1⟩ := HCl.out W4 (hzb ▸ HWb2.out.trans (HX.out.bel.mono HWb2.out.size))
        have HBf := hid (HB2.out.trans (HX.out.bel.mono HB2.out.size))
        have y0 := HX.out.c0
        have y1 := HX.out.c1
        by_cases h40 : l ≤ 40
        · have HW := hid (rh_4 HOk.out HH2.out (by rw [HJ.out, ← HYl.out]; exact h40))
          have hd : decide ((40 : Int) < (l : Int)) = false := by simp; omega
          clear h40
          go_wp2
          refine bodyPost_ret (v := .tuple #[.agg #[.int .i64 s, .slice ao3 l cap3], .int .i64 0]) (by simp [results, Try.results40, go_sem, r0, r1]) rfl ⟨ao3, cap3, by rw [HW.out.1, HW.out.2.1, HW.out.2.2, HJ.out, ← HYl.out], ?_, ?_⟩
          · rw [HW.out.2.1, HJ.out, ← HYl.out]
            have h := own_other (own_other HX.out.own (w.heap.size + 2) 0 (.int .i64 s) (by omega)) (w.heap.size + 2) 1 (.slice ao3 l cap3) (by omega)
            have h2 := h.lo (lo' := w.heap.size) (by omega)
            simpa using h2
          · exact (HBf.out.setCell (by simp; try omega) _).setCell (by simp; try omega) _
        · have HW := hid (rh_3 HOk.out HH2.out (by rw [HJ.out, ← HYl.out]; exact h40))
          have hd : decide ((40 : Int) < (l : Int)) = true := by simp; omega
          clear h40
          go_wp2
          refine bodyPost_ret (v := .tuple #[.agg #[.int .i64 0, .slice none 0 0], .int .i64 5]) (by simp [results, Try.results40, go_sem, r0, r1]) rfl ⟨none, 0, by rw [HW.out.1, HW.out.2.1, HW.out.2.2]; rfl, by rw [HW.out.2.1]; exact Own.nil _ _, ?_⟩
          exact (HBf.out.setCell (by simp; try omega) _).setCell (by simp; try omega) _
      · have HX := hid (rbxA (s := s) HO3.out HB3.out 39)
        clear g0 g1 g2 g3 r0 r1 f0 f1
        obtain ⟨W4, hW4⟩ : ∃ W4, W4 = w3.alloc (.cells #[.int .i64 s, .slice ao3 l cap3] 39) := ⟨_, rfl⟩
        rw [← hW4] at HX ⊢
        clear hW4
        obtain ⟨k0, k1, l0, l1, r0, r1, f0, f1⟩ := HCl.out W4 (hzb ▸ HWb2.out.trans (HX.out.bel.mono HWb2.out.size))
        have HBf := hid (HB2.out.trans (HX.out.bel.mono HB2.out.size))
        have y0 := HX.out.c0
        have y1 := HX.out.c1
        by_cases h40 : l ≤ 40
        · have HW := hid (rh_4 HOk.out HH2.out (by rw [HJ.out, ← HYl.out]; exact h40))
          have hd : decide ((40 : Int) < (l : Int)) = false := by simp; omega
          clear h40
          go_wp2
          refine bodyPost_ret (v := .tuple #[.agg #[.int .i64 s, .slice ao3 l cap3], .int .i64 0]) (by simp [results, Try.results40, go_sem, r0, r1]) rfl ⟨ao3, cap3, by rw [HW.out.1, HW.out.2.1, HW.out.2.2, HJ.out, ← HYl.out], ?_, ?_⟩
          · rw [HW.out.2.1, HJ.out, ← HYl.out]
            have h := own_other (own_other HX.out.own (w.heap.size + 2) 0 (.int .i64 s) (by omega)) (w.heap.size + 2) 1 (.slice ao3 l cap3) (by omega)
            have h2 := h.lo (lo' := w.heap.size) (by omega)
            simpa using h2
          · exact (HBf.out.setCell (by simp; try omega) _).setCell (by simp; try omega) _
        · have HW := hid (rh_3 HOk.out HH2.out (by rw [HJ.out, ← HYl.out]; exact h40))
          have hd : decide ((40 : Int) < (l : Int)) = true := by simp; omega
          clear h40
          go_wp2
          refine bodyPost_ret (v := .tuple #[.agg #[.int .i64 0, .slice none 0 0], .int .i64 5]) (by simp [results, Try.results40, go_sem, r0, r1]) rfl ⟨none, 0, by rw [HW.out.1, HW.out.2.1, HW.out.2.2]; rfl, by rw [HW.out.2.1]; exact Own.nil _ _, ?_⟩
          exact (HBf.out.setCell (by simp; try omega) _).setCell (by simp; try omega) _
end Go.Proofs.Ytedajefapddekaa.hl

/- ReduceHandle of the program. -/
namespace Go.Proofs.Ytedajefapddekaa.hl
open Go.RowKit Go.Proofs.Ytedajefapddekaa.sl Go.Proofs.Ytedajefapddekaa.br Go.Proofs.Ytedajefapddekaa.bw Go.Proofs.Ytedajefapddekaa.fn Go.Proofs.Ytedajefapddekaa.ih
set_option linter.unusedVariables false

theorem keep1 {W : World} {n : Nat} {a x y : Value} (h : W.cell? ⟨n, 0, none⟩ = some a) : ((W.setCell ⟨n + 1 + 1, 0, none⟩ x).setCell ⟨n + 1 + 1, 1, none⟩ y).cell? ⟨n, 0, none⟩ = some a :=
  (World.cell?_setCell_other _ _ _ _ (by intro e; injection e with e1; omega)).trans ((World.cell?_setCell_other _ _ _ _ (by intro e; injection e with e1; omega)).trans h)

set_option maxRecDepth 100000 in
set_option maxHeartbeats 4000000 in
theorem implRh (s : Int) (xs : List Int) (a c : Int) (v : Value) (B : Nat) (w : World) (ha : Ints w B v xs) (hB : B ≤ w.heap.size) (hn : xs.length ≤ 1099511627776) (hf : CapOk v) :
    Calls Try.prog 42 #[.agg #[.int .i64 s, v], .agg #[.int .i64 a, .int .i64 c]] w fun e w' => ∃ ao cap, e = .returned (.tuple #[.agg #[.int .i64 (rhS s xs a c), .slice ao (rhW s xs a c).length cap], .int .i64 (rhC s xs a c)]) ∧ sl.Own w' w.heap.size w'.heap.size (.slice ao (rhW s xs a c).length cap) (rhW s xs a c) ∧ Below w.heap.size w w' := by
  obtain ⟨ao, cap, hv⟩ := ints_val ha
  obtain ⟨wb, hwb, hzb, hbb, hcl⟩ := hbox3 w s a c v
  subst hv
  obtain ⟨n, hnn⟩ : ∃ n, n = xs.length := ⟨_, rfl⟩
  rw [← hnn] at ha hn hwb hcl hf ⊢
  have HN := hid hnn
  have HA := hid (ha.chg (Chg.ofBelow (lo := 0) hbb) (.inr (Nat.zero_le _)))
  have HF := hid hf
  clear hnn ha hf
  have HV := hid (implValidB s xs (.slice ao n cap) B wb HA.out (by omega) (by rw [← HN.out]; exact hn))
  have HBb := hid hbb
  clear hbb
  cases h : okB s xs
  · have HW := hid (rh_1 (a := a) (c := c) h)
    rw [HW.out.1, HW.out.2.1, HW.out.2.2, List.length_nil]
    rw [h] at HV
    clear h HA
    go_enter Try.func42, Try.ntmps42
    go_wp2_with fail
    rw [← hwb]
    refine HV.out.mono ?_
    rintro e w1 ⟨rfl, hb1⟩
    obtain ⟨_, _, _, _, r0, r1, f0, f1⟩ := hcl w1 (hzb ▸ hb1)
    have HB1 := hid (HBb.out.trans (hb1.mono HBb.out.size))
    clear hb1 hcl hwb HV
    go_wp2
    refine bodyPost_ret (v := .tuple #[.agg #[.int .i64 0, .slice none 0 0], .int .i64 1]) (by simp [results, Try.results42, go_sem, r0, r1]) rfl ⟨none, 0, rfl, Own.nil _ _, ?_⟩
    exact (HB1.out.setCell (by simp; try omega) _).setCell (by simp; try omega) _
  · have hl : n ≤ 40 := by rw [HN.out]; exact (ok_parts h).2.2.1
    have HLt := hid (Let.ofOk h)
    rw [h] at HV
    have HOk := hid h
    clear h
    go_enter Try.func42, Try.ntmps42
    go_wp2_with fail
    rw [← hwb]
    refine HV.out.mono ?_
    rintro e w1 ⟨rfl, hb1⟩
    have HI1 := hid (HA.out.chg (Chg.ofBelow (lo := 0) hb1) (.inr (Nat.zero_le _)))
    obtain ⟨k0, k1, l0, l1, r0, r1, f0, f1⟩ := hcl w1 (hzb ▸ hb1)
    have HCl := hid hcl
    have HWb1 := hid hb1
    have hz1 := hb1.size
    have HIs := hid (implIsHandle s xs a c (.slice ao n cap) B w1 HI1.out (by omega) (by rw [← HN.out]; exact hn) (fun a1 n1 c1 e => HF.out a1 n1 c1 e))
    clear hb1 hcl hwb HV HA
    rw [ih_yes HOk.out] at HIs
    cases h2 : hdB xs a c
    · rw [h2] at HIs
      have HW := hid (rh_2 HOk.out h2)
      clear h2
      go_wp2_with fail
      refine HIs.out.mono ?_
      rintro e w2 ⟨rfl, b2⟩
      have hb2 := HWb1.out.trans (b2.mono HWb1.out.size)
      obtain ⟨_, _, _, _, r0, r1, f0, f1⟩ := HCl.out w2 (hzb ▸ hb2)
      have HB2 := hid (HBb.out.trans (hb2.mono HBb.out.size))
      clear hb2 b2 HCl HIs HWb1
      go_wp2
      refine bodyPost_ret (v := .tuple #[.agg #[.int .i64 0, .slice none 0 0], .int .i64 6]) (by simp [results, Try.results42, go_sem, r0, r1]) rfl ⟨none, 0, by rw [HW.out.1, HW.out.2.1, HW.out.2.2]; rfl, by rw [HW.out.2.1]; exact Own.nil _ _, ?_⟩
      exact (HB2.out.setCell (by simp; try omega) _).setCell (by simp; try omega) _
    · rw [h2] at HIs
      obtain ⟨p, q, rfl, rfl, hpq, hq⟩ := hd_nat h2
      have HJ : Hid (rhL xs p q = hred xs p q) := hid (by unfold rhL; rfl)
      have HPQ := hid (And.intro hpq hq)
      have HH2 := hid h2
      clear h2 hpq hq
      go_wp2_with fail
      refine HIs.out.mono ?_
      rintro e w2 ⟨rfl, b2⟩
      have hb2 := HWb1.out.trans (b2.mono HWb1.out.size)
      obtain ⟨k0, k1, l0, l1, r0, r1, f0, f1⟩ := HCl.out w2 (hzb ▸ hb2)
      have HB2 := hid (HBb.out.trans (hb2.mono HBb.out.size))
      have hz2 := b2.size
      have HI2 := hid (HI1.out.chg (Chg.ofBelow (lo := 0) b2) (.inr (Nat.zero_le _)))
      have HWb2 := hid hb2
      clear hb2 b2 HIs HWb1 HI1
      have HLk := hid (linkW xs (.slice ao n cap) B w2 HI2.out (by omega) (by rw [← HN.out]; omega))
      go_wp2_with fail
      refine HLk.out.mono ?_
      rintro e w3 ⟨W, Q, rfl, lw, b3⟩
      obtain ⟨k0, k1, l0, l1, r0, r1, f0, f1⟩ := HCl.out w3 (hzb ▸ HWb2.out.trans (b3.mono HWb2.out.size))
      have HB3 := hid (HBb.out.trans ((HWb2.out.trans (b3.mono HWb2.out.size)).mono HBb.out.size))
      have HLW := hid lw
      have hz3 := b3.size
      clear lw b3 HLk
      unfold ptr
      have HAt := hid (fun (i : Nat) (hi : i < xs.length) => atW w2.heap.size W Q xs i hi w3.drew (HLW.out.drewN 1) (by rw [← HN.out]; omega))
      have HRe := hid (redW w2.heap.size W Q xs p q HPQ.out.1 HPQ.out.2 w3.drew (HLW.out.drewN 1) hz3 (by rw [← HN.out]; omega) HLt.out w.heap.size (by show w.heap.size < w3.heap.size; omega) ⟨by have := HLW.out.ownW; omega, fun i hi => by have := HLW.out.lst.own i hi; omega⟩)
      unfold ptr at HAt HRe
      go_wp2_with fail
      go_region_held3 (fun w' => w'.cell? ⟨w.heap.size, 0, none⟩ = some (.int .i64 s) ∧ w'.cell? ⟨w.heap.size + 1, 0, none⟩ = some (.int .i64 p) ∧ w'.cell? ⟨w.heap.size + 1, 1, none⟩ = some (.int .i64 q)) (go_keep) (first
        | (go_at_call 87
           refine (HAt.out _ ?_).mono ?_
           · (have := HPQ.out; omega)
           rintro e w9 ⟨rfl, rfl⟩)
        | (go_at_call 86
           refine HRe.out.mono ?_
           rintro e w4 ⟨Q4, rfl, l4, b4, _, _⟩
           have hz4 : w3.heap.size ≤ w4.heap.size := b4.size
           have b4x : Below w2.heap.size w3 w4 := ((Below.refl _ _).drew).trans b4
           have k0 := (b4x.cell (p := ⟨w.heap.size, 0, none⟩) (by show w.heap.size < w2.heap.size; omega)).trans k0
           have l0 := (b4x.cell (p := ⟨w.heap.size + 1, 0, none⟩) (by show w.heap.size + 1 < w2.heap.size; omega)).trans l0
           have l1 := (b4x.cell (p := ⟨w.heap.size + 1, 1, none⟩) (by show w.heap.size + 1 < w2.heap.size; omega)).trans l1
           have r0 := (b4x.cell (p := ⟨w.heap.size + 2, 0, none⟩) (by show w.heap.size + 2 < w2.heap.size; omega)).trans r0
           have r1 := (b4x.cell (p := ⟨w.heap.size + 2, 1, none⟩) (by show w.heap.size + 2 < w2.heap.size; omega)).trans r1
           have f0 := (b4x.frozen (p := ⟨w.heap.size + 2, 0, none⟩) (by show w.heap.size + 2 < w2.heap.size; omega)).trans f0
           have f1 := (b4x.frozen (p := ⟨w.heap.size + 2, 1, none⟩) (by show w.heap.size + 2 < w2.heap.size; omega)).trans f1
           have HL4 := hid l4
           have HB4 := hid (HB3.out.trans (b4x.mono (by omega)))
           clear l4 b4 b4x))
      obtain ⟨zS, hzS⟩ : ∃ z, z = rhS s xs p q := ⟨_, rfl⟩
      obtain ⟨zC, hzC⟩ : ∃ z, z = rhC s xs p q := ⟨_, rfl⟩
      obtain ⟨zW, hzW⟩ : ∃ z, z = rhW s xs p q := ⟨_, rfl⟩
      have HZ := hid (And.intro hzS (And.intro hzW hzC))
      have HJo := hid (rh_join s xs p q HOk.out HH2.out)
      rw [← hzS, ← hzW, ← hzC, HJ.out] at HJo
      have HLn := hid (hred_len xs p q HPQ.out.1 HPQ.out.2)
      clear hzS hzC hzW
      have HLs := hid (lettersW w2.heap.size W Q4 (hred xs p q) w4.drew (HL4.out.drewN 1) (by have := HLn.out; have := HN.out; omega))
      unfold ptr at HLs
      obtain ⟨y, hy⟩ : ∃ y, y = hred xs p q := ⟨_, rfl⟩
      rw [← hy] at HLs HLn HJo
      obtain ⟨l, hyl⟩ : ∃ l, l = y.length := ⟨_, rfl⟩
      have HYl := hid hyl
      obtain ⟨m, hm⟩ : ∃ m, m = zW.length := ⟨_, rfl⟩
      have HM := hid hm
      have HP := hid (fun (w5 : World) (ao5 : Option Addr) (c5 : Nat) (o5 : sl.Own w5 w2.heap.size w5.heap.size (.slice ao5 l c5) y) (X : World) (b : Below (w5.alloc (.cells #[.slice ao5 l c5] 30)).heap.size (w5.alloc (.cells #[.slice ao5 l c5] 30)) X) => (show Calls Try.prog 74 #[.int .i64 s, .slice (some ⟨w5.heap.size, 0, none⟩) 1 1] X fun e w' => ∃ ao cap, e = .returned (.tuple #[.agg #[.int .i64 zS, .slice ao m cap], .int .i64 zC]) ∧ sl.Own w' X.heap.size w'.heap.size (.slice ao m cap) zW ∧ Below X.heap.size X w' from by
        rw [hyl] at b o5
        have hw := (wds_one (w5.alloc (.cells #[.slice ao5 y.length c5] 30)) w5.heap.size w5.heap.size ao5 c5 y (World.cell?_alloc_at _ _ _ _ rfl) (ints_al o5.ints _) (nilok_own o5)).below b (by simp) (by simp)
        have h := implJoined s [y] w5.heap.size 1 w5.heap.size X hw (by have := b.size; simp at this; omega) (by have := b.size; simp at this; omega) (by simp) (by simp; have := HLn.out; have := HN.out; omega)
        rw [HJo.out.1, HJo.out.2.1, HJo.out.2.2, ← hm] at h
        exact h))
      clear hy hyl hm
      go_wp2_with fail
      go_region_held3 (fun w' => w'.cell? ⟨w.heap.size, 0, none⟩ = some (.int .i64 s)) (first | go_keep | exact keep1 kC) (first
        | (go_at_call 88
           refine HLs.out.mono ?_
           rintro e w5 ⟨v5, rfl, o5, b5⟩
           obtain ⟨ao5, c5, hv5⟩ := br.own_val o5
           rw [← HYl.out] at hv5
           subst hv5
           have hz5 : w4.heap.size ≤ w5.heap.size := b5.size
           have kA : w5.cell? ⟨w.heap.size, 0, none⟩ = some (.int .i64 s) := (b5.cell (p := ⟨w.heap.size, 0, none⟩) (by show w.heap.size < w4.heap.size; omega)).trans k0
           have kB : (w5.alloc (.cells #[.slice ao5 l c5] 30)).cell? ⟨w.heap.size, 0, none⟩ = some (.int .i64 s) := (World.cell?_alloc_past _ _ _ (by show w.heap.size < _; omega)).trans kA
           have s0 := (b5.cell (p := ⟨w.heap.size + 2, 0, none⟩) (by show w.heap.size + 2 < w4.heap.size; omega)).trans r0
           have s1 := (b5.cell (p := ⟨w.heap.size + 2, 1, none⟩) (by show w.heap.size + 2 < w4.heap.size; omega)).trans r1
           have t0 := (b5.frozen (p := ⟨w.heap.size + 2, 0, none⟩) (by show w.heap.size + 2 < w4.heap.size; omega)).trans f0
           have t1 := (b5.frozen (p := ⟨w.heap.size + 2, 1, none⟩) (by show w.heap.size + 2 < w4.heap.size; omega)).trans f1
           have HJ5 := hid (HP.out w5 ao5 c5 (o5.lo (by show w2.heap.size ≤ w4.heap.size; omega)))
           have HB5 : Hid (Below w.heap.size w w5) := hid (HB4.out.trans (((Below.refl _ _).drew.trans b5).mono (by show w.heap.size ≤ w4.heap.size; omega)))
           clear o5 b5 HLs)
        | (go_at_call 74
           refine (HJ5.out _ ?_).mono ?_
           · (first | exact Below.refl _ _ | exact (Below.refl _ _).drew | exact bdrewN (Below.refl _ _) _)
           rintro e w6 ⟨ao6, cap6, rfl, o6, b6⟩
           have b6x : Below w5.heap.size w5 w6 := (((Below.refl _ _).alloc (Nat.le_refl _) _).trans (b6.mono (by simp)))
           have kC := (b6x.cell (p := ⟨w.heap.size, 0, none⟩) (by show w.heap.size < w5.heap.size; omega)).trans kA
           have u0 := (b6x.cell (p := ⟨w.heap.size + 2, 0, none⟩) (by show w.heap.size + 2 < w5.heap.size; omega)).trans s0
           have u1 := (b6x.cell (p := ⟨w.heap.size + 2, 1, none⟩) (by show w.heap.size + 2 < w5.heap.size; omega)).trans s1
           have v0 := (b6x.frozen (p := ⟨w.heap.size + 2, 0, none⟩) (by show w.heap.size + 2 < w5.heap.size; omega)).trans t0
           have v1 := (b6x.frozen (p := ⟨w.heap.size + 2, 1, none⟩) (by show w.heap.size + 2 < w5.heap.size; omega)).trans t1
           have HO6 := hid (o6.lo (lo' := w.heap.size + 3) (by simp; omega))
           have HB6 := hid (HB5.out.trans (b6x.mono (by omega)))
           clear o6 b6 b6x HJ5 s0 s1 t0 t1 kA kB))
      all_goals (try go_wp2)
      all_goals
        refine bodyPost_ret (v := .tuple #[.agg #[.int .i64 zS, .slice ao6 m cap6], .int .i64 zC]) (by simp [results, Try.results42, go_sem, u0, u1]) rfl ⟨ao6, cap6, by rw [← HZ.out.1, ← HZ.out.2.1, ← HZ.out.2.2, ← HM.out], ?_, ?_⟩
        · rw [← HZ.out.2.1, ← HM.out]
          have h := own_other (own_other HO6.out (w.heap.size + 2) 0 (.int .i64 zS) (by omega)) (w.heap.size + 2) 1 (.slice ao6 m cap6) (by omega)
          have h2 := h.lo (lo' := w.heap.size) (by omega)
          simpa using h2
        · exact (HB6.out.setCell (by simp; try omega) _).setCell (by simp; try omega) _
end Go.Proofs.Ytedajefapddekaa.hl

/- ReduceHandle of both sides in the form that the law's walk takes. -/
namespace Go.Proofs.Ytedajefapddekaa.rh5
open Go.RowKit Go.Proofs.Ytedajefapddekaa.sl Go.Proofs.Ytedajefapddekaa.br
theorem specR (s : Int) (xs : List Int) (a c : Int) (v : Value) (B : Nat) (w : World) (ha : l5.IntsC w B v xs) (hB : B ≤ w.heap.size) (hq : l5.Small xs) :
    Calls Try.prog 40 #[.agg #[.int .i64 s, v], .agg #[.int .i64 a, .int .i64 c]] w fun e w' => ∃ ao cap, e = .returned (.tuple #[.agg #[.int .i64 (hl.rhS s xs a c), .slice ao (hl.rhW s xs a c).length cap], .int .i64 (hl.rhC s xs a c)]) ∧ sl.Own w' w.heap.size w'.heap.size (.slice ao (hl.rhW s xs a c).length cap) (hl.rhW s xs a c) ∧ Below w.heap.size w w' :=
  hl.specRh s xs a c v B w ha.ints hB (by have := hq.len; omega) ha.cap
theorem implR (s : Int) (xs : List Int) (a c : Int) (v : Value) (B : Nat) (w : World) (ha : l5.IntsC w B v xs) (hB : B ≤ w.heap.size) (hq : l5.Small xs) :
    Calls Try.prog 42 #[.agg #[.int .i64 s, v], .agg #[.int .i64 a, .int .i64 c]] w fun e w' => ∃ ao cap, e = .returned (.tuple #[.agg #[.int .i64 (hl.rhS s xs a c), .slice ao (hl.rhW s xs a c).length cap], .int .i64 (hl.rhC s xs a c)]) ∧ sl.Own w' w.heap.size w'.heap.size (.slice ao (hl.rhW s xs a c).length cap) (hl.rhW s xs a c) ∧ Below w.heap.size w w' :=
  hl.implRh s xs a c v B w ha.ints hB (by have := hq.len; omega) ha.cap
end Go.Proofs.Ytedajefapddekaa.rh5

/- ReduceHandle: what the walk of its law needs in a region whose order is drawn. -/
namespace Go.Proofs.Ytedajefapddekaa.rh5
open Go.RowKit Go.Proofs.Ytedajefapddekaa.sl
set_option linter.unusedVariables false

/-- What is kept in W since Wn: the boxes of a braid and of a handle, what J says of the word, and all memory. -/
structure Kh (J : World → Prop) (Wn : World) (bm bd : Nat) (a0 : Int) (v0 : Value) (a1 c1 : Int) (W : World) : Prop where
  r0 : W.cell? ⟨bm, 0, none⟩ = some (.int .i64 a0)
  r1 : W.cell? ⟨bm, 1, none⟩ = some v0
  r2 : W.cell? ⟨bd, 0, none⟩ = some (.int .i64 a1)
  r3 : W.cell? ⟨bd, 1, none⟩ = some (.int .i64 c1)
  lm : bm < Wn.heap.size
  ld : bd < Wn.heap.size
  ls : Wn.heap.size ≤ W.heap.size
  j : J W
  js : ∀ X X', J X → Below X.heap.size X X' → J X'
  bl : Below Wn.heap.size Wn W
theorem Kh.below {J : World → Prop} {Wn : World} {bm bd : Nat} {a0 : Int} {v0 : Value} {a1 c1 : Int} {W W' : World} (h : Kh J Wn bm bd a0 v0 a1 c1 W) (b : Below W.heap.size W W') : Kh J Wn bm bd a0 v0 a1 c1 W' :=
  ⟨(b.cell (p := ⟨bm, 0, none⟩) (Nat.lt_of_lt_of_le h.lm h.ls)).trans h.r0, (b.cell (p := ⟨bm, 1, none⟩) (Nat.lt_of_lt_of_le h.lm h.ls)).trans h.r1, (b.cell (p := ⟨bd, 0, none⟩) (Nat.lt_of_lt_of_le h.ld h.ls)).trans h.r2, (b.cell (p := ⟨bd, 1, none⟩) (Nat.lt_of_lt_of_le h.ld h.ls)).trans h.r3, h.lm, h.ld, Nat.le_trans h.ls b.size, h.js _ _ h.j b, h.js, h.bl.trans (b.mono h.ls)⟩
theorem Kh.alloc {J : World → Prop} {Wn : World} {bm bd : Nat} {a0 : Int} {v0 : Value} {a1 c1 : Int} {W : World} (h : Kh J Wn bm bd a0 v0 a1 c1 W) (o : Obj) : Kh J Wn bm bd a0 v0 a1 c1 (W.alloc o) := h.below ((Below.refl _ _).alloc (Nat.le_refl _) o)
theorem Kh.drew {J : World → Prop} {Wn : World} {bm bd : Nat} {a0 : Int} {v0 : Value} {a1 c1 : Int} {W : World} (h : Kh J Wn bm bd a0 v0 a1 c1 W) : Kh J Wn bm bd a0 v0 a1 c1 W.drew := h.below (Below.refl _ _).drew

def Iq (W : World) (v : Value) (xs : List Int) : Prop := ∃ B, B ≤ W.heap.size ∧ l5.IntsC W B v xs
theorem Iq.below {W W' : World} {v : Value} {xs : List Int} (h : Iq W v xs) (b : Below W.heap.size W W') : Iq W' v xs := by
  obtain ⟨B, h1, h2⟩ := h
  exact ⟨B, Nat.le_trans h1 b.size, h2.chg (Chg.ofBelow (lo := 0) b) (.inr (Nat.zero_le _))⟩
theorem Iq.alloc {W : World} {v : Value} {xs : List Int} (h : Iq W v xs) (o : Obj) : Iq (W.alloc o) v xs := h.below ((Below.refl _ _).alloc (Nat.le_refl _) o)
theorem Iq.drew {W : World} {v : Value} {xs : List Int} (h : Iq W v xs) : Iq W.drew v xs := h.below (Below.refl _ _).drew
theorem ints_js {B : Nat} {v : Value} {xs : List Int} : ∀ X X' : World, Ints X B v xs → Below X.heap.size X X' → Ints X' B v xs := fun X X' h b => h.chg (Chg.ofBelow (lo := 0) b) (.inr (Nat.zero_le _))

/-- The answer in a box of its own, in X, outside of the memory of its word. -/
def Rq (Wn : World) (sr : Int) (zr : List Int) (g : Nat) (ao : Option Addr) (cap lo hi : Nat) (X : World) : Prop :=
  X.cell? ⟨g, 0, none⟩ = some (.int .i64 sr) ∧ X.cell? ⟨g, 1, none⟩ = some (.slice ao zr.length cap) ∧ sl.Own X lo hi (.slice ao zr.length cap) zr ∧ Wn.heap.size ≤ lo ∧ hi ≤ X.heap.size ∧ (g < lo ∨ hi ≤ g) ∧ Wn.heap.size ≤ g ∧ g < X.heap.size ∧ Below Wn.heap.size Wn X
theorem meetA {Wn Y : World} {sr : Int} {zr : List Int} {lo : Nat} {ao : Option Addr} {cap : Nat} (hb : Below Wn.heap.size Wn Y) (o : Own Y lo Y.heap.size (.slice ao zr.length cap) zr) (hlo : Wn.heap.size ≤ lo) :
    Rq Wn sr zr Y.heap.size ao cap lo Y.heap.size (Y.alloc (.cells #[.int .i64 sr, .slice ao zr.length cap] 39)) :=
  ⟨World.cell?_alloc_at _ _ _ _ rfl, World.cell?_alloc_at _ _ _ _ rfl, o.chg (Chg.ofBelow (lo := 0) ((Below.refl Y.heap.size Y).alloc (Nat.le_refl _) _)) (.inr (.inr (Nat.zero_le _))), hlo, by simp, .inr (Nat.le_refl _), hb.size, by simp, hb.alloc hb.size _⟩
theorem meetB {Wn Y : World} {sr : Int} {zr : List Int} {lo : Nat} {ao : Option Addr} {cap : Nat} (hb : Below Wn.heap.size Wn Y) (o : Own Y lo Y.heap.size (.slice ao zr.length cap) zr) (hlo : Wn.heap.size ≤ lo) (g : Nat) (hg1 : Wn.heap.size ≤ g) (hg2 : g < lo) (hg3 : g < Y.heap.size) {x0 x1 : Value} (c0 : Y.cell? ⟨g, 0, none⟩ = some x0) (c1 : Y.cell? ⟨g, 1, none⟩ = some x1) :
    Rq Wn sr zr g ao cap lo Y.heap.size ((Y.setCell ⟨g, 0, none⟩ (.int .i64 sr)).setCell ⟨g, 1, none⟩ (.slice ao zr.length cap)) :=
  ⟨(World.cell?_setCell_other _ _ _ _ (by simp)).trans (World.cell?_setCell_same _ _ _ c0), World.cell?_setCell_same _ _ _ ((World.cell?_setCell_other _ _ _ _ (by simp)).trans c1), br.own_other (br.own_other o g 0 _ (.inl hg2)) g 1 _ (.inl hg2), hlo, by simp, .inl hg2, hg1, by simpa using hg3, (hb.setCell hg1 _).setCell hg1 _⟩
end Go.Proofs.Ytedajefapddekaa.rh5
