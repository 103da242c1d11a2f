/-
  The word without handles between two braids: the program's formBetween, HandleEqual, CompareBraids.
-/
import Derived.Test.YtedajefapddekaaHo1
import Derived.Test.YtedajefapddekaaJn
import Derived.Deep.RegionHeld3
namespace Go.Proofs.Ytedajefapddekaa.hl
open Go.RowKit Go.Proofs.Ytedajefapddekaa.sl Go.Proofs.Ytedajefapddekaa.br Go.Proofs.Ytedajefapddekaa.bw Go.Proofs.Ytedajefapddekaa.fn
set_option linter.unusedVariables false

/-- The inverse of one word, and another one. -/
def beL (xs ys : List Int) : List Int := (xs.reverse.map fun x => -x) ++ ys
def fbC (a b d : Int) (xs ys : List Int) : Int := if jnP a b xs ys = 0 then hfC d (beL xs ys) else jnP a b xs ys
def fbL (a b d : Int) (xs ys : List Int) : List Int := if jnP a b xs ys = 0 then hfL d (beL xs ys) else []
theorem fb_yes {a b d : Int} {xs ys : List Int} (h : jnP a b xs ys = 0) : fbC a b d xs ys = hfC d (beL xs ys) ∧ fbL a b d xs ys = hfL d (beL xs ys) := by unfold fbC fbL; rw [if_pos h, if_pos h]; exact ⟨rfl, rfl⟩
theorem fb_no {a b d : Int} {xs ys : List Int} (h : ¬ jnP a b xs ys = 0) : fbC a b d xs ys = jnP a b xs ys ∧ fbL a b d xs ys = [] := by unfold fbC fbL; rw [if_neg h, if_neg h]; exact ⟨rfl, rfl⟩
theorem beL_len (xs ys : List Int) : (beL xs ys).length = xs.length + ys.length := by simp [beL]
theorem beL_let {xs ys : List Int} (h1 : Let 11 xs) (h2 : Let 11 ys) : Let 11 (beL xs ys) := by
  intro x hx
  rcases List.mem_append.1 hx with h | h
  · obtain ⟨y, hy, rfl⟩ := List.mem_map.1 h
    rw [ab_neg]
    exact h1 y (List.mem_reverse.1 hy)
  · exact h2 x h
theorem fb_let (a b d : Int) (xs ys : List Int) : Let 11 (fbL a b d xs ys) ∧ (fbL a b d xs ys).length ≤ 4000 := by
  by_cases h : jnP a b xs ys = 0
  · obtain ⟨h1, h2, _⟩ := jnP_ok h
    rw [(fb_yes (d := d) h).2]
    exact hfL_let d _ (beL_let (Let.ofOk h1) (Let.ofOk h2)) (by rw [beL_len]; have := (ok_parts h1).2.2.1; have := (ok_parts h2).2.2.1; omega)
  · rw [(fb_no (d := d) h).2]; exact ⟨fun x hx => by simp at hx, by simp⟩
def heB (a b d : Int) (xs ys : List Int) : Bool := decide (fbC a b d xs ys = 0) && decide ((fbL a b d xs ys).length = 0)
def cbI (a b d : Int) (xs ys : List Int) : Int := -(sgL (fbL a b d xs ys))

set_option maxRecDepth 100000 in
set_option maxHeartbeats 4000000 in
theorem implFB (a b d : Int) (xs ys : List Int) (v u : Value) (B C : Nat) (w : World) (ha : Ints w B v xs) (hB : B ≤ w.heap.size) (hb : Ints w C u ys) (hC : C ≤ w.heap.size) (nu : NilOk u) (hn : xs.length ≤ 1099511627776) (hm : ys.length ≤ 1099511627776) :
    Calls Try.prog 92 #[.agg #[.int .i64 a, v], .agg #[.int .i64 b, u], .int .i64 d] w fun e w' => ∃ v', e = .returned (.tuple #[v', .int .i64 (fbC a b d xs ys)]) ∧ Own w' w.heap.size w'.heap.size v' (fbL a b d xs ys) ∧ Below w.heap.size w w' := by
  obtain ⟨ao, cap, hv⟩ := ints_val ha
  obtain ⟨bo, dap, hu⟩ := ints_val hb
  subst hv
  subst hu
  have HX := hid ha
  have HY := hid hb
  have HNu := hid nu
  clear ha hb nu
  have HP := hid (implPair a b xs ys (.slice ao xs.length cap) (.slice bo ys.length dap) B C ((w.alloc (.cells #[.int .i64 a, .slice ao xs.length cap] 39)).alloc (.cells #[.int .i64 b, .slice bo ys.length dap] 39)) (ints_al (ints_al HX.out _) _) (by simp; omega) (ints_al (ints_al HY.out _) _) (by simp; omega) hn hm)
  by_cases h : jnP a b xs ys = 0
  · obtain ⟨h1, h2, rfl⟩ := jnP_ok h
    have HW := hid (fb_yes (d := d) h)
    rw [h] at HP
    have hl1 : xs.length ≤ 40 := (ok_parts h1).2.2.1
    have hl2 : ys.length ≤ 40 := (ok_parts h2).2.2.1
    have HS1 := hid (ok_small h1)
    have HLb := hid (beL_let (Let.ofOk h1) (Let.ofOk h2))
    have HLn := hid (beL_len xs ys)
    clear h h1 h2
    go_enter Try.func92, Try.ntmps92
    go_wp2_with fail
    refine HP.out.mono ?_
    rintro e w1 ⟨rfl, b1⟩
    have HB1 := hid (box2 b1)
    have d0 := HB1.out.1 0
    have d1 := HB1.out.1 1
    have e0 := (HB1.out.2.1 0).1
    have e1 := (HB1.out.2.1 1).1
    have hz := HB1.out.2.2.2
    simp at d0 d1 e0 e1
    have HX1 := hid (HX.out.chg (Chg.ofBelow (lo := 0) HB1.out.2.2.1) (.inr (Nat.zero_le _)))
    have HY1 := hid (HY.out.chg (Chg.ofBelow (lo := 0) HB1.out.2.2.1) (.inr (Nat.zero_le _)))
    have HBw := hid HB1.out.2.2.1
    clear b1 HP HX HY HB1
    go_wp2_with fail
    have HXd : Hid (Ints w1.drew B (.slice ao xs.length cap) xs) := hid (HX1.out.chg (Chg.ofBelow (lo := 0) ((Below.refl w1.heap.size w1).drew)) (.inr (Nat.zero_le _)))
    have HYd : Hid (Ints w1.drew C (.slice bo ys.length dap) ys) := hid (HY1.out.chg (Chg.ofBelow (lo := 0) ((Below.refl w1.heap.size w1).drew)) (.inr (Nat.zero_le _)))
    have HBd : Hid (Below w.heap.size w w1.drew) := hid HBw.out.drew
    clear HX1 HY1 HBw
    go_region_held3 (fun w' => w'.cell? ⟨w.heap.size, 0, none⟩ = some (.int .i64 a) ∧ w'.cell? ⟨w.heap.size, 1, none⟩ = some (.slice ao xs.length cap) ∧ w'.cell? ⟨w.heap.size + 1, 0, none⟩ = some (.int .i64 a) ∧ w'.cell? ⟨w.heap.size + 1, 1, none⟩ = some (.slice bo ys.length dap)) (go_keep)
      (first
        | (go_at_call 122
           refine (implInverted a xs _ B w1.drew HXd.out (by show B ≤ w1.heap.size; omega) hn HS1.out).mono ?_
           rintro e w2 ⟨ao2, cap2, rfl, o2, b2⟩
           have HO2 := hid o2
           have HB2 := hid (HBd.out.trans (b2.mono (by show w.heap.size ≤ w1.heap.size; omega)))
           have HY2 := hid (HYd.out.chg (Chg.ofBelow (lo := 0) b2) (.inr (Nat.zero_le _)))
           have hz2 : w1.heap.size ≤ w2.heap.size := b2.size
           have d0b := (b2.cell (p := ⟨w.heap.size, 0, none⟩) (by show w.heap.size < w1.heap.size; omega)).trans d0
           have d1b := (b2.cell (p := ⟨w.heap.size, 1, none⟩) (by show w.heap.size < w1.heap.size; omega)).trans d1
           have e0b := (b2.cell (p := ⟨w.heap.size + 1, 0, none⟩) (by show w.heap.size + 1 < w1.heap.size; omega)).trans e0
           have e1b := (b2.cell (p := ⟨w.heap.size + 1, 1, none⟩) (by show w.heap.size + 1 < w1.heap.size; omega)).trans e1
           have hfd := br.fieldWord a ao2 xs.length cap2
           have hLf : [xs.reverse.map (fun x => -x), ys].flatten = beL xs ys := (by simp [beL])
           have hWd : Wds (w2.alloc (.cells #[.slice ao2 xs.length cap2, .slice bo ys.length dap] 30)) w2.heap.size w2.heap.size [xs.reverse.map (fun x => -x), ys] := (by
             have hl : (xs.reverse.map (fun x => -x)).length = xs.length := (by simp)
             refine wds_two _ _ _ ao2 bo cap2 dap _ _ (by rw [World.cell?_alloc_at _ _ _ _ rfl, hl]; rfl) (by rw [World.cell?_alloc_at _ _ _ _ rfl]; rfl) (by rw [hl]; exact ints_al HO2.out.ints _) ((ints_al HY2.out _).mono (by omega)) (by rw [hl]; exact nilok_own HO2.out) HNu.out)
           have HCt := hid (concat [xs.reverse.map (fun x => -x), ys] w2.heap.size 2 w2.heap.size _ hWd (by simp) (by simp) (by simp) (by rw [hLf, HLn.out]; omega))
           have HB2a := hid (HB2.out.alloc (by omega) (.cells #[.slice ao2 xs.length cap2, .slice bo ys.length dap] 30))
           have hz2a : (w2.alloc (.cells #[.slice ao2 xs.length cap2, .slice bo ys.length dap] 30)).heap.size = w2.heap.size + 1 := (by simp)
           rw [hLf] at HCt
           have bA := (Below.refl w2.heap.size w2).alloc (Nat.le_refl _) (.cells #[.slice ao2 xs.length cap2, .slice bo ys.length dap] 30)
           have d0x := (bA.cell (p := ⟨w.heap.size, 0, none⟩) (by show w.heap.size < w2.heap.size; omega)).trans d0b
           have d1x := (bA.cell (p := ⟨w.heap.size, 1, none⟩) (by show w.heap.size < w2.heap.size; omega)).trans d1b
           have e0x := (bA.cell (p := ⟨w.heap.size + 1, 0, none⟩) (by show w.heap.size + 1 < w2.heap.size; omega)).trans e0b
           have e1x := (bA.cell (p := ⟨w.heap.size + 1, 1, none⟩) (by show w.heap.size + 1 < w2.heap.size; omega)).trans e1b
           clear bA b2 o2 hWd hLf)
        | (go_at_call 71
           refine HCt.out.mono ?_
           rintro e w3 ⟨v3, rfl, o3, b3⟩
           have HO3 := hid o3
           have b3x := b3.mono (show w2.heap.size ≤ _ by rw [hz2a]; omega)
           have HB3 := hid (HB2a.out.trans (b3x.mono (by omega)))
           have hz3 : w2.heap.size ≤ w3.heap.size := (by have := b3.size; omega)
           have d0c := (b3x.cell (p := ⟨w.heap.size, 0, none⟩) (by show w.heap.size < w2.heap.size; omega)).trans d0x
           have d1c := (b3x.cell (p := ⟨w.heap.size, 1, none⟩) (by show w.heap.size < w2.heap.size; omega)).trans d1x
           have e0c := (b3x.cell (p := ⟨w.heap.size + 1, 0, none⟩) (by show w.heap.size + 1 < w2.heap.size; omega)).trans e0x
           have e1c := (b3x.cell (p := ⟨w.heap.size + 1, 1, none⟩) (by show w.heap.size + 1 < w2.heap.size; omega)).trans e1x
           clear b3x
           clear b3 o3)
        | (go_at_call 90
           refine (formI d (beL xs ys) v3 w3.heap.size w3 HO3.out.ints (Nat.le_refl _) (by rw [HLn.out]; omega) HLb.out).mono ?_
           rintro e w4 ⟨v4, rfl, o4, b4⟩
           have HO4 := hid (o4.lo (lo' := w.heap.size) (by omega))
           have HB4 := hid (HB3.out.trans (b4.mono (by omega)))
           have hz4 := b4.size
           have d0d := (b4.cell (p := ⟨w.heap.size, 0, none⟩) (by show w.heap.size < w3.heap.size; omega)).trans d0c
           have d1d := (b4.cell (p := ⟨w.heap.size, 1, none⟩) (by show w.heap.size < w3.heap.size; omega)).trans d1c
           have e0d := (b4.cell (p := ⟨w.heap.size + 1, 0, none⟩) (by show w.heap.size + 1 < w3.heap.size; omega)).trans e0c
           have e1d := (b4.cell (p := ⟨w.heap.size + 1, 1, none⟩) (by show w.heap.size + 1 < w3.heap.size; omega)).trans e1c
           clear b4 o4)
        | fail)
    go_wp2
    go_ret2
    exact ⟨v4, by rw [HW.out.1]; rfl, by rw [HW.out.2]; exact HO4.out, HB4.out⟩
  · have HW := hid (fb_no (d := d) h)
    obtain ⟨j, hj⟩ : ∃ j, j = jnP a b xs ys := ⟨_, rfl⟩
    rw [← hj] at HP HW h
    clear hj
    go_enter Try.func92, Try.ntmps92
    go_wp2_with fail
    refine HP.out.mono ?_
    rintro e w1 ⟨rfl, b1⟩
    have HB1 := hid (box2 b1).2.2.1
    clear b1
    go_wp2
    go_ret2
    exact ⟨_, by rw [HW.out.1]; rfl, by rw [HW.out.2]; exact Own.nil _ _, HB1.out⟩
end Go.Proofs.Ytedajefapddekaa.hl
