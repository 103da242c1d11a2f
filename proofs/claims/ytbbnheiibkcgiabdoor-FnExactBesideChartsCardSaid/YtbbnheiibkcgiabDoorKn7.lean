/-
  StacksAfter of the model.
-/
import Derived.Test.YtbbnheiibkcgiabDoorKn6
namespace Go.Proofs.YtbbnheiibkcgiabDoor.kn
open Go.RowKit Go.Proofs.YtbbnheiibkcgiabDoor.sl Go.Proofs.YtbbnheiibkcgiabDoor.st
set_option linter.unusedVariables false

set_option maxRecDepth 20000 in
set_option maxHeartbeats 1000000 in
theorem specSA0 (ss ks : List Int) (v u : Value) (B C : Nat) (w : World) (ha : Ints w B v ss) (hb : Ints w C u ks) (hB : B ≤ w.heap.size) (hC : C ≤ w.heap.size) (hn : ss.length ≤ 1099511627776) (hm : ks.length ≤ 1099511627776) :
    Calls Tryd.prog 45 #[v, u] w fun e w' => ∃ v', e = .returned (.tuple #[v', .int .i64 (saC ss ks)]) ∧ sl.Own w' w.heap.size w'.heap.size v' (saW ss ks) ∧ Below w.heap.size w w' := by
  have HA := hid ha
  have HBi := hid hb
  have HS1 := hid (specStacks ss v B w ha hB hn)
  have HS2 := hid (specSts ks u C w hb hC hm)
  have HTk := hid (specTakenBy ks u C w hb hC hm)
  have HW1 := hid (fun h => @saW_no ss ks h)
  have HW2 := hid (fun h => @saW_yes ss ks h)
  obtain ⟨ao, cap, hv⟩ := br.ints_val ha
  obtain ⟨bo, cbp, hu⟩ := br.ints_val hb
  clear ha hb
  cases h1 : stks ss
  · have HE := hid (sa1 (ks := ks) h1)
    have HWn := hid (HW1.out (by rw [HE.out]; decide))
    rw [h1] at HS1
    clear h1 HS2 HTk HW1 HW2
    generalize ss.length = n at *
    generalize ks.length = m at *
    subst hv hu
    go_enter Tryd.func45, Tryd.ntmps45
    go_wp2_with fail
    refine HS1.out.mono ?_
    rintro e w1 ⟨rfl, rfl⟩
    go_wp2
    go_ret2
    exact ⟨.slice none 0 0, by rw [HE.out]; rfl, by rw [HWn.out]; exact Own.nil w w.heap.size, Below.refl _ _⟩
  cases h2 : lst ks
  · have HE := hid (sa2 (ss := ss) h2)
    have HWn := hid (HW1.out (by rw [HE.out]; decide))
    rw [h1] at HS1
    rw [h2] at HS2
    clear h1 h2 HTk HW1 HW2
    generalize ss.length = n at *
    generalize ks.length = m at *
    subst hv hu
    go_enter Tryd.func45, Tryd.ntmps45
    go_wp2_with fail
    refine HS1.out.mono ?_
    rintro e w1 ⟨rfl, rfl⟩
    go_wp2_with fail
    refine HS2.out.mono ?_
    rintro e w1 ⟨rfl, rfl⟩
    go_wp2
    go_ret2
    exact ⟨.slice none 0 0, by rw [HE.out]; rfl, by rw [HWn.out]; exact Own.nil w w.heap.size, Below.refl _ _⟩
  by_cases h3 : tkS ks = (ss.length : Int)
  rotate_left
  · have HE := hid (sa3 h1 h2 h3)
    have HWn := hid (HW1.out (by rw [HE.out]; decide))
    rw [h1] at HS1
    rw [h2] at HS2
    have e3 : (tkS ks == (ss.length : Int)) = false := by simpa using h3
    have e3' : (tkS ks != (ss.length : Int)) = true := by simpa using h3
    clear h1 h2 h3 HW1 HW2
    generalize tkS ks = z at *
    generalize ss.length = n at *
    generalize ks.length = m at *
    subst hv hu
    go_enter Tryd.func45, Tryd.ntmps45
    go_wp2_with fail
    refine HS1.out.mono ?_
    rintro e w1 ⟨rfl, rfl⟩
    go_wp2_with fail
    refine HS2.out.mono ?_
    rintro e w1 ⟨rfl, rfl⟩
    go_wp2_with fail
    refine HTk.out.mono ?_
    rintro e w1 ⟨rfl, b1⟩
    have B1 := hid b1
    have hz1 := b1.size
    clear b1
    go_wp2
    go_ret2
    exact ⟨.slice none 0 0, by rw [HE.out]; rfl, by rw [HWn.out]; exact Own.nil w1 w.heap.size, B1.out⟩
  have e3 : (tkS ks == (ss.length : Int)) = true := by simpa using h3
  have e3' : (tkS ks != (ss.length : Int)) = false := by simpa using h3
  have hF := fit_of h1 h2 h3
  have HL := hid (sa_last h1 h2 h3)
  have HAf := hid (fun W (a : Ints W B v ss) (b : Ints W C u ks) (c : C ≤ W.heap.size) => specAfter ss ks v u B C W a b c hF)
  have HTh := hid (fun W (a : Ints W B v ss) (b : Ints W C u ks) (c : C ≤ W.heap.size) => specThick ss ks v u B C W a b c hF)
  have hal := aft_small hF ks.length (Nat.le_refl _)
  have HSk := hid (fun W v2 (h : Ints W W.heap.size v2 (aftTo ss ks ks.length)) => specStacks (aftTo ss ks ks.length) v2 W.heap.size W h (Nat.le_refl _) (by omega))
  rw [h1] at HS1
  rw [h2] at HS2
  clear h1 h2 h3 hF
  generalize aftTo ss ks ks.length = af at *
  generalize thkTo ss ks ks.length = th at *
  generalize tkS ks = z at *
  generalize ss.length = n at *
  generalize ks.length = m at *
  subst hv hu
  obtain ⟨sk, hsk⟩ : ∃ sk, sk = stks af := ⟨_, rfl⟩
  rw [← hsk] at HL HSk
  have hnl : af.length ≤ 64 := hal
  clear hsk hal
  obtain ⟨al, hall⟩ : ∃ al, al = af.length := ⟨_, rfl⟩
  have HAl := hid hall
  clear hall hnl
  cases sk
  · have HE : Hid (saC ss ks = 5) := hid (by rw [HL.out]; rfl)
    have HWn := hid (HW1.out (by rw [HE.out]; decide))
    clear HL HW1 HW2 HTh
    go_enter Tryd.func45, Tryd.ntmps45
    go_wp2_with fail
    refine HS1.out.mono ?_
    rintro e w1 ⟨rfl, rfl⟩
    go_wp2_with fail
    refine HS2.out.mono ?_
    rintro e w1 ⟨rfl, rfl⟩
    go_wp2_with fail
    refine HTk.out.mono ?_
    rintro e w1 ⟨rfl, b1⟩
    have B1 := hid b1
    have hz1 := b1.size
    have HA1 := hid (HA.out.chg (Chg.ofBelow (lo := 0) b1) (.inr (Nat.zero_le _)))
    have HB1 := hid (HBi.out.chg (Chg.ofBelow (lo := 0) b1) (.inr (Nat.zero_le _)))
    clear b1
    go_wp2_with fail
    refine (HAf.out w1 HA1.out HB1.out (by omega)).mono ?_
    rintro e w2 ⟨v2, rfl, o2, b2⟩
    have B2 := hid (B1.out.trans (b2.mono hz1))
    have HI2 := hid o2.ints
    obtain ⟨a2, c2, hv2⟩ := br.own_val o2
    rw [← HAl.out] at hv2
    subst hv2
    clear b2 o2
    go_wp2_with fail
    refine (HSk.out w2 _ HI2.out).mono ?_
    rintro e w3 ⟨rfl, rfl⟩
    go_wp2
    go_ret2
    exact ⟨.slice none 0 0, by rw [HE.out]; rfl, by rw [HWn.out]; exact Own.nil w2 w.heap.size, B2.out⟩
  · cases th
    · have HE : Hid (saC ss ks = 0) := hid (by rw [HL.out]; rfl)
      have HWn := hid (HW2.out HE.out)
      clear HL HW1 HW2
      go_enter Tryd.func45, Tryd.ntmps45
      go_wp2_with fail
      refine HS1.out.mono ?_
      rintro e w1 ⟨rfl, rfl⟩
      go_wp2_with fail
      refine HS2.out.mono ?_
      rintro e w1 ⟨rfl, rfl⟩
      go_wp2_with fail
      refine HTk.out.mono ?_
      rintro e w1 ⟨rfl, b1⟩
      have B1 := hid b1
      have hz1 := b1.size
      have HA1 := hid (HA.out.chg (Chg.ofBelow (lo := 0) b1) (.inr (Nat.zero_le _)))
      have HB1 := hid (HBi.out.chg (Chg.ofBelow (lo := 0) b1) (.inr (Nat.zero_le _)))
      clear b1
      go_wp2_with fail
      refine (HAf.out w1 HA1.out HB1.out (by omega)).mono ?_
      rintro e w2 ⟨v2, rfl, o2, b2⟩
      have B2 := hid (B1.out.trans (b2.mono hz1))
      have HA2 := hid (HA1.out.chg (Chg.ofBelow (lo := 0) b2) (.inr (Nat.zero_le _)))
      have HB2 := hid (HB1.out.chg (Chg.ofBelow (lo := 0) b2) (.inr (Nat.zero_le _)))
      have hz2 := b2.size
      have HI2 := hid o2.ints
      have HO2 := hid o2
      obtain ⟨a2, c2, hv2⟩ := br.own_val o2
      rw [← HAl.out] at hv2
      subst hv2
      clear b2 o2
      go_wp2_with fail
      refine (HSk.out w2 _ HI2.out).mono ?_
      rintro e w3 ⟨rfl, rfl⟩
      go_wp2_with fail
      refine (HTh.out w2 HA2.out HB2.out (by omega)).mono ?_
      rintro e w3 ⟨rfl, b3⟩
      have B3 := hid (B2.out.trans (b3.mono (by omega)))
      have HO3 := hid ((HO2.out.chg (Chg.ofBelow (lo := 0) b3) (.inr (.inr (Nat.zero_le _)))).hi b3.size (Nat.le_refl _))
      clear b3
      go_wp2
      go_ret2
      exact ⟨.slice a2 al c2, by rw [HE.out]; rfl, by rw [HWn.out]; exact HO3.out.lo hz1, B3.out⟩
    · have HE : Hid (saC ss ks = 5) := hid (by rw [HL.out]; rfl)
      have HWn := hid (HW1.out (by rw [HE.out]; decide))
      clear HL HW1 HW2
      go_enter Tryd.func45, Tryd.ntmps45
      go_wp2_with fail
      refine HS1.out.mono ?_
      rintro e w1 ⟨rfl, rfl⟩
      go_wp2_with fail
      refine HS2.out.mono ?_
      rintro e w1 ⟨rfl, rfl⟩
      go_wp2_with fail
      refine HTk.out.mono ?_
      rintro e w1 ⟨rfl, b1⟩
      have B1 := hid b1
      have hz1 := b1.size
      have HA1 := hid (HA.out.chg (Chg.ofBelow (lo := 0) b1) (.inr (Nat.zero_le _)))
      have HB1 := hid (HBi.out.chg (Chg.ofBelow (lo := 0) b1) (.inr (Nat.zero_le _)))
      clear b1
      go_wp2_with fail
      refine (HAf.out w1 HA1.out HB1.out (by omega)).mono ?_
      rintro e w2 ⟨v2, rfl, o2, b2⟩
      have B2 := hid (B1.out.trans (b2.mono hz1))
      have HA2 := hid (HA1.out.chg (Chg.ofBelow (lo := 0) b2) (.inr (Nat.zero_le _)))
      have HB2 := hid (HB1.out.chg (Chg.ofBelow (lo := 0) b2) (.inr (Nat.zero_le _)))
      have hz2 := b2.size
      have HI2 := hid o2.ints
      obtain ⟨a2, c2, hv2⟩ := br.own_val o2
      rw [← HAl.out] at hv2
      subst hv2
      clear b2 o2
      go_wp2_with fail
      refine (HSk.out w2 _ HI2.out).mono ?_
      rintro e w3 ⟨rfl, rfl⟩
      go_wp2_with fail
      refine (HTh.out w2 HA2.out HB2.out (by omega)).mono ?_
      rintro e w3 ⟨rfl, b3⟩
      have B3 := hid (B2.out.trans (b3.mono (by omega)))
      clear b3
      go_wp2
      go_ret2
      exact ⟨.slice none 0 0, by rw [HE.out]; rfl, by rw [HWn.out]; exact Own.nil w3 w.heap.size, B3.out⟩
theorem specSA (ss ks : List Int) (v u : Value) (B C : Nat) (w : World) (ha : Ints w B v ss) (hb : Ints w C u ks) (hB : B ≤ w.heap.size) (hC : C ≤ w.heap.size) (hn : ss.length ≤ 1099511627776) (hm : ks.length ≤ 1099511627776) (hca : fn.CapOk v) (hcb : fn.CapOk u) :
    Calls Tryd.prog 45 #[v, u] w fun e w' => ∃ v', e = .returned (.tuple #[v', .int .i64 (saC ss ks)]) ∧ sl.Own w' w.heap.size w'.heap.size v' (saW ss ks) ∧ Below w.heap.size w w' :=
  specSA0 ss ks v u B C w ha hb hB hC hn hm
end Go.Proofs.YtbbnheiibkcgiabDoor.kn
