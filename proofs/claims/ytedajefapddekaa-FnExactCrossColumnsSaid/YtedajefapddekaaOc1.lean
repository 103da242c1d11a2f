/-
  CrossColumns of both sides.
-/
import Derived.Test.YtedajefapddekaaOc0
namespace Go.Proofs.Ytedajefapddekaa.mo
open Go.RowKit Go.Sort Go.Proofs.Ytedajefapddekaa.sl Go.Proofs.Ytedajefapddekaa.pm
set_option linter.unusedVariables false
set_option maxRecDepth 100000

theorem opsMv (ms : List mv.V) (v : Value) (B : Nat) (w : World) (ha : mv.Ops w B v ms) (hB : B ≤ w.heap.size) (hn : ms.length ≤ 1000) (hp : 0 < ms.length) (hok : ∀ j, j < ms.length → okM (ms.getD j mv.oz)) :
    Calls Try.prog 98 #[v] w fun e w' => ∃ v', e = .returned v' ∧ qo.ROwn w' w.heap.size w'.heap.size v' ((mvs ms).flatten) ∧ Below w.heap.size w w' := by
  have hfl : (mvs ms).flatten.length = 4 * ms.length := by
    rw [List.length_flatten]
    unfold mvs
    rw [List.map_map]
    clear ha hn hp hok
    induction ms with
    | nil => rfl
    | cons m ms ih => rw [List.map_cons, List.sum_cons, ih]; show 4 + _ = _; simp; omega
  have HM := hid (mapMv ms v B w ha hB hn hok)
  have HC : Hid (∀ W : World, WdsO W W.heap.size w.heap.size (mvs ms) → w.heap.size < W.heap.size → Calls Try.prog 126 #[.slice (some ⟨w.heap.size, 0, none⟩) ms.length ms.length] W fun e w' => ∃ v', e = .returned v' ∧ qo.ROwn w' W.heap.size w'.heap.size v' ((mvs ms).flatten) ∧ Below W.heap.size W w') := hid (fun W h1 h2 => by
    have := concatG (mvs ms) w.heap.size ms.length W.heap.size W h1 (Nat.le_refl _) h2 (by rw [mvs_len]; exact hn) (by omega) (by omega)
    rwa [mvs_len] at this)
  clear ha hok hfl
  generalize (mvs ms).flatten = R at *
  generalize ms.length = n at *
  go_enter Try.func98, Try.ntmps98
  go_wp2_with fail
  refine HM.out.mono ?_
  rintro e w1 ⟨rfl, h1, hw1, b1⟩
  have HW1 := hid hw1
  have HB1 := hid b1
  clear hw1 b1
  go_wp2_with fail
  refine (HC.out w1 HW1.out h1).mono ?_
  rintro e w2 ⟨v2, rfl, o2, b2⟩
  have HO2 := hid (o2.lo HB1.out.size)
  have HB2 := hid (HB1.out.trans (b2.mono HB1.out.size))
  clear o2 b2
  go_wp2
  go_ret
  exact ⟨v2, rfl, HO2.out, HB2.out⟩

/-- The moves with which two columns change places. -/
def crM (l : Int) (f : Bool) : List mv.V := if f = true then [⟨l + 2, l - 1⟩, ⟨l, l + 2⟩, ⟨l - 1, l⟩] else [⟨l, l + 3⟩, ⟨l + 2, l⟩, ⟨l + 3, l + 2⟩]
def crL (l : Int) (f : Bool) : List qo.V := (mvs (crM l f)).flatten
def ccW (l : Int) (f : Bool) : List qo.V := if 1 ≤ l ∧ l ≤ 20 then crL l f else []
def ccC (l : Int) : Int := if 1 ≤ l ∧ l ≤ 20 then 0 else 2
theorem crL_t (l : Int) : crL l true = (opL (l + 2) (l - 1) ++ opL l (l + 2)) ++ opL (l - 1) l := rfl
theorem crL_f (l : Int) : crL l false = (opL l (l + 3) ++ opL (l + 2) l) ++ opL (l + 3) (l + 2) := rfl
theorem crL_len (l : Int) (f : Bool) : (crL l f).length = 12 := by cases f <;> rfl
theorem ccW_len (l : Int) (f : Bool) : (ccW l f).length ≤ 20000 := by
  unfold ccW
  split
  · rw [crL_len]; omega
  · simp
theorem crM_len (l : Int) (f : Bool) : (crM l f).length = 3 := by cases f <;> rfl
theorem crM_ok (l : Int) (f : Bool) (h : 1 ≤ l ∧ l ≤ 20) : ∀ j, j < (crM l f).length → okM ((crM l f).getD j mv.oz) := by
  intro j hj
  rw [crM_len] at hj
  cases f
  · match j, hj with
    | 0, _ => exact ⟨by show 0 ≤ l ∧ l ≤ 23; omega, by show 0 ≤ l + 3 ∧ l + 3 ≤ 23; omega⟩
    | 1, _ => exact ⟨by show 0 ≤ l + 2 ∧ l + 2 ≤ 23; omega, by show 0 ≤ l ∧ l ≤ 23; omega⟩
    | 2, _ => exact ⟨by show 0 ≤ l + 3 ∧ l + 3 ≤ 23; omega, by show 0 ≤ l + 2 ∧ l + 2 ≤ 23; omega⟩
  · match j, hj with
    | 0, _ => exact ⟨by show 0 ≤ l + 2 ∧ l + 2 ≤ 23; omega, by show 0 ≤ l - 1 ∧ l - 1 ≤ 23; omega⟩
    | 1, _ => exact ⟨by show 0 ≤ l ∧ l ≤ 23; omega, by show 0 ≤ l + 2 ∧ l + 2 ≤ 23; omega⟩
    | 2, _ => exact ⟨by show 0 ≤ l - 1 ∧ l - 1 ≤ 23; omega, by show 0 ≤ l ∧ l ≤ 23; omega⟩
theorem ops3 (w : World) (x y z : mv.V) : mv.Ops (w.alloc (.cells #[.int .i64 x.a0, .int .i64 x.a1, .int .i64 y.a0, .int .i64 y.a1, .int .i64 z.a0, .int .i64 z.a1] 71)) (w.heap.size + 1) (.slice (some ⟨w.heap.size, 0, none⟩) 3 3) [x, y, z] := by
  refine .inr ⟨by simp, w.heap.size, 0, 3, rfl, by omega, fun j hj => ?_⟩
  match j, hj with
  | 0, _ => exact ⟨by simp, World.cell?_alloc_at _ _ _ _ rfl, World.cell?_alloc_at _ _ _ _ rfl⟩
  | 1, _ => exact ⟨by simp, World.cell?_alloc_at _ _ _ _ rfl, World.cell?_alloc_at _ _ _ _ rfl⟩
  | 2, _ => exact ⟨by simp, World.cell?_alloc_at _ _ _ _ rfl, World.cell?_alloc_at _ _ _ _ rfl⟩

theorem needle1 (l c : Int) (b : Nat) (hl : 1 ≤ l ∧ l ≤ 20) (hc : 0 ≤ c ∧ c ≤ 3) (W : World) (h : W.cell? ⟨b, 0, none⟩ = some (.int .i64 l)) :
    Calls Try.prog 96 #[.int .i64 c, .pointer (some ⟨b, 0, none⟩)] W fun e w' => e = .returned (.int .i64 (l + c)) ∧ w' = W := by
  have e1 : IntKind.i64.wrap (l + c) = l + c := IntWalk.i64_in _ (by omega)
  have e2 : IntKind.i64.wrap (l + 2) = l + 2 := IntWalk.i64_in _ (by omega)
  have e3 : IntKind.i64.wrap (l + 2 - c) = l + 2 - c := IntWalk.i64_in _ (by omega)
  go_enter Try.func96, Try.ntmps96
  go_wp2
  go_ret
  exact ⟨rfl, rfl⟩

set_option maxHeartbeats 4000000 in
theorem moves1 (l : Int) (b : Nat) (hl : 1 ≤ l ∧ l ≤ 20) (w : World) (h : w.cell? ⟨b, 0, none⟩ = some (.int .i64 l)) :
    Calls Try.prog 99 #[.func (.func 96) #[] #[.pointer (some ⟨b, 0, none⟩)]] w fun e w' => ∃ v', e = .returned v' ∧ mv.Ops w' w'.heap.size v' (crM l false) ∧ Below w.heap.size w w' := by
  have H0 := hid (show Calls Try.prog 96 #[.int .i64 0, .pointer (some ⟨b, 0, none⟩)] w fun e w' => e = .returned (.int .i64 (l)) ∧ w' = w from (needle1 l 0 b hl (by omega) w h).mono fun _ _ h => ⟨by rw [h.1]; try (congr 2; omega), h.2⟩)
  have H2 := hid (show Calls Try.prog 96 #[.int .i64 2, .pointer (some ⟨b, 0, none⟩)] w fun e w' => e = .returned (.int .i64 (l + 2)) ∧ w' = w from (needle1 l 2 b hl (by omega) w h).mono fun _ _ h => ⟨by rw [h.1]; try (congr 2; omega), h.2⟩)
  have H3 := hid (show Calls Try.prog 96 #[.int .i64 3, .pointer (some ⟨b, 0, none⟩)] w fun e w' => e = .returned (.int .i64 (l + 3)) ∧ w' = w from (needle1 l 3 b hl (by omega) w h).mono fun _ _ h => ⟨by rw [h.1]; try (congr 2; omega), h.2⟩)
  have HO := hid (ops3 w ⟨l, l + 3⟩ ⟨l + 2, l⟩ ⟨l + 3, l + 2⟩)
  go_enter Try.func99, Try.ntmps99
  go_wp2_with fail
  refine H0.out.mono ?_
  rintro e w1 ⟨rfl, hw⟩
  obtain rfl := hw.symm
  go_wp2_with fail
  refine H3.out.mono ?_
  rintro e w2 ⟨rfl, hw⟩
  obtain rfl := hw.symm
  go_wp2_with fail
  refine H2.out.mono ?_
  rintro e w3 ⟨rfl, hw⟩
  obtain rfl := hw.symm
  go_wp2_with fail
  refine H0.out.mono ?_
  rintro e w4 ⟨rfl, hw⟩
  obtain rfl := hw.symm
  go_wp2_with fail
  refine H3.out.mono ?_
  rintro e w5 ⟨rfl, hw⟩
  obtain rfl := hw.symm
  go_wp2_with fail
  refine H2.out.mono ?_
  rintro e w6 ⟨rfl, hw⟩
  obtain rfl := hw.symm
  go_wp2
  go_ret
  exact ⟨_, rfl, HO.out.mono (by simp), (Below.refl _ _).alloc (Nat.le_refl _) _⟩

theorem needle2 (l c : Int) (b : Nat) (hl : 1 ≤ l ∧ l ≤ 20) (hc : 0 ≤ c ∧ c ≤ 3) (W : World) (h : W.cell? ⟨b, 0, none⟩ = some (.int .i64 l)) :
    Calls Try.prog 97 #[.int .i64 c, .pointer (some ⟨b, 0, none⟩)] W fun e w' => e = .returned (.int .i64 (l + 2 - c)) ∧ w' = W := by
  have e1 : IntKind.i64.wrap (l + c) = l + c := IntWalk.i64_in _ (by omega)
  have e2 : IntKind.i64.wrap (l + 2) = l + 2 := IntWalk.i64_in _ (by omega)
  have e3 : IntKind.i64.wrap (l + 2 - c) = l + 2 - c := IntWalk.i64_in _ (by omega)
  go_enter Try.func97, Try.ntmps97
  go_wp2
  go_ret
  exact ⟨rfl, rfl⟩

set_option maxHeartbeats 4000000 in
theorem moves2 (l : Int) (b : Nat) (hl : 1 ≤ l ∧ l ≤ 20) (w : World) (h : w.cell? ⟨b, 0, none⟩ = some (.int .i64 l)) :
    Calls Try.prog 99 #[.func (.func 97) #[] #[.pointer (some ⟨b, 0, none⟩)]] w fun e w' => ∃ v', e = .returned v' ∧ mv.Ops w' w'.heap.size v' (crM l true) ∧ Below w.heap.size w w' := by
  have H0 := hid (show Calls Try.prog 97 #[.int .i64 0, .pointer (some ⟨b, 0, none⟩)] w fun e w' => e = .returned (.int .i64 (l + 2)) ∧ w' = w from (needle2 l 0 b hl (by omega) w h).mono fun _ _ h => ⟨by rw [h.1]; try (congr 2; omega), h.2⟩)
  have H2 := hid (show Calls Try.prog 97 #[.int .i64 2, .pointer (some ⟨b, 0, none⟩)] w fun e w' => e = .returned (.int .i64 (l)) ∧ w' = w from (needle2 l 2 b hl (by omega) w h).mono fun _ _ h => ⟨by rw [h.1]; try (congr 2; omega), h.2⟩)
  have H3 := hid (show Calls Try.prog 97 #[.int .i64 3, .pointer (some ⟨b, 0, none⟩)] w fun e w' => e = .returned (.int .i64 (l - 1)) ∧ w' = w from (needle2 l 3 b hl (by omega) w h).mono fun _ _ h => ⟨by rw [h.1]; try (congr 2; omega), h.2⟩)
  have HO := hid (ops3 w ⟨l + 2, l - 1⟩ ⟨l, l + 2⟩ ⟨l - 1, l⟩)
  go_enter Try.func99, Try.ntmps99
  go_wp2_with fail
  refine H0.out.mono ?_
  rintro e w1 ⟨rfl, hw⟩
  obtain rfl := hw.symm
  go_wp2_with fail
  refine H3.out.mono ?_
  rintro e w2 ⟨rfl, hw⟩
  obtain rfl := hw.symm
  go_wp2_with fail
  refine H2.out.mono ?_
  rintro e w3 ⟨rfl, hw⟩
  obtain rfl := hw.symm
  go_wp2_with fail
  refine H0.out.mono ?_
  rintro e w4 ⟨rfl, hw⟩
  obtain rfl := hw.symm
  go_wp2_with fail
  refine H3.out.mono ?_
  rintro e w5 ⟨rfl, hw⟩
  obtain rfl := hw.symm
  go_wp2_with fail
  refine H2.out.mono ?_
  rintro e w6 ⟨rfl, hw⟩
  obtain rfl := hw.symm
  go_wp2
  go_ret
  exact ⟨_, rfl, HO.out.mono (by simp), (Below.refl _ _).alloc (Nat.le_refl _) _⟩

theorem implCr (l : Int) (f : Bool) (hl : 1 ≤ l ∧ l ≤ 20) (w : World) :
    Calls Try.prog 61 #[.int .i64 l, .bool f] w fun e w' => ∃ v', e = .returned v' ∧ qo.ROwn w' w.heap.size w'.heap.size v' (crL l f) ∧ Below w.heap.size w w' := by
  have HE := hid ((Below.refl w.heap.size w).alloc (Nat.le_refl _) (.cells #[.int .i64 l] 2))
  have c0 : (w.alloc (.cells #[.int .i64 l] 2)).cell? ⟨w.heap.size, 0, none⟩ = some (.int .i64 l) := World.cell?_alloc_at _ _ _ _ rfl
  have HOp := hid (fun (v : Value) (W : World) (h : mv.Ops W W.heap.size v (crM l f)) => opsMv (crM l f) v W.heap.size W h (Nat.le_refl _) (by rw [crM_len]; omega) (by rw [crM_len]; omega) (crM_ok l f hl))
  have hR : (mvs (crM l f)).flatten = crL l f := rfl
  rw [hR] at HOp
  clear hR
  cases f
  · have HMv := hid (moves1 l w.heap.size hl (w.alloc (.cells #[.int .i64 l] 2)) c0)
    go_enter Try.func61, Try.ntmps61
    go_wp2_with fail
    generalize w.alloc (.cells #[.int .i64 l] 2) = w0 at *
    refine HMv.out.mono ?_
    rintro e w1 ⟨v1, rfl, o1, b1⟩
    have HO1 := hid o1
    have HB1 := hid (HE.out.trans (b1.mono HE.out.size))
    clear o1 b1
    go_wp2_with fail
    refine (HOp.out v1 w1 HO1.out).mono ?_
    rintro e w2 ⟨v2, rfl, o2, b2⟩
    have HO2 := hid (o2.lo HB1.out.size)
    have HB2 := hid (HB1.out.trans (b2.mono HB1.out.size))
    clear o2 b2
    go_wp2
    go_ret
    exact ⟨v2, rfl, HO2.out, HB2.out⟩
  · have HMv := hid (moves2 l w.heap.size hl (w.alloc (.cells #[.int .i64 l] 2)) c0)
    go_enter Try.func61, Try.ntmps61
    go_wp2_with fail
    generalize w.alloc (.cells #[.int .i64 l] 2) = w0 at *
    refine HMv.out.mono ?_
    rintro e w1 ⟨v1, rfl, o1, b1⟩
    have HO1 := hid o1
    have HB1 := hid (HE.out.trans (b1.mono HE.out.size))
    clear o1 b1
    go_wp2_with fail
    refine (HOp.out v1 w1 HO1.out).mono ?_
    rintro e w2 ⟨v2, rfl, o2, b2⟩
    have HO2 := hid (o2.lo HB1.out.size)
    have HB2 := hid (HB1.out.trans (b2.mono HB1.out.size))
    clear o2 b2
    go_wp2
    go_ret
    exact ⟨v2, rfl, HO2.out, HB2.out⟩

theorem cc_in {l : Int} {f : Bool} (h : 1 ≤ l ∧ l ≤ 20) : ccW l f = crL l f ∧ ccC l = 0 := by unfold ccW ccC; rw [if_pos h, if_pos h]; exact ⟨rfl, rfl⟩
theorem cc_out {l : Int} {f : Bool} (h : ¬ (1 ≤ l ∧ l ≤ 20)) : ccW l f = [] ∧ ccC l = 2 := by unfold ccW ccC; rw [if_neg h, if_neg h]; exact ⟨rfl, rfl⟩
theorem implCC (l : Int) (f : Bool) (w : World) :
    Calls Try.prog 21 #[.int .i64 l, .bool f] w fun e w' => ∃ v', e = .returned (.tuple #[v', .int .i64 (ccC l)]) ∧ qo.OOwn w' w.heap.size w'.heap.size v' (ccW l f) ∧ Below w.heap.size w w' := by
  cases h : decide (1 ≤ l ∧ l ≤ 20)
  · have HW := hid (cc_out (f := f) (of_decide_eq_false h))
    have HI := hid (within64R l 1 20 false h)
    clear h
    go_enter Try.func21, Try.ntmps21
    go_wp2_with fail
    refine (HI.out _).mono ?_
    rintro e w1 ⟨rfl, hw⟩
    obtain rfl := hw
    go_wp2
    go_ret2
    exact ⟨.slice none 0 0, by rw [HW.out.2]; rfl, by rw [HW.out.1]; exact (qo.ROwn.nil _ _).oown, Below.refl _ _⟩
  · have HW := hid (cc_in (f := f) (of_decide_eq_true h))
    have HI := hid (within64R l 1 20 true h)
    have HC := hid (fun W => implCr l f (of_decide_eq_true h) W)
    clear h
    go_enter Try.func21, Try.ntmps21
    go_wp2_with fail
    refine (HI.out _).mono ?_
    rintro e w1 ⟨rfl, hw⟩
    obtain rfl := hw
    go_wp2_with fail
    refine (HC.out _).mono ?_
    rintro e w2 ⟨v2, rfl, o2, b2⟩
    have HO := hid o2.oown
    have HB := hid b2
    clear o2 b2
    go_wp2
    go_ret2
    exact ⟨v2, by rw [HW.out.2]; rfl, by rw [HW.out.1]; exact HO.out, HB.out⟩
set_option maxHeartbeats 4000000 in
theorem specCr (l : Int) (f : Bool) (hl : 1 ≤ l ∧ l ≤ 20) (w : World) :
    Calls Try.prog 59 #[.int .i64 l, .bool f] w fun e w' => ∃ v', e = .returned v' ∧ qo.ROwn w' w.heap.size w'.heap.size v' (crL l f) ∧ Below w.heap.size w w' := by
  have e1 : IntKind.i64.wrap (l + 2) = l + 2 := IntWalk.i64_in _ (by omega)
  have e2 : IntKind.i64.wrap (l - 1) = l - 1 := IntWalk.i64_in _ (by omega)
  have e3 : IntKind.i64.wrap (l + 3) = l + 3 := IntWalk.i64_in _ (by omega)
  have HE := hid ((Below.refl w.heap.size w).alloc (Nat.le_refl _) (.cells #[] 79))
  have HO := hid (qo.ROwn.built w #[] rfl)
  cases f
  · have HL := hid (crL_f l)
    have H0 := hid (specOv (l) (l + 3) (by omega))
    have H1 := hid (specOv (l + 2) (l) (by omega))
    have H2 := hid (specOv (l + 3) (l + 2) (by omega))
    go_enter Try.func59, Try.ntmps59
    go_wp2_with fail
    generalize w.alloc (.cells #[] 79) = w0 at *
    refine (H0.out w0).mono ?_
    rintro e u0 ⟨x0, rfl, o0, b0⟩
    have HU0 := hid o0.oown.ops
    have HP0 := hid (HO.out.below b0)
    have HD0 := hid (HE.out.trans (b0.mono (by have := HE.out.size; omega)))
    have hd0 := HD0.out.size
    clear o0 b0
    go_wp2_with (at_builtin; refine qo.wp_appendS rfl _ _ rfl w.heap.size w0.heap.size _ _ ([]) (opL (l) (l + 3)) _ HP0.out rfl HU0.out rfl hd0 (by simp [opL]) (by simp [opL]) ?_; intro y0 z0 h0 c0; have HO0 := hid h0; have HE0 := hid (HD0.out.trans (c0.below (Nat.le_refl _) hd0)); clear h0 c0)
    refine (H1.out z0).mono ?_
    rintro e u1 ⟨x1, rfl, o1, b1⟩
    have HU1 := hid o1.oown.ops
    have HP1 := hid (HO0.out.below b1)
    have HD1 := hid (HE0.out.trans (b1.mono (by have := HE0.out.size; omega)))
    have hd1 := HD1.out.size
    clear o1 b1
    go_wp2_with (at_builtin; refine qo.wp_appendS rfl _ _ rfl w.heap.size z0.heap.size _ _ (opL (l) (l + 3)) (opL (l + 2) (l)) _ HP1.out rfl HU1.out rfl hd1 (by simp [opL]) (by simp [opL]) ?_; intro y1 z1 h1 c1; have HO1 := hid h1; have HE1 := hid (HD1.out.trans (c1.below (Nat.le_refl _) hd1)); clear h1 c1)
    refine (H2.out z1).mono ?_
    rintro e u2 ⟨x2, rfl, o2, b2⟩
    have HU2 := hid o2.oown.ops
    have HP2 := hid (HO1.out.below b2)
    have HD2 := hid (HE1.out.trans (b2.mono (by have := HE1.out.size; omega)))
    have hd2 := HD2.out.size
    clear o2 b2
    go_wp2_with (at_builtin; refine qo.wp_appendS rfl _ _ rfl w.heap.size z1.heap.size _ _ (opL (l) (l + 3) ++ opL (l + 2) (l)) (opL (l + 3) (l + 2)) _ HP2.out rfl HU2.out rfl hd2 (by simp [opL]) (by simp [opL]) ?_; intro y2 z2 h2 c2; have HO2 := hid h2; have HE2 := hid (HD2.out.trans (c2.below (Nat.le_refl _) hd2)); clear h2 c2)
    go_ret
    exact ⟨_, rfl, by rw [HL.out]; exact HO2.out, HE2.out⟩
  · have HL := hid (crL_t l)
    have H0 := hid (specOv (l + 2) (l - 1) (by omega))
    have H1 := hid (specOv (l) (l + 2) (by omega))
    have H2 := hid (specOv (l - 1) (l) (by omega))
    go_enter Try.func59, Try.ntmps59
    go_wp2_with fail
    generalize w.alloc (.cells #[] 79) = w0 at *
    refine (H0.out w0).mono ?_
    rintro e u0 ⟨x0, rfl, o0, b0⟩
    have HU0 := hid o0.oown.ops
    have HP0 := hid (HO.out.below b0)
    have HD0 := hid (HE.out.trans (b0.mono (by have := HE.out.size; omega)))
    have hd0 := HD0.out.size
    clear o0 b0
    go_wp2_with (at_builtin; refine qo.wp_appendS rfl _ _ rfl w.heap.size w0.heap.size _ _ ([]) (opL (l + 2) (l - 1)) _ HP0.out rfl HU0.out rfl hd0 (by simp [opL]) (by simp [opL]) ?_; intro y0 z0 h0 c0; have HO0 := hid h0; have HE0 := hid (HD0.out.trans (c0.below (Nat.le_refl _) hd0)); clear h0 c0)
    refine (H1.out z0).mono ?_
    rintro e u1 ⟨x1, rfl, o1, b1⟩
    have HU1 := hid o1.oown.ops
    have HP1 := hid (HO0.out.below b1)
    have HD1 := hid (HE0.out.trans (b1.mono (by have := HE0.out.size; omega)))
    have hd1 := HD1.out.size
    clear o1 b1
    go_wp2_with (at_builtin; refine qo.wp_appendS rfl _ _ rfl w.heap.size z0.heap.size _ _ (opL (l + 2) (l - 1)) (opL (l) (l + 2)) _ HP1.out rfl HU1.out rfl hd1 (by simp [opL]) (by simp [opL]) ?_; intro y1 z1 h1 c1; have HO1 := hid h1; have HE1 := hid (HD1.out.trans (c1.below (Nat.le_refl _) hd1)); clear h1 c1)
    refine (H2.out z1).mono ?_
    rintro e u2 ⟨x2, rfl, o2, b2⟩
    have HU2 := hid o2.oown.ops
    have HP2 := hid (HO1.out.below b2)
    have HD2 := hid (HE1.out.trans (b2.mono (by have := HE1.out.size; omega)))
    have hd2 := HD2.out.size
    clear o2 b2
    go_wp2_with (at_builtin; refine qo.wp_appendS rfl _ _ rfl w.heap.size z1.heap.size _ _ (opL (l + 2) (l - 1) ++ opL (l) (l + 2)) (opL (l - 1) (l)) _ HP2.out rfl HU2.out rfl hd2 (by simp [opL]) (by simp [opL]) ?_; intro y2 z2 h2 c2; have HO2 := hid h2; have HE2 := hid (HD2.out.trans (c2.below (Nat.le_refl _) hd2)); clear h2 c2)
    go_ret
    exact ⟨_, rfl, by rw [HL.out]; exact HO2.out, HE2.out⟩
theorem specCC (l : Int) (f : Bool) (w : World) :
    Calls Try.prog 20 #[.int .i64 l, .bool f] w fun e w' => ∃ v', e = .returned (.tuple #[v', .int .i64 (ccC l)]) ∧ qo.OOwn w' w.heap.size w'.heap.size v' (ccW l f) ∧ Below w.heap.size w w' := by
  cases h : decide (1 ≤ l ∧ l ≤ 20)
  · have HW := hid (cc_out (f := f) (of_decide_eq_false h))
    have HI := hid (specInR l 1 20 false h)
    clear h
    go_enter Try.func20, Try.ntmps20
    go_wp2_with fail
    refine (HI.out _).mono ?_
    rintro e w1 ⟨rfl, hw⟩
    obtain rfl := hw
    go_wp2
    go_ret2
    exact ⟨.slice none 0 0, by rw [HW.out.2]; rfl, by rw [HW.out.1]; exact (qo.ROwn.nil _ _).oown, Below.refl _ _⟩
  · have HW := hid (cc_in (f := f) (of_decide_eq_true h))
    have HI := hid (specInR l 1 20 true h)
    have HC := hid (fun W => specCr l f (of_decide_eq_true h) W)
    clear h
    go_enter Try.func20, Try.ntmps20
    go_wp2_with fail
    refine (HI.out _).mono ?_
    rintro e w1 ⟨rfl, hw⟩
    obtain rfl := hw
    go_wp2_with fail
    refine (HC.out _).mono ?_
    rintro e w2 ⟨v2, rfl, o2, b2⟩
    have HO := hid o2.oown
    have HB := hid b2
    clear o2 b2
    go_wp2
    go_ret2
    exact ⟨v2, by rw [HW.out.2]; rfl, by rw [HW.out.1]; exact HO.out, HB.out⟩
end Go.Proofs.Ytedajefapddekaa.mo
