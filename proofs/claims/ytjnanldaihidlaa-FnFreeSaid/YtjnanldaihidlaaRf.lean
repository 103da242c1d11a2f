/-
  ReadFree: contracts of both sides.
-/
import Derived.Test.YtjnanldaihidlaaFr5
import Derived.Test.YtjnanldaihidlaaName
namespace Go.Proofs.Ytjnanldaihidlaa.fr
open Go.RowKit Go.Proofs.Ytjnanldaihidlaa.sl Go.Proofs.Ytjnanldaihidlaa.pm Go.Proofs.Ytjnanldaihidlaa.bw Go.Proofs.Ytjnanldaihidlaa.br Go.Proofs.Ytjnanldaihidlaa.fv Go.Proofs.Ytjnanldaihidlaa.fn
set_option linter.unusedVariables false

/-- The letter of a byte. -/
def lt (c : Nat) : Int := if 97 ≤ c ∧ c ≤ 122 then (c : Int) - 96 else if 65 ≤ c ∧ c ≤ 90 then 64 - (c : Int) else 0
theorem lt_small {c : Nat} (h : 97 ≤ c ∧ c ≤ 122) : lt c = (c : Int) - 96 := by rw [lt, if_pos h]
theorem lt_big {c : Nat} (h : 65 ≤ c ∧ c ≤ 90) : lt c = 64 - (c : Int) := by rw [lt, if_neg (by omega), if_pos h]
theorem lt_none {c : Nat} (h1 : ¬ (97 ≤ c ∧ c ≤ 122)) (h2 : ¬ (65 ≤ c ∧ c ≤ 90)) : lt c = 0 := by rw [lt, if_neg h1, if_neg h2]
def wordS (s : ByteArray) : List Int := s.data.toList.map fun b => lt b.toNat
theorem wordS_len (s : ByteArray) : (wordS s).length = s.size := by simp [wordS]
theorem wordS_at (s : ByteArray) (k : Nat) (h : k < s.size) : (wordS s).getD k 0 = lt s[k].toNat := by
  have h' : k < s.data.toList.length := by simpa using h
  simp only [wordS, List.getD, List.getElem?_map, List.getElem?_eq_getElem h', Option.map_some, Option.getD_some]
  rfl
theorem wordS_take (s : ByteArray) (k : Nat) (h : k < s.size) : (wordS s).take (k + 1) = (wordS s).take k ++ [lt s[k].toNat] := by
  rw [take_one (wordS s) k (by rw [wordS_len]; exact h), wordS_at s k h]
def one : ByteArray := ⟨#[49]⟩
def wF (s : ByteArray) : List Int := if s = one then [] else wordS s
theorem wF_one : wF one = [] := by rw [wF, if_pos rfl]
theorem wF_no {s : ByteArray} (h : s ≠ one) : wF s = wordS s := by rw [wF, if_neg h]
def rfOk (n : Int) (s : ByteArray) : Bool := decide (1 ≤ s.size ∧ s.size ≤ 20000) && frB n (wF s)
def rfW (n : Int) (s : ByteArray) : List Int := if rfOk n s = true then wF s else []
theorem wF_len (s : ByteArray) : (wF s).length ≤ s.size := by
  unfold wF; split
  · simp
  · rw [wordS_len]; exact Nat.le_refl _
theorem rf_size {n : Int} {s : ByteArray} (h : ¬ (1 ≤ s.size ∧ s.size ≤ 20000)) : rfOk n s = false ∧ rfW n s = [] := by
  have : rfOk n s = false := by rw [rfOk, decide_eq_false h]; rfl
  exact ⟨this, by rw [rfW, this]; rfl⟩
theorem rf_bad {n : Int} {s : ByteArray} (h : frB n (wF s) = false) : rfOk n s = false ∧ rfW n s = [] := by
  have : rfOk n s = false := by rw [rfOk, h]; simp
  exact ⟨this, by rw [rfW, this]; rfl⟩
theorem rf_good {n : Int} {s : ByteArray} (h1 : 1 ≤ s.size ∧ s.size ≤ 20000) (h : frB n (wF s) = true) : rfOk n s = true ∧ rfW n s = wF s := by
  have : rfOk n s = true := by rw [rfOk, h, decide_eq_true h1]; rfl
  exact ⟨this, by rw [rfW, if_pos this]⟩
theorem rf_len (n : Int) (s : ByteArray) : (rfW n s).length ≤ 20000 := by
  by_cases h : rfOk n s = true
  · rw [rfW, if_pos h]
    simp only [rfOk, Bool.and_eq_true, decide_eq_true_eq] at h
    have := wF_len s
    omega
  · rw [rfW, if_neg h]; simp
/-- A byte that is no letter spoils the word. -/
theorem fr_zero {n : Int} {xs : List Int} (k : Nat) (hk : k < xs.length) (h : xs.getD k 0 = 0) : frB n xs = false := by
  have h1 : xs.all (gB n) = false := gall_bad k hk (by rw [h]; simp only [gB, Bool.or_eq_false_iff, decide_eq_false_iff_not]; omega)
  rw [frB, h1]; simp

theorem letter (c : Nat) (hc : c < 256) (w : World) : Calls Try.prog 88 #[.int .u8 (c : Int)] w fun e w' => e = .returned (.int .i64 (lt c)) ∧ w = w' := by
  by_cases h1 : 97 ≤ c ∧ c ≤ 122
  · have HF := hid (lt_small h1)
    have hb : nm.smallB (c : Int) = true := by simp [nm.smallB]; omega
    have hw : IntKind.u8.wrap ((c : Int) - 97) = (c : Int) - 97 := IntWalk.u8_in _ (by omega)
    have hw2 : IntKind.i64.wrap ((c : Int) - 97) = (c : Int) - 97 := IntWalk.i64_in _ (by omega)
    have hw3 : IntKind.i64.wrap ((c : Int) - 97 + 1) = (c : Int) - 97 + 1 := IntWalk.i64_in _ (by omega)
    go_enter Try.func88, Try.ntmps88
    go_wp2_with (go_at_call 150; refine (nm.implSmall _ _).mono ?_; rintro e w' ⟨rfl, rfl⟩)
    go_ret
    exact ⟨by rw [HF.out, show (c : Int) - 96 = (c : Int) - 97 + 1 by omega]; rfl, rfl⟩
  · have hb : nm.smallB (c : Int) = false := by simp [nm.smallB]; omega
    by_cases h2 : 65 ≤ c ∧ c ≤ 90
    · have HF := hid (lt_big h2)
      have hd : decide ((65 : Int) ≤ (c : Int) ∧ (c : Int) ≤ 90) = true := by simp; omega
      have hw : IntKind.u8.wrap ((c : Int) - 65) = (c : Int) - 65 := IntWalk.u8_in _ (by omega)
      have hw2 : IntKind.i64.wrap ((c : Int) - 65) = (c : Int) - 65 := IntWalk.i64_in _ (by omega)
      have hw3 : IntKind.i64.wrap (-((c : Int) - 65)) = 65 - (c : Int) := by rw [IntWalk.i64_in _ (by omega)]; omega
      have hw4 : IntKind.i64.wrap (65 - (c : Int) - 1) = 65 - (c : Int) - 1 := IntWalk.i64_in _ (by omega)
      have hw5 : IntKind.i64.wrap (65 - (c : Int)) = 65 - (c : Int) := IntWalk.i64_in _ (by omega)
      go_enter Try.func88, Try.ntmps88
      go_wp2_with (first | (go_at_call 150; refine (nm.implSmall _ _).mono ?_; rintro e w' ⟨rfl, rfl⟩) | (go_at_call 151; refine (nm.withinByte _ _ _ _).mono ?_; rintro e w' ⟨rfl, rfl⟩))
      go_ret
      exact ⟨by rw [HF.out, show 64 - (c : Int) = 65 - (c : Int) - 1 by omega]; rfl, rfl⟩
    · have HF := hid (lt_none h1 h2)
      have hd : decide ((65 : Int) ≤ (c : Int) ∧ (c : Int) ≤ 90) = false := by simp; omega
      go_enter Try.func88, Try.ntmps88
      go_wp2_with (first | (go_at_call 150; refine (nm.implSmall _ _).mono ?_; rintro e w' ⟨rfl, rfl⟩) | (go_at_call 151; refine (nm.withinByte _ _ _ _).mono ?_; rintro e w' ⟨rfl, rfl⟩))
      go_ret
      exact ⟨by rw [HF.out]; rfl, rfl⟩

def NotOne (s : ByteArray) : Prop := (s.toList == one.toList) = false ∧ (s == one) = false ∧ ¬ s = one
theorem not_one {s : ByteArray} (h : s ≠ one) : ¬ s.toList = [49] := by
  rw [ByteArray.toList_eq]
  intro e
  apply h
  rcases s with ⟨⟨l⟩⟩
  simp at e
  subst e
  rfl

set_option maxHeartbeats 800000 in
theorem implReadFree (n : Int) (s : ByteArray) (w : World) (hs : s.size ≤ 1048576) :
    Calls Try.prog 21 #[.int .i64 n, .string s] w fun e w' => ∃ v', e = .returned (.tuple #[v', .bool (rfOk n s)]) ∧ sl.Own w' w.heap.size w'.heap.size v' (rfW n s) ∧ Below w.heap.size w w' := by
  by_cases hsz : 1 ≤ s.size ∧ s.size ≤ 20000
  · have hd : decide ((1 : Int) ≤ (s.size : Int) ∧ (s.size : Int) ≤ 20000) = true := by simp; omega
    by_cases h1 : s = one
    · have HV := hid (fun (W : World) (u : Value) (i : Ints W W.heap.size u []) => implFree n [] u _ W i (Nat.le_refl _) (by simp))
      cases hq : frB n []
      · have HW := hid (rf_bad (n := n) (s := s) (by rw [h1, wF_one]; exact hq))
        rw [hq] at HV
        rw [HW.out.1, HW.out.2]
        subst h1
        have h49 : (one.toList == [49]) = true := by rw [ByteArray.toList_eq]; rfl
        have h50 : one.toList = [49] := by rw [ByteArray.toList_eq]; rfl
        go_enter Try.func21, Try.ntmps21
        go_wp2_with (first | (go_at_call 87; refine (nm.withinInt _ _ _ _).mono ?_; rintro e w' ⟨rfl, rfl⟩) | (go_at_call 78; refine (HV.out _ _ (Own.built w _ rfl).ints).mono ?_; rintro e w2 ⟨rfl, b2⟩; have HB2 := hid (((Below.refl w.heap.size w).alloc (Nat.le_refl _) (.cells #[] 2)).trans (b2.mono (by simp))); clear b2))
        go_ret2
        exact ⟨_, rfl, Own.nil _ _, HB2.out⟩
      · have HW := hid (rf_good (n := n) (s := s) hsz (by rw [h1, wF_one]; exact hq))
        rw [hq] at HV
        rw [HW.out.1, HW.out.2, h1, wF_one]
        subst h1
        have h49 : (one.toList == [49]) = true := by rw [ByteArray.toList_eq]; rfl
        have h50 : one.toList = [49] := by rw [ByteArray.toList_eq]; rfl
        go_enter Try.func21, Try.ntmps21
        go_wp2_with (first | (go_at_call 87; refine (nm.withinInt _ _ _ _).mono ?_; rintro e w' ⟨rfl, rfl⟩) | (go_at_call 78; refine (HV.out _ _ (Own.built w _ rfl).ints).mono ?_; rintro e w2 ⟨rfl, b2⟩; have HO2 := hid ((Own.built w _ rfl).chg (Chg.ofBelow (lo := 0) b2) (.inr (.inr (Nat.zero_le _)))); have hz2 := b2.size; have HB2 := hid (((Below.refl w.heap.size w).alloc (Nat.le_refl _) (.cells #[] 2)).trans (b2.mono (by simp))); clear b2))
        go_ret2
        exact ⟨_, rfl, HO2.out.hi hz2 (Nat.le_refl _), HB2.out⟩
    · have hn1 := not_one h1
      have hn2 : (s.toList == [49]) = false := beq_eq_false_iff_ne.2 hn1
      have HF := hid (wF_no h1)
      have HV := hid (fun (W : World) (u : Value) (i : Ints W W.heap.size u (wordS s)) => implFree n (wordS s) u _ W i (Nat.le_refl _) (by rw [wordS_len]; omega))
      have HT := hid (wordS_take s)
      have HTl := hid (fun k (hk : k ≤ s.size) => show ((wordS s).take k).length ≤ 1099511627776 from by rw [List.length_take]; omega)
      have HAll : Hid ((wordS s).take s.size = wordS s) := hid (by rw [← wordS_len s, List.take_length])
      have HWn : Hid (frB n (wordS s) = false → rfOk n s = false ∧ rfW n s = []) := hid (fun h => rf_bad (by rw [HF.out]; exact h))
      have HWy : Hid (frB n (wordS s) = true → rfOk n s = true ∧ rfW n s = wordS s) := hid (fun h => by have := rf_good (n := n) hsz (by rw [HF.out]; exact h); rwa [HF.out] at this)
      have h0 : ¬ s.size = 0 := by omega
      go_enter Try.func21, Try.ntmps21
      go_wp2_with (go_at_call 87; refine (nm.withinInt _ _ _ _).mono ?_; rintro e w' ⟨rfl, rfl⟩)
      go_loopw [6, 17] (fun u i wr => ∃ k : Nat, k ≤ s.size ∧ i = .int .i64 k ∧ sl.Own wr w.heap.size wr.heap.size u ((wordS s).take k) ∧ Below w.heap.size w wr) (fun _ i _ => s.size - (intOf i).toNat)
      case atStart => exact ⟨0, Nat.zero_le _, rfl, by simpa using Own.built w _ rfl, (Below.refl _ _).alloc (Nat.le_refl _) _⟩
      case round =>
        obtain ⟨k, hk, rfl, hown, hbel⟩ := hrel
        have HO := hid hown
        have HB := hid hbel
        have hz := hbel.size
        clear hown hbel
        by_cases hlt : k < s.size
        · have HX := hid (HT.out k hlt)
          have hc : s[k].toNat < 256 := s[k].toNat_lt
          have hkl := HTl.out k hk
          have HLt := hid (fun W : World => letter s[k].toNat hc W)
          generalize lt s[k].toNat = x at *
          go_wp2_with (first | (go_at_call 88; refine (HLt.out _).mono ?_; rintro e w' ⟨rfl, rfl⟩) | (at_builtin; refine wp_append rfl _ _ rfl w.heap.size wr.heap.size _ ((wordS s).take k) x HO.out rfl rfl hz hkl ?_; intro v' w1 hown1 hchg1 hsz1))
          have HO1 := hid hown1
          have HB1 := hid (HB.out.trans (hchg1.below (Nat.le_refl _) hz))
          clear hown1 hchg1
          go_wp2
          go_roundw
          case rel => exact ⟨k + 1, by omega, by go_num, by rw [HX.out]; exact HO1.out, HB1.out⟩
          case measure => simp [intOf]; omega
        · obtain rfl : k = s.size := by omega
          rw [HAll.out] at HO
          cases hq : frB n (wordS s)
          · have HW := hid (HWn.out hq)
            rw [hq] at HV
            go_wp2_with (go_at_call 78; refine (HV.out _ _ HO.out.ints).mono ?_; rintro e w2 ⟨rfl, b2⟩; have HB2 := hid (HB.out.trans (b2.mono hz)); clear b2)
            go_ret2
            exact ⟨_, by rw [HW.out.1]; rfl, by rw [HW.out.2]; exact Own.nil _ _, HB2.out⟩
          · have HW := hid (HWy.out hq)
            rw [hq] at HV
            go_wp2_with (go_at_call 78; refine (HV.out _ _ HO.out.ints).mono ?_; rintro e w2 ⟨rfl, b2⟩; have HO2 := hid (HO.out.chg (Chg.ofBelow (lo := 0) b2) (.inr (.inr (Nat.zero_le _)))); have hz2 := b2.size; have HB2 := hid (HB.out.trans (b2.mono hz)); clear b2)
            go_ret2
            exact ⟨_, by rw [HW.out.1]; rfl, by rw [HW.out.2]; exact HO2.out.hi hz2 (Nat.le_refl _), HB2.out⟩
  · have hd : decide ((1 : Int) ≤ (s.size : Int) ∧ (s.size : Int) ≤ 20000) = false := by simp; omega
    have HW := hid (rf_size (n := n) hsz)
    rw [HW.out.1, HW.out.2]
    go_enter Try.func21, Try.ntmps21
    go_wp2_with (go_at_call 87; refine (nm.withinInt _ _ _ _).mono ?_; rintro e w' ⟨rfl, rfl⟩)
    go_ret2
    exact ⟨_, rfl, Own.nil _ _, Below.refl _ _⟩

end Go.Proofs.Ytjnanldaihidlaa.fr
