/-
  Stitches read from texts: in words; KindOf and ReadStitches of the model.
-/
import Derived.Test.YtglkchcfggclaabDoorSt4
import Derived.Test.YtglkchcfggclaabDoorSt2
import Derived.WalkSpells
import Derived.Laws.RangeAny
namespace Go.Proofs.YtglkchcfggclaabDoor.kd
open Go.RowKit Go.Proofs.YtglkchcfggclaabDoor.sl Go.Proofs.YtglkchcfggclaabDoor.st
set_option linter.unusedVariables false

/-- The kind with a symbol; 0 where there is none. -/
def sk (x : Int) : Int :=
  if x = 107 then 1 else if x = 112 then 2 else if x = 111 then 3 else if x = 100 then 4 else if x = 101 then 5 else if x = 116 then 6 else if x = 115 then 7 else if x = 120 then 8 else if x = 121 then 9 else if x = 88 then 10 else if x = 89 then 11 else 0
theorem sk_sy {j : Nat} (h : 1 ≤ j ∧ j ≤ 11) : sk (syT.getD j 0) = (j : Int) :=
  all12 (fun j => 1 ≤ j → sk (syT.getD j 0) = (j : Int)) (by decide) h.2 h.1
theorem sk_range (x : Int) : 0 ≤ sk x ∧ sk x ≤ 11 := by unfold sk; repeat' split <;> omega
theorem sk_big {x : Int} (h : 122 ≤ x) : sk x = 0 := by unfold sk; repeat' split <;> omega
theorem sk_inv {x : Int} (h : sk x ≠ 0) : x = syT.getD (sk x).toNat 0 ∧ 1 ≤ (sk x).toNat ∧ (sk x).toNat ≤ 11 := by
  revert h
  unfold sk
  repeat' split
  all_goals
    intro h
    first
    | (exact absurd rfl h)
    | (subst_vars; decide)

theorem bytes_eta (s : ByteArray) : (⟨s.data.toList.toArray⟩ : ByteArray) = s := by rcases s with ⟨⟨l⟩⟩; rfl
theorem bytes_ne {u s : ByteArray} (h : ¬ u = s) : (u.toList == s.toList) = false := by
  refine beq_eq_false_iff_ne.2 (fun e => h ?_)
  rw [ByteArray.toList_eq, ByteArray.toList_eq] at e
  rw [← bytes_eta u, ← bytes_eta s, e]
def byI (s : ByteArray) (i : Nat) : Int := ((s.get! i).toNat : Int)
/-- The model's KindOf. -/
def kdS (s : ByteArray) : Int := if s.size = 1 then sk (byI s 0) else 0
theorem sy_size {j : Nat} (h : 1 ≤ j ∧ j ≤ 11) : (sy (j : Int)).size = 1 := by rw [sy_at h]; rfl
theorem sy_byte {j : Nat} (h : 1 ≤ j ∧ j ≤ 11) : byI (sy (j : Int)) 0 = syT.getD j 0 := by
  rw [sy_at h]
  exact all12 (fun j => byI ⟨#[(syT.getD j 0).toNat.toUInt8]⟩ 0 = syT.getD j 0) (by decide) h.2
theorem kd_yes {s : ByteArray} {j : Nat} (h : 1 ≤ j ∧ j ≤ 11) (e : sy (j : Int) = s) : kdS s = (j : Int) := by
  subst e
  rw [kdS, if_pos (sy_size h), sy_byte h, sk_sy h]
theorem one_byte {s : ByteArray} (h : s.size = 1) : s = ⟨#[s.get! 0]⟩ := by
  obtain ⟨⟨l⟩⟩ := s
  match l, h with
  | [b], _ => rfl
theorem kd_no {s : ByteArray} (h : ∀ j : Nat, 1 ≤ j → j ≤ 11 → sy (j : Int) ≠ s) : kdS s = 0 := by
  by_cases h1 : s.size = 1
  · rw [kdS, if_pos h1]
    refine Classical.byContradiction fun hne => ?_
    obtain ⟨e, i1, i2⟩ := sk_inv hne
    refine h _ i1 i2 ?_
    rw [sy_at ⟨i1, i2⟩, ← e]
    conv => rhs; rw [one_byte h1]
    simp [byI]
  · rw [kdS, if_neg h1]
theorem kd_sub (s : ByteArray) (i : Nat) (h : i < s.size) : kdS (s.extract i (i + 1)) = sk (byI s i) := by
  have h1 : (s.extract i (i + 1)).size = 1 := by rw [ByteArray.size_extract]; omega
  rw [kdS, if_pos h1]
  congr 1
  unfold byI
  congr 2
  have h0 : 0 < (s.extract i (i + 1)).size := by omega
  rw [show (s.extract i (i + 1)).get! 0 = (s.extract i (i + 1))[0] from get_at _ 0 h0, show s.get! i = s[i] from get_at s i h]
  simp [ByteArray.getElem_extract]

def rdTo (s : ByteArray) (i : Nat) : List Int := (List.range i).map fun j => sk (byI s j)
theorem rdTo_zero (s : ByteArray) : rdTo s 0 = [] := rfl
theorem rdTo_succ (s : ByteArray) (i : Nat) : rdTo s (i + 1) = rdTo s i ++ [sk (byI s i)] := by simp [rdTo, List.range_succ]
theorem rdTo_len (s : ByteArray) (i : Nat) : (rdTo s i).length = i := by simp [rdTo]
def rdB (s : ByteArray) : Bool := decide (s.size ≤ 16) && (List.range s.size).all fun i => decide (sk (byI s i) ≠ 0)
def rdW (s : ByteArray) : List Int := if rdB s then rdTo s s.size else []
theorem rd_long {s : ByteArray} (h : 16 < s.size) : rdB s = false := by
  have : ¬ s.size ≤ 16 := by omega
  simp [rdB, this]
theorem rd_bad {s : ByteArray} (i : Nat) (h : i < s.size) (e : sk (byI s i) = 0) : rdB s = false := by
  simp only [rdB, Bool.and_eq_false_iff]
  right
  rw [List.all_eq_false]
  exact ⟨i, by simpa using h, by simp [e]⟩
theorem rd_good {s : ByteArray} (h : s.size ≤ 16) (e : ∀ j, j < s.size → sk (byI s j) ≠ 0) : rdB s = true := by
  simp only [rdB, Bool.and_eq_true, decide_eq_true_eq, List.all_eq_true]
  exact ⟨h, fun j hj => e j (by simpa using hj)⟩
theorem rdW_no {s : ByteArray} (h : rdB s = false) : rdW s = [] := by simp [rdW, h]
theorem rdW_yes {s : ByteArray} (h : rdB s = true) : rdW s = rdTo s s.size := by simp [rdW, h]
theorem rdW_len (s : ByteArray) : (rdW s).length ≤ 16 := by
  cases h : rdB s
  · rw [rdW_no h]; simp
  · rw [rdW_yes h, rdTo_len]
    simp only [rdB, Bool.and_eq_true, decide_eq_true_eq] at h
    exact h.1

set_option maxRecDepth 20000 in
theorem specKindOf (s : ByteArray) (w : World) : Calls Tryd.prog 6 #[.string s] w fun e w' => e = .returned (.int .i64 (kdS s)) ∧ Below w.heap.size w w' := by
  go_enter Tryd.func6, Tryd.ntmps6
  go_wp2
  go_loopw [3] (fun i wr => ∃ k : Nat, 1 ≤ k ∧ k ≤ 12 ∧ i = .int .i64 k ∧ (∀ j : Nat, 1 ≤ j → j < k → sy (j : Int) ≠ s) ∧ Below w.heap.size w wr) (fun i _ => 12 - (intOf i).toNat)
  case atStart => exact ⟨1, by omega, by omega, rfl, fun j h1 h2 => by omega, Below.refl _ _⟩
  case round =>
    obtain ⟨k, hk1, hk, rfl, hall, hbel⟩ := hrel
    have HAll := hid hall
    have HB := hid hbel
    clear hall hbel
    by_cases hlt : k ≤ 11
    · have hd : decide ((k : Int) ≤ 11) = true := by simp; omega
      have HS := hid (specSymbol (k : Int) wr)
      by_cases he : sy (k : Int) = s
      · have HF := hid (kd_yes ⟨hk1, hlt⟩ he)
        rw [he] at HS
        clear he
        go_wp2_with fail
        refine HS.out.mono ?_
        rintro e w1 ⟨rfl, b1⟩
        have B1 := hid (HB.out.trans (b1.mono HB.out.size))
        clear b1
        go_wp2
        go_ret
        exact ⟨by rw [HF.out]; rfl, B1.out⟩
      · have HSt : Hid (∀ j : Nat, 1 ≤ j → j < k + 1 → sy (j : Int) ≠ s) := hid (fun j h1 h2 => by
          rcases Nat.lt_or_ge j k with h | h
          · exact HAll.out j h1 h
          · obtain rfl : j = k := by omega
            exact he)
        have n1 := bytes_ne he
        generalize sy (k : Int) = t at *
        clear he
        go_wp2_with fail
        refine HS.out.mono ?_
        rintro e w1 ⟨rfl, b1⟩
        have B1 := hid (HB.out.trans (b1.mono HB.out.size))
        clear b1
        go_wp2
        go_roundw
        case rel => exact ⟨k + 1, by omega, by omega, by go_num, HSt.out, B1.out⟩
        case measure => simp [intOf]; omega
    · obtain rfl : k = 12 := by omega
      have HF := hid (kd_no (fun j h1 h2 => HAll.out j h1 (by omega)))
      go_wp2
      go_ret
      exact ⟨by rw [HF.out]; rfl, HB.out⟩

set_option maxRecDepth 20000 in
set_option maxHeartbeats 1000000 in
theorem specRS (s : ByteArray) (w : World) (hs : s.size ≤ 9223372036854775807) : Calls Tryd.prog 8 #[.string s] w fun e w' => ∃ v', e = .returned (.tuple #[v', .bool (rdB s)]) ∧ sl.Own w' w.heap.size w'.heap.size v' (rdW s) ∧ Below w.heap.size w w' := by
  by_cases hl : s.size ≤ 16
  rotate_left
  · have HF := hid (rd_long (s := s) (by omega))
    have HW := hid (rdW_no HF.out)
    have hd : decide ((16 : Int) < (s.size : Int)) = true := by simp; omega
    clear hl
    go_enter Tryd.func8, Tryd.ntmps8
    go_wp2
    go_ret2
    exact ⟨.slice none 0 0, by rw [HF.out]; rfl, by rw [HW.out]; exact Own.nil w w.heap.size, Below.refl _ _⟩
  have hd : decide ((16 : Int) < (s.size : Int)) = false := by simp; omega
  have HBad := hid (fun i h e => @rd_bad s i h e)
  have HGood := hid (fun e => @rd_good s hl e)
  have HW1 := hid (fun h => @rdW_no s h)
  have HW2 := hid (fun h => @rdW_yes s h)
  have HSub := hid (fun i h => kd_sub s i h)
  have HO0 : Hid (sl.Own (w.alloc (.cells #[] 2)) w.heap.size (w.alloc (.cells #[] 2)).heap.size (.slice (some ⟨w.heap.size, 0, none⟩) 0 0) (rdTo s 0)) := hid (Own.built w #[] rfl)
  have HB0 := hid ((Below.refl w.heap.size w).alloc (Nat.le_refl _) (.cells #[] 2))
  obtain ⟨n, hnn⟩ : ∃ n, n = s.size := ⟨_, rfl⟩
  rw [← hnn] at hl hd HBad HGood HSub hs
  have HN := hid hnn
  go_enter Tryd.func8, Tryd.ntmps8
  go_wp2
  go_loopw [4, 5] (fun u i wr => ∃ k : Nat, k ≤ n ∧ i = .int .i64 k ∧ (∀ j, j < k → sk (byI s j) ≠ 0) ∧ sl.Own wr w.heap.size wr.heap.size u (rdTo s k) ∧ Below w.heap.size w wr) (fun _ i _ => n - (intOf i).toNat)
  case atStart => exact ⟨0, Nat.zero_le _, rfl, fun j hj => by omega, HO0.out, HB0.out⟩
  case round =>
    obtain ⟨k, hk, rfl, hall, hown, hbel⟩ := hrel
    have HAll := hid hall
    have HO := hid hown
    have HB := hid hbel
    clear hall hown hbel HO0 HB0
    by_cases hlt : k < n
    · have hks : k + 1 ≤ s.size := by omega
      have HK := hid (specKindOf (s.extract k (k + 1)) wr)
      rw [HSub.out k hlt] at HK
      have HS := hid (rdTo_succ s k)
      have hr := sk_range (byI s k)
      by_cases h0 : sk (byI s k) = 0
      · have HF := hid (HBad.out k hlt h0)
        have HW := hid (HW1.out HF.out)
        rw [h0] at HK
        go_wp2_with fail
        refine HK.out.mono ?_
        rintro e w1 ⟨rfl, b1⟩
        have B1 := hid (HB.out.trans (b1.mono HB.out.size))
        clear b1
        go_wp2
        go_ret2
        exact ⟨.slice none 0 0, by rw [HF.out]; rfl, by rw [HW.out]; exact Own.nil w1 w.heap.size, B1.out⟩
      · have HA2 : Hid (∀ j, j < k + 1 → sk (byI s j) ≠ 0) := hid (fun j hj => by
          rcases Nat.lt_or_ge j k with h | h
          · exact HAll.out j h
          · obtain rfl : j = k := by omega
            exact h0)
        generalize sk (byI s k) = x at *
        have n0 : (x == 0) = false := by simpa using h0
        go_wp2_with fail
        refine HK.out.mono ?_
        rintro e w1 ⟨rfl, b1⟩
        have B1 := hid (HB.out.trans (b1.mono HB.out.size))
        have HO1 := hid ((HO.out.chg (Chg.ofBelow (lo := 0) b1) (.inr (.inr (Nat.zero_le _)))).hi b1.size (Nat.le_refl _))
        clear b1 HO HK
        go_wp2_with (at_builtin; refine wp_append rfl _ _ rfl w.heap.size w1.heap.size _ (rdTo s k) x HO1.out rfl rfl B1.out.size (by rw [rdTo_len]; omega) ?_; intro v8 W8 o8 c8 hl8; have HO8 := hid o8; have HB8 := hid (B1.out.trans (c8.below (Nat.le_refl _) B1.out.size)); clear o8 c8 hl8)
        go_roundw
        case rel => exact ⟨k + 1, by omega, by go_num, HA2.out, by rw [HS.out]; exact HO8.out, HB8.out⟩
        case measure => simp [intOf]; omega
    · obtain rfl : k = n := by omega
      have HF := hid (HGood.out HAll.out)
      have HW := hid (HW2.out HF.out)
      go_wp2
      go_ret2
      exact ⟨_, by rw [HF.out]; rfl, by rw [HW.out, ← HN.out]; exact HO.out, HB.out⟩
end Go.Proofs.YtglkchcfggclaabDoor.kd
