/-
  Contracts of the functions behind IsName: spec.IsName and impl.IsName both answer nameB of the text's bytes.
-/
import Derived.Test.YtalioekeinohkaaRows
import Derived.WalkKit
import Derived.Deep.QuietTactic
import Derived.BigQuiet
namespace Go.Proofs.Ytalioekeinohkaa.nm
open Go.RowKit

theorem hid {p : Prop} (h : p) : Hid p := h
def smallB (c : Int) : Bool := decide (97 ≤ c ∧ c ≤ 122)
def digitB (c : Int) : Bool := decide (48 ≤ c ∧ c ≤ 57)
def okB (c : UInt8) : Bool := smallB c.toNat || digitB c.toNat
def nameB (l : List UInt8) : Bool := decide (1 ≤ l.length) && decide (l.length ≤ 10) && smallB (l.headD 0).toNat && l.all okB

theorem specSmall (c : Int) (w : World) : Calls Try.prog 20 #[.int .u8 c] w fun e w' => e = .returned (.bool (smallB c)) ∧ w = w' := by
  by_cases h1 : 97 ≤ c <;> by_cases h2 : c ≤ 122 <;>
    (go_enter Try.func20, Try.ntmps20
     go_wp2
     go_ret
     exact ⟨by simp [smallB, h1, h2], rfl⟩)

theorem specDigit (c : Int) (w : World) : Calls Try.prog 21 #[.int .u8 c] w fun e w' => e = .returned (.bool (digitB c)) ∧ w = w' := by
  by_cases h1 : 48 ≤ c <;> by_cases h2 : c ≤ 57 <;>
    (go_enter Try.func21, Try.ntmps21
     go_wp2
     go_ret
     exact ⟨by simp [digitB, h1, h2], rfl⟩)

theorem withinByte (c lo hi : Int) (w : World) : Calls Try.prog 33 #[.int .u8 c, .int .u8 lo, .int .u8 hi] w fun e w' => e = .returned (.bool (decide (lo ≤ c ∧ c ≤ hi))) ∧ w = w' := by
  by_cases h1 : lo ≤ c <;> by_cases h2 : c ≤ hi <;>
    (go_enter Try.func33, Try.ntmps33
     go_wp2
     go_ret
     exact ⟨by simp [h1, h2], rfl⟩)

theorem withinInt (c lo hi : Int) (w : World) : Calls Try.prog 22 #[.int .i64 c, .int .i64 lo, .int .i64 hi] w fun e w' => e = .returned (.bool (decide (lo ≤ c ∧ c ≤ hi))) ∧ w = w' := by
  by_cases h1 : lo ≤ c <;> by_cases h2 : c ≤ hi <;>
    (go_enter Try.func22, Try.ntmps22
     go_wp2
     go_ret
     exact ⟨by simp [h1, h2], rfl⟩)

theorem implSmall (c : Int) (w : World) : Calls Try.prog 23 #[.int .u8 c] w fun e w' => e = .returned (.bool (smallB c)) ∧ w = w' := by
  go_enter Try.func23, Try.ntmps23
  go_wp2_with (go_at_call 33; refine (withinByte _ _ _ _).mono ?_; rintro e w' ⟨rfl, rfl⟩)
  go_ret
  exact ⟨by simp [smallB, Bool.decide_and], rfl⟩

theorem implDigit (c : Int) (w : World) : Calls Try.prog 24 #[.int .u8 c] w fun e w' => e = .returned (.bool (digitB c)) ∧ w = w' := by
  go_enter Try.func24, Try.ntmps24
  go_wp2_with (go_at_call 33; refine (withinByte _ _ _ _).mono ?_; rintro e w' ⟨rfl, rfl⟩)
  go_ret
  exact ⟨by simp [digitB, Bool.decide_and], rfl⟩

theorem take_snoc (s : ByteArray) (k : Nat) (h : k < s.size) : s.data.toList.take (k + 1) = s.data.toList.take k ++ [s[k]] := by
  rw [List.take_succ_eq_append_getElem (by simpa using h)]; rfl

theorem head_zero (s : ByteArray) (h : 0 < s.size) : s.data.toList.headD 0 = s[0] := by
  rcases s with ⟨⟨l⟩⟩
  cases l with
  | nil => simp [ByteArray.size] at h
  | cons a r => rfl

theorem len_data (s : ByteArray) : s.data.toList.length = s.size := by simp

theorem name_long (s : ByteArray) (h : 10 < s.size) : nameB s.data.toList = false := by
  have := len_data s
  simp [nameB]; omega
theorem name_none (s : ByteArray) (h : s.size = 0) : nameB s.data.toList = false := by
  have := len_data s
  simp [nameB]; omega
theorem name_head (s : ByteArray) (h : 0 < s.size) (hb : smallB (s[0].toNat : Int) = false) : nameB s.data.toList = false := by
  rw [nameB, head_zero s h, hb]; simp
theorem name_bad (s : ByteArray) (k : Nat) (h : k < s.size) (h1 : smallB (s[k].toNat : Int) = false) (h2 : digitB (s[k].toNat : Int) = false) : nameB s.data.toList = false := by
  have : s.data.toList.all okB = false := by
    rw [List.all_eq_false]
    refine ⟨s[k], ?_, by simp [okB, h1, h2]⟩
    show s.data[k] ∈ s.data.toList
    simp
  rw [nameB, this]; simp
theorem name_good (s : ByteArray) (h0 : 0 < s.size) (h1 : s.size ≤ 10) (hb : smallB (s[0].toNat : Int) = true) (ha : (s.data.toList.take s.size).all okB = true) : nameB s.data.toList = true := by
  rw [List.take_of_length_le (by simp)] at ha
  rw [nameB, head_zero s h0, hb, ha, len_data]
  simp; omega
theorem all_step (s : ByteArray) (k : Nat) (h : k < s.size) (ha : (s.data.toList.take k).all okB = true) (hk : smallB (s[k].toNat : Int) = true ∨ digitB (s[k].toNat : Int) = true) : (s.data.toList.take (k + 1)).all okB = true := by
  rw [take_snoc s k h, List.all_append, ha]
  rcases hk with hk | hk <;> simp [okB, hk]

set_option maxHeartbeats 400000 in
theorem specName (s : ByteArray) (w : World) :
    Calls Try.prog 6 #[.string s] w fun e w' => e = .returned (.bool (nameB s.data.toList)) ∧ w = w' := by
  by_cases h0 : s.size = 0
  · have hn := name_none s h0
    obtain rfl : s = ByteArray.empty := by rcases s with ⟨⟨l⟩⟩; simp [ByteArray.size] at h0; subst h0; rfl
    go_enter Try.func6, Try.ntmps6
    go_wp2
    go_ret
    exact ⟨by rw [hn]; rfl, rfl⟩
  have hp : 0 < s.size := by omega
  have hne : ¬ s.toList = [] := by
    rw [ByteArray.toList_eq]
    intro h
    have := congrArg List.length h
    rw [len_data] at this
    exact h0 this
  have hne' : s.toList.isEmpty = false := by simpa using hne
  by_cases h1 : s.size ≤ 10
  · have hd : decide (10 < (s.size : Int)) = false := by simp; omega
    by_cases hb : smallB (s[0].toNat : Int) = true
    · have HG : Hid ((s.data.toList.take s.size).all okB = true → nameB s.data.toList = true) := name_good s hp h1 hb
      go_enter Try.func6, Try.ntmps6
      go_wp2_with (go_at_call 20; refine (specSmall _ _).mono ?_; rintro e w' ⟨rfl, rfl⟩)
      go_loop [3] (fun i => ∃ k : Nat, k ≤ s.size ∧ i = .int .i64 k ∧ (s.data.toList.take k).all okB = true) (fun i => s.size - (intOf i).toNat)
      case atStart => exact ⟨0, Nat.zero_le _, rfl, rfl⟩
      case round =>
        obtain ⟨k, hk, rfl, ha⟩ := hrel
        have HA : Hid ((s.data.toList.take k).all okB = true) := ha
        clear ha
        by_cases hlt : k < s.size
        · have HS : Hid (smallB (s[k].toNat : Int) = true ∨ digitB (s[k].toNat : Int) = true → (s.data.toList.take (k + 1)).all okB = true) := all_step s k hlt HA.out
          have HB : Hid (smallB (s[k].toNat : Int) = false → digitB (s[k].toNat : Int) = false → nameB s.data.toList = false) := name_bad s k hlt
          by_cases c1 : smallB (s[k].toNat : Int) = true
          · go_wp2_with (go_at_call 20; refine (specSmall _ _).mono ?_; rintro e w' ⟨rfl, rfl⟩)
            go_round
            case rel => exact ⟨k + 1, by omega, by go_num, HS.out (.inl c1)⟩
            case measure => simp [intOf]; omega
          · have c1' : smallB (s[k].toNat : Int) = false := by simpa using c1
            clear c1
            by_cases c2 : digitB (s[k].toNat : Int) = true
            · go_wp2_with (first | (go_at_call 20; refine (specSmall _ _).mono ?_; rintro e w' ⟨rfl, rfl⟩) | (go_at_call 21; refine (specDigit _ _).mono ?_; rintro e w' ⟨rfl, rfl⟩))
              go_round
              case rel => exact ⟨k + 1, by omega, by go_num, HS.out (.inr c2)⟩
              case measure => simp [intOf]; omega
            · have c2' : digitB (s[k].toNat : Int) = false := by simpa using c2
              clear c2
              go_wp2_with (first | (go_at_call 20; refine (specSmall _ _).mono ?_; rintro e w' ⟨rfl, rfl⟩) | (go_at_call 21; refine (specDigit _ _).mono ?_; rintro e w' ⟨rfl, rfl⟩))
              go_ret
              exact ⟨by rw [HB.out c1' c2']; rfl, rfl⟩
        · obtain rfl : k = s.size := by omega
          go_wp2
          go_ret
          exact ⟨by rw [HG.out HA.out]; rfl, rfl⟩
    · have hb' : smallB (s[0].toNat : Int) = false := by simpa using hb
      clear hb
      have HN := hid (name_head s hp hb')
      go_enter Try.func6, Try.ntmps6
      go_wp2_with (go_at_call 20; refine (specSmall _ _).mono ?_; rintro e w' ⟨rfl, rfl⟩)
      go_ret
      exact ⟨by rw [HN.out]; rfl, rfl⟩
  · have hd : decide (10 < (s.size : Int)) = true := by simp; omega
    have HN := hid (name_long s (by omega))
    go_enter Try.func6, Try.ntmps6
    go_wp2
    go_ret
    exact ⟨by rw [HN.out]; rfl, rfl⟩

set_option maxHeartbeats 400000 in
theorem implName (s : ByteArray) (w : World) :
    Calls Try.prog 7 #[.string s] w fun e w' => e = .returned (.bool (nameB s.data.toList)) ∧ w = w' := by
  by_cases h1 : 1 ≤ s.size ∧ s.size ≤ 10
  · obtain ⟨hp, h1⟩ := h1
    have hd : decide ((1 : Int) ≤ (s.size : Int) ∧ (s.size : Int) ≤ 10) = true := by simp; omega
    by_cases hb : smallB (s[0].toNat : Int) = true
    · have HG : Hid ((s.data.toList.take s.size).all okB = true → nameB s.data.toList = true) := name_good s hp h1 hb
      go_enter Try.func7, Try.ntmps7
      go_wp2_with (first | (go_at_call 22; refine (withinInt _ _ _ _).mono ?_; rintro e w' ⟨rfl, rfl⟩) | (go_at_call 23; refine (implSmall _ _).mono ?_; rintro e w' ⟨rfl, rfl⟩))
      go_loop [16] (fun i => ∃ k : Nat, k ≤ s.size ∧ i = .int .i64 k ∧ (s.data.toList.take k).all okB = true) (fun i => s.size - (intOf i).toNat)
      case atStart => exact ⟨0, Nat.zero_le _, rfl, rfl⟩
      case round =>
        obtain ⟨k, hk, rfl, ha⟩ := hrel
        have HA : Hid ((s.data.toList.take k).all okB = true) := ha
        clear ha
        by_cases hlt : k < s.size
        · have HS : Hid (smallB (s[k].toNat : Int) = true ∨ digitB (s[k].toNat : Int) = true → (s.data.toList.take (k + 1)).all okB = true) := all_step s k hlt HA.out
          have HB : Hid (smallB (s[k].toNat : Int) = false → digitB (s[k].toNat : Int) = false → nameB s.data.toList = false) := name_bad s k hlt
          by_cases c1 : smallB (s[k].toNat : Int) = true
          · go_wp2_with (go_at_call 23; refine (implSmall _ _).mono ?_; rintro e w' ⟨rfl, rfl⟩)
            go_round
            case rel => exact ⟨k + 1, by omega, by go_num, HS.out (.inl c1)⟩
            case measure => simp [intOf]; omega
          · have c1' : smallB (s[k].toNat : Int) = false := by simpa using c1
            clear c1
            by_cases c2 : digitB (s[k].toNat : Int) = true
            · go_wp2_with (first | (go_at_call 23; refine (implSmall _ _).mono ?_; rintro e w' ⟨rfl, rfl⟩) | (go_at_call 24; refine (implDigit _ _).mono ?_; rintro e w' ⟨rfl, rfl⟩))
              go_round
              case rel => exact ⟨k + 1, by omega, by go_num, HS.out (.inr c2)⟩
              case measure => simp [intOf]; omega
            · have c2' : digitB (s[k].toNat : Int) = false := by simpa using c2
              clear c2
              go_wp2_with (first | (go_at_call 23; refine (implSmall _ _).mono ?_; rintro e w' ⟨rfl, rfl⟩) | (go_at_call 24; refine (implDigit _ _).mono ?_; rintro e w' ⟨rfl, rfl⟩))
              go_ret
              exact ⟨by rw [HB.out c1' c2']; rfl, rfl⟩
        · obtain rfl : k = s.size := by omega
          go_wp2
          go_ret
          exact ⟨by rw [HG.out HA.out]; rfl, rfl⟩
    · have hb' : smallB (s[0].toNat : Int) = false := by simpa using hb
      clear hb
      have HN := hid (name_head s hp hb')
      go_enter Try.func7, Try.ntmps7
      go_wp2_with (first | (go_at_call 22; refine (withinInt _ _ _ _).mono ?_; rintro e w' ⟨rfl, rfl⟩) | (go_at_call 23; refine (implSmall _ _).mono ?_; rintro e w' ⟨rfl, rfl⟩))
      go_ret
      exact ⟨by rw [HN.out]; rfl, rfl⟩
  · have hd : decide ((1 : Int) ≤ (s.size : Int) ∧ (s.size : Int) ≤ 10) = false := by simp; omega
    have HN : Hid (nameB s.data.toList = false) := by
      refine hid ?_
      by_cases h0 : s.size = 0
      · exact name_none s h0
      · exact name_long s (by omega)
    go_enter Try.func7, Try.ntmps7
    go_wp2_with (go_at_call 22; refine (withinInt _ _ _ _).mono ?_; rintro e w' ⟨rfl, rfl⟩)
    go_ret
    exact ⟨by rw [HN.out]; rfl, rfl⟩

end Go.Proofs.Ytalioekeinohkaa.nm
