/-
  Contracts of the functions behind IsName: spec.IsName and impl.IsName both answer nameB of the text's bytes.
-/
import Derived.Test.YtjnanldaihidlaaRows
import Derived.WalkKit
import Derived.Deep.QuietTactic
import Derived.BigQuiet
namespace Go.Proofs.Ytjnanldaihidlaa.nm
open Go.RowKit

theorem hid {p : Prop} (h : p) : Hid p := h
def smallB (c : Int) : Bool := decide (97 ≤ c ∧ c ≤ 122)
def digitB (c : Int) : Bool := decide (48 ≤ c ∧ c ≤ 57)
def okB (c : UInt8) : Bool := smallB c.toNat || digitB c.toNat
def nameB (l : List UInt8) : Bool := decide (1 ≤ l.length) && decide (l.length ≤ 10) && smallB (l.headD 0).toNat && l.all okB

theorem withinByte (c lo hi : Int) (w : World) : Calls Try.prog 151 #[.int .u8 c, .int .u8 lo, .int .u8 hi] w fun e w' => e = .returned (.bool (decide (lo ≤ c ∧ c ≤ hi))) ∧ w = w' := by
  by_cases h1 : lo ≤ c <;> by_cases h2 : c ≤ hi <;>
    (go_enter Try.func151, Try.ntmps151
     go_wp2
     go_ret
     exact ⟨by simp [h1, h2], rfl⟩)

theorem withinInt (c lo hi : Int) (w : World) : Calls Try.prog 87 #[.int .i64 c, .int .i64 lo, .int .i64 hi] w fun e w' => e = .returned (.bool (decide (lo ≤ c ∧ c ≤ hi))) ∧ w = w' := by
  by_cases h1 : lo ≤ c <;> by_cases h2 : c ≤ hi <;>
    (go_enter Try.func87, Try.ntmps87
     go_wp2
     go_ret
     exact ⟨by simp [h1, h2], rfl⟩)

theorem implSmall (c : Int) (w : World) : Calls Try.prog 150 #[.int .u8 c] w fun e w' => e = .returned (.bool (smallB c)) ∧ w = w' := by
  go_enter Try.func150, Try.ntmps150
  go_wp2_with (go_at_call 151; refine (withinByte _ _ _ _).mono ?_; rintro e w' ⟨rfl, rfl⟩)
  go_ret
  exact ⟨by simp [smallB, Bool.decide_and], rfl⟩

theorem take_snoc (s : ByteArray) (k : Nat) (h : k < s.size) : s.data.toList.take (k + 1) = s.data.toList.take k ++ [s[k]] := by
  rw [List.take_succ_eq_append_getElem (by simpa using h)]; rfl

theorem head_zero (s : ByteArray) (h : 0 < s.size) : s.data.toList.headD 0 = s[0] := by
  rcases s with ⟨⟨l⟩⟩
  cases l with
  | nil => simp [ByteArray.size] at h
  | cons a r => rfl

theorem len_data (s : ByteArray) : s.data.toList.length = s.size := by simp

theorem name_long (s : ByteArray) (h : 10 < s.size) : nameB s.data.toList = false := by
  have := len_data s
  simp [nameB]; omega
theorem name_none (s : ByteArray) (h : s.size = 0) : nameB s.data.toList = false := by
  have := len_data s
  simp [nameB]; omega
theorem name_head (s : ByteArray) (h : 0 < s.size) (hb : smallB (s[0].toNat : Int) = false) : nameB s.data.toList = false := by
  rw [nameB, head_zero s h, hb]; simp
theorem name_bad (s : ByteArray) (k : Nat) (h : k < s.size) (h1 : smallB (s[k].toNat : Int) = false) (h2 : digitB (s[k].toNat : Int) = false) : nameB s.data.toList = false := by
  have : s.data.toList.all okB = false := by
    rw [List.all_eq_false]
    refine ⟨s[k], ?_, by simp [okB, h1, h2]⟩
    show s.data[k] ∈ s.data.toList
    simp
  rw [nameB, this]; simp
theorem name_good (s : ByteArray) (h0 : 0 < s.size) (h1 : s.size ≤ 10) (hb : smallB (s[0].toNat : Int) = true) (ha : (s.data.toList.take s.size).all okB = true) : nameB s.data.toList = true := by
  rw [List.take_of_length_le (by simp)] at ha
  rw [nameB, head_zero s h0, hb, ha, len_data]
  simp; omega
theorem all_step (s : ByteArray) (k : Nat) (h : k < s.size) (ha : (s.data.toList.take k).all okB = true) (hk : smallB (s[k].toNat : Int) = true ∨ digitB (s[k].toNat : Int) = true) : (s.data.toList.take (k + 1)).all okB = true := by
  rw [take_snoc s k h, List.all_append, ha]
  rcases hk with hk | hk <;> simp [okB, hk]

end Go.Proofs.Ytjnanldaihidlaa.nm
