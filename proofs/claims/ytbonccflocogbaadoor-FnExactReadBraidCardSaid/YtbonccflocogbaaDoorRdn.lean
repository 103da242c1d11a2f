/-
  ReadDecimal: contracts of the program and of its model.
-/
import Derived.Test.YtbonccflocogbaaDoorLaid
import Derived.Test.YtbonccflocogbaaDoorNum
import Derived.Test.YtbonccflocogbaaDoorShelfPi
import Derived.Deep.QuietTactic
import Derived.BigQuiet
import Derived.Lib.SmallJoins
namespace Go.Proofs.YtbonccflocogbaaDoor.rn
open Go.RowKit

theorem hid {p : Prop} (h : p) : Hid p := h
theorem len_data (s : ByteArray) : s.data.toList.length = s.size := by simp
theorem bytes_eta (s : ByteArray) : (⟨s.data.toList.toArray⟩ : ByteArray) = s := by rcases s with ⟨⟨l⟩⟩; rfl

theorem bytes_ne {u s : ByteArray} (h : ¬ u = s) : (u.toList == s.toList) = false := by
  refine beq_eq_false_iff_ne.2 (fun e => h ?_)
  rw [ByteArray.toList_eq, ByteArray.toList_eq] at e
  rw [← bytes_eta u, ← bytes_eta s, e]

theorem specDig (c : Int) (w : World) : Calls Tryd.prog 19 #[.int .u8 c] w fun e w' => e = .returned (.bool (decide (48 ≤ c ∧ c ≤ 57))) ∧ w = w' := by
  by_cases h1 : 48 ≤ c <;> by_cases h2 : c ≤ 57 <;>
    (go_enter Tryd.func19, Tryd.ntmps19
     go_wp2
     go_ret
     exact ⟨by simp [h1, h2], rfl⟩)
theorem within64 (c lo hi : Int) (w : World) : Calls Tryd.prog 25 #[.int .i64 c, .int .i64 lo, .int .i64 hi] w fun e w' => e = .returned (.bool (decide (lo ≤ c ∧ c ≤ hi))) ∧ w = w' := by
  by_cases h1 : lo ≤ c <;> by_cases h2 : c ≤ hi <;>
    (go_enter Tryd.func25, Tryd.ntmps25
     go_wp2
     go_ret
     exact ⟨by simp [h1, h2], rfl⟩)

theorem rd_false_of {l : List UInt8} (h : nu.rdOk l = false) : nu.rdN l = 0 := by rw [nu.rdN, h]; rfl
theorem rd_true_of {l : List UInt8} (h : nu.rdOk l = true) : nu.rdN l = nu.num l := by rw [nu.rdN, if_pos h]
theorem rd_iff {l : List UInt8} {n : Int} (hn : nu.num l = n) (h1 : 1 ≤ (nu.rest l).length) (h9 : (nu.rest l).length ≤ 9) (ha : (nu.rest l).all nu.isD = true) : nu.rdOk l = decide (Lib.itoa n = l) := by
  rw [nu.rdOk, ha, hn, decide_eq_true (⟨h1, h9⟩ : 1 ≤ (nu.rest l).length ∧ (nu.rest l).length ≤ 9)]; simp
theorem rd_bad {l : List UInt8} (h : (nu.rest l).all nu.isD = false) : nu.rdOk l = false := by rw [nu.rdOk, h]; simp
theorem rd_len {l : List UInt8} (h : ¬ (1 ≤ (nu.rest l).length ∧ (nu.rest l).length ≤ 9)) : nu.rdOk l = false := by rw [nu.rdOk, decide_eq_false h]; simp

theorem take_snoc (s : ByteArray) (k : Nat) (h : k < s.size) : s.data.toList.take (k + 1) = s.data.toList.take k ++ [s[k]] := by
  rw [List.take_succ_eq_append_getElem (by simpa using h)]; rfl
theorem all_step (t : ByteArray) (k : Nat) (h : k < t.size) (ha : (t.data.toList.take k).all nu.isD = true) (hc : 48 ≤ (t[k].toNat : Int) ∧ (t[k].toNat : Int) ≤ 57) : (t.data.toList.take (k + 1)).all nu.isD = true := by
  rw [take_snoc t k h, List.all_append, ha]
  simp [nu.isD]; omega
theorem all_bad (t : ByteArray) (k : Nat) (h : k < t.size) (hc : ¬ (48 ≤ (t[k].toNat : Int) ∧ (t[k].toNat : Int) ≤ 57)) : t.data.toList.all nu.isD = false := by
  rw [List.all_eq_false]
  refine ⟨t[k], ?_, by simp [nu.isD]; omega⟩
  show t.data[k] ∈ t.data.toList
  simp
theorem val_step (t : ByteArray) (k : Nat) (h : k < t.size) (hc : 48 ≤ (t[k].toNat : Int) ∧ (t[k].toNat : Int) ≤ 57) : (nu.valD 0 (t.data.toList.take (k + 1)) : Int) = 10 * (nu.valD 0 (t.data.toList.take k) : Int) + ((t[k].toNat : Int) - 48) := by
  rw [take_snoc t k h, nu.valD_app, nu.valD_cons, nu.valD_nil]
  omega
theorem val_small (t : ByteArray) (k : Nat) (h9 : t.size ≤ 9) (ha : (t.data.toList.take k).all nu.isD = true) : 0 ≤ (nu.valD 0 (t.data.toList.take k) : Int) ∧ (nu.valD 0 (t.data.toList.take k) : Int) < 1000000000 := by
  have h := nu.valD_lt _ ha 0
  have h3 := nu.p10_mono (t.data.toList.take k).length 9 (by rw [List.length_take, len_data]; omega)
  rw [nu.p10_nine] at h3
  omega
theorem rest_plain (s : ByteArray) (h0 : 0 < s.size) (h : s[0].toNat ≠ 45) : nu.rest s.data.toList = s.data.toList ∧ nu.num s.data.toList = (nu.valD 0 s.data.toList : Int) := by
  rcases s with ⟨⟨l⟩⟩
  cases l with
  | nil => simp [ByteArray.size] at h0
  | cons c r =>
    have hc : ¬ (c = 45) := fun e => h (by subst e; rfl)
    simp [nu.rest, nu.num, hc]
theorem rest_minus (s : ByteArray) (h0 : 0 < s.size) (h : s[0].toNat = 45) : nu.rest s.data.toList = s.data.toList.tail ∧ nu.num s.data.toList = -(nu.valD 0 s.data.toList.tail : Int) := by
  rcases s with ⟨⟨l⟩⟩
  cases l with
  | nil => simp [ByteArray.size] at h0
  | cons c r =>
    have hc : c = 45 := UInt8.toNat_inj.1 h
    simp [nu.rest, nu.num, hc]

theorem u8_in (n : Int) (h : 0 ≤ n ∧ n ≤ 255) : IntKind.u8.wrap n = n := by
  unfold IntKind.wrap; simp [IntKind.bits, IntKind.signed]; omega
theorem tail_of (s : ByteArray) (h : 0 < s.size) : (s.extract 1 s.size).data.toList = s.data.toList.tail := by
  rcases s with ⟨⟨l⟩⟩
  simp [ByteArray.size]
  exact List.take_of_length_le (by simp)

theorem spec0 (w : World) : Calls Tryd.prog 10 #[.string ByteArray.empty] w fun e w' => e = .returned (.tuple #[.int .i64 0, .bool false]) ∧ Below w.heap.size w w' := by
  go_enter Tryd.func10, Tryd.ntmps10
  go_wp2
  refine bodyPost_ret (v := .tuple #[.int .i64 0, .bool false]) (by simp [results, Tryd.results10, go_sem]) rfl ⟨rfl, Below.refl _ _⟩

set_option maxHeartbeats 1600000 in
theorem specPlain (s : ByteArray) (h0 : 0 < s.size) (hs : s.size ≤ 1048576) (h45 : s[0].toNat ≠ 45) (w : World) :
    Calls Tryd.prog 10 #[.string s] w fun e w' => e = .returned (.tuple #[.int .i64 (nu.rdN s.data.toList), .bool (nu.rdOk s.data.toList)]) ∧ Below w.heap.size w w' := by
  have hne : ¬ s.toList = [] := by
    rw [ByteArray.toList_eq]
    intro h
    have := congrArg List.length h
    rw [len_data, List.length_nil] at this
    omega
  have hne' : s.toList.isEmpty = false := by simpa using hne
  have HR : Hid (nu.rest s.data.toList = s.data.toList ∧ nu.num s.data.toList = (nu.valD 0 s.data.toList : Int)) := hid (rest_plain s h0 h45)
  have h45i : ¬ ((s[0].toNat : Int) = 45) := by omega
  have hd45 : decide ((s[0].toNat : Int) = 45) = false := decide_eq_false h45i
  have hb45 : ((s[0].toNat : Int) == 45) = false := beq_eq_false_iff_ne.2 h45i
  clear h45
  by_cases h9 : 1 ≤ s.size ∧ s.size ≤ 9
  · obtain ⟨h1, h9⟩ := h9
    have hlt1 : decide ((s.size : Int) < 1) = false := by simp; omega
    have hgt9 : decide (9 < (s.size : Int)) = false := by simp; omega
    go_enter Tryd.func10, Tryd.ntmps10
    go_wp2
    go_loopw [5, 6] (fun n i wr => wr = w ∧ ∃ k : Nat, k ≤ s.size ∧ i = .int .i64 k ∧ n = .int .i64 (nu.valD 0 (s.data.toList.take k)) ∧ (s.data.toList.take k).all nu.isD = true) (fun _ i _ => s.size - (intOf i).toNat)
    case atStart => exact ⟨rfl, 0, Nat.zero_le _, rfl, by simp [nu.valD_nil], rfl⟩
    case round =>
      obtain ⟨rfl, k, hk, rfl, rfl, ha⟩ := hrel
      have HA := hid ha
      have hv := val_small s k h9 ha
      obtain ⟨hv0, hv1⟩ := hv
      clear ha
      by_cases hlt : k < s.size
      · have HS := hid (fun h => val_step s k hlt h)
        have HA2 := hid (fun h => all_step s k hlt HA.out h)
        have HBad := hid (fun h => all_bad s k hlt h)
        generalize (nu.valD 0 (s.data.toList.take k) : Int) = n at *
        have hc0 : 0 ≤ (s[k].toNat : Int) := by omega
        have hc1 : (s[k].toNat : Int) ≤ 255 := by have := s[k].toNat_lt; omega
        by_cases hcd : 48 ≤ (s[k].toNat : Int) ∧ (s[k].toNat : Int) ≤ 57
        · have HV := hid (HS.out hcd)
          have HA3 := hid (HA2.out hcd)
          have hdd : decide (48 ≤ (s[k].toNat : Int) ∧ (s[k].toNat : Int) ≤ 57) = true := decide_eq_true hcd
          have HD := hid (specDig (s[k].toNat : Int))
          rw [hdd] at HD
          obtain ⟨hcd0, hcd1⟩ := hcd
          have e1 : IntKind.i64.wrap (10 * n) = 10 * n := IntWalk.i64_in _ (by omega)
          have e2 : IntKind.u8.wrap ((s[k].toNat : Int) - 48) = (s[k].toNat : Int) - 48 := u8_in _ (by omega)
          have e3 : IntKind.i64.wrap ((s[k].toNat : Int) - 48) = (s[k].toNat : Int) - 48 := IntWalk.i64_in _ (by omega)
          have e4 : IntKind.i64.wrap (10 * n + ((s[k].toNat : Int) - 48)) = 10 * n + ((s[k].toNat : Int) - 48) := IntWalk.i64_in _ (by omega)
          clear HS HA2 HBad hdd
          go_wp2_with (go_at_call 19; refine (HD.out _).mono ?_; rintro e w' ⟨rfl, rfl⟩)
          go_roundw
          case rel => exact ⟨trivial, k + 1, by omega, by go_num, by rw [HV.out], HA3.out⟩
          case measure => simp [intOf]; omega
        · have HBd := hid (HBad.out hcd)
          have hdd : decide (48 ≤ (s[k].toNat : Int) ∧ (s[k].toNat : Int) ≤ 57) = false := decide_eq_false hcd
          have HD := hid (specDig (s[k].toNat : Int))
          rw [hdd] at HD
          clear HS HA2 HBad hdd hcd
          have HF : Hid (nu.rdOk s.data.toList = false) := hid (rd_bad (by rw [HR.out.1]; exact HBd.out))
          go_wp2_with (go_at_call 19; refine (HD.out _).mono ?_; rintro e w' ⟨rfl, rfl⟩)
          refine bodyPost_ret (v := .tuple #[.int .i64 0, .bool false]) (by simp [results, Tryd.results10, go_sem]) rfl ⟨by rw [rd_false_of HF.out, HF.out], Below.refl _ _⟩
      · obtain rfl : k = s.size := by omega
        have e0 : s.data.toList.take s.size = s.data.toList := List.take_of_length_le (by rw [len_data]; omega)
        rw [e0] at hv0 hv1 HA ⊢
        clear e0
        have HE : Hid (∀ n : Int, n = (nu.valD 0 s.data.toList : Int) → nu.rdOk s.data.toList = decide (Lib.itoa n = s.data.toList) ∧ nu.rdN s.data.toList = (if Lib.itoa n = s.data.toList then n else 0)) := hid (fun n hn => by
          have h := rd_iff (l := s.data.toList) (n := n) (by rw [HR.out.2, hn]) (by rw [HR.out.1, len_data]; omega) (by rw [HR.out.1, len_data]; omega) (by rw [HR.out.1]; exact HA.out)
          refine ⟨h, ?_⟩
          by_cases he : Lib.itoa n = s.data.toList
          · rw [if_pos he, nu.rdN, h, decide_eq_true he, if_pos rfl, HR.out.2, hn]
          · rw [if_neg he, nu.rdN, h, decide_eq_false he]; rfl)
        generalize (nu.valD 0 s.data.toList : Int) = m at *
        have HE1 := hid (HE.out (m) rfl)
        have HDc := hid (dc.dec (m) wr (by omega) (by omega))
        by_cases hit : Lib.itoa (m) = s.data.toList
        · rw [hit, bytes_eta] at HDc
          have HQ := hid (show nu.rdOk s.data.toList = true ∧ nu.rdN s.data.toList = m from ⟨by rw [HE1.out.1, decide_eq_true hit], by rw [HE1.out.2, if_pos hit]⟩)
          clear hit HE HE1
          go_wp2_with fail
          refine HDc.out.mono ?_
          rintro e w1 ⟨rfl, hb⟩
          go_wp2
          refine bodyPost_ret (v := .tuple #[.int .i64 (m), .bool true]) (by simp [results, Tryd.results10, go_sem]) rfl ⟨by rw [HQ.out.1, HQ.out.2], hb⟩
        · have HQ := hid (show nu.rdOk s.data.toList = false ∧ nu.rdN s.data.toList = 0 from ⟨by rw [HE1.out.1, decide_eq_false hit], by rw [HE1.out.2, if_neg hit]⟩)
          obtain ⟨u, hu⟩ : ∃ u : ByteArray, u = ⟨(Lib.itoa (m)).toArray⟩ := ⟨_, rfl⟩
          rw [← hu] at HDc
          have hus : ¬ u = s := fun h => hit (by rw [← h, hu])
          have hus1 : (u.toList == s.toList) = false := bytes_ne hus
          clear hit hu HE HE1
          go_wp2_with fail
          refine HDc.out.mono ?_
          rintro e w1 ⟨rfl, hb⟩
          go_wp2
          refine bodyPost_ret (v := .tuple #[.int .i64 0, .bool false]) (by simp [results, Tryd.results10, go_sem]) rfl ⟨by rw [HQ.out.1, HQ.out.2], hb⟩
  · have HF : Hid (nu.rdOk s.data.toList = false) := hid (rd_len (by rw [HR.out.1, len_data]; exact h9))
    rw [rd_false_of HF.out, HF.out]
    by_cases h1 : 1 ≤ s.size
    · have hlt1 : decide ((s.size : Int) < 1) = false := by simp; omega
      have hgt9 : decide (9 < (s.size : Int)) = true := by simp; omega
      go_enter Tryd.func10, Tryd.ntmps10
      go_wp2
      refine bodyPost_ret (v := .tuple #[.int .i64 0, .bool false]) (by simp [results, Tryd.results10, go_sem]) rfl ⟨rfl, Below.refl _ _⟩
    · have hlt1 : decide ((s.size : Int) < 1) = true := by simp; omega
      go_enter Tryd.func10, Tryd.ntmps10
      go_wp2
      refine bodyPost_ret (v := .tuple #[.int .i64 0, .bool false]) (by simp [results, Tryd.results10, go_sem]) rfl ⟨rfl, Below.refl _ _⟩

set_option maxHeartbeats 1600000 in
theorem specMinus (s : ByteArray) (h0 : 0 < s.size) (hs : s.size ≤ 1048576) (h45 : s[0].toNat = 45) (w : World) :
    Calls Tryd.prog 10 #[.string s] w fun e w' => e = .returned (.tuple #[.int .i64 (nu.rdN s.data.toList), .bool (nu.rdOk s.data.toList)]) ∧ Below w.heap.size w w' := by
  have hne : ¬ s.toList = [] := by
    rw [ByteArray.toList_eq]
    intro h
    have := congrArg List.length h
    rw [len_data, List.length_nil] at this
    omega
  have hne' : s.toList.isEmpty = false := by simpa using hne
  have h45i : (s[0].toNat : Int) = 45 := by omega
  have hd45 : decide ((s[0].toNat : Int) = 45) = true := decide_eq_true h45i
  have hb45 : ((s[0].toNat : Int) == 45) = true := beq_iff_eq.2 h45i
  obtain ⟨t, ht⟩ : ∃ t, t = s.extract 1 s.size := ⟨_, rfl⟩
  have hts : t.size + 1 = s.size := by rw [ht]; simp; omega
  have htl : t.data.toList = s.data.toList.tail := by rw [ht]; exact tail_of s h0
  have HR : Hid (nu.rest s.data.toList = t.data.toList ∧ nu.num s.data.toList = -(nu.valD 0 t.data.toList : Int)) := hid (by rw [htl]; exact rest_minus s h0 h45)
  have HT := hid ht.symm
  clear htl ht h45
  by_cases h9 : 1 ≤ t.size ∧ t.size ≤ 9
  · obtain ⟨h1, h9⟩ := h9
    have hlt1 : decide ((t.size : Int) < 1) = false := by simp; omega
    have hgt9 : decide (9 < (t.size : Int)) = false := by simp; omega
    go_enter Tryd.func10, Tryd.ntmps10
    go_wp2
    rw [HT.out]
    go_wp2
    go_loopw [5, 6] (fun n i wr => wr = w ∧ ∃ k : Nat, k ≤ t.size ∧ i = .int .i64 k ∧ n = .int .i64 (nu.valD 0 (t.data.toList.take k)) ∧ (t.data.toList.take k).all nu.isD = true) (fun _ i _ => t.size - (intOf i).toNat)
    case atStart => exact ⟨rfl, 0, Nat.zero_le _, rfl, by simp [nu.valD_nil], rfl⟩
    case round =>
      obtain ⟨rfl, k, hk, rfl, rfl, ha⟩ := hrel
      have HA := hid ha
      have hv := val_small t k h9 ha
      obtain ⟨hv0, hv1⟩ := hv
      clear ha
      by_cases hlt : k < t.size
      · have HS := hid (fun h => val_step t k hlt h)
        have HA2 := hid (fun h => all_step t k hlt HA.out h)
        have HBad := hid (fun h => all_bad t k hlt h)
        generalize (nu.valD 0 (t.data.toList.take k) : Int) = n at *
        have hc0 : 0 ≤ (t[k].toNat : Int) := by omega
        have hc1 : (t[k].toNat : Int) ≤ 255 := by have := t[k].toNat_lt; omega
        by_cases hcd : 48 ≤ (t[k].toNat : Int) ∧ (t[k].toNat : Int) ≤ 57
        · have HV := hid (HS.out hcd)
          have HA3 := hid (HA2.out hcd)
          have hdd : decide (48 ≤ (t[k].toNat : Int) ∧ (t[k].toNat : Int) ≤ 57) = true := decide_eq_true hcd
          have HD := hid (specDig (t[k].toNat : Int))
          rw [hdd] at HD
          obtain ⟨hcd0, hcd1⟩ := hcd
          have e1 : IntKind.i64.wrap (10 * n) = 10 * n := IntWalk.i64_in _ (by omega)
          have e2 : IntKind.u8.wrap ((t[k].toNat : Int) - 48) = (t[k].toNat : Int) - 48 := u8_in _ (by omega)
          have e3 : IntKind.i64.wrap ((t[k].toNat : Int) - 48) = (t[k].toNat : Int) - 48 := IntWalk.i64_in _ (by omega)
          have e4 : IntKind.i64.wrap (10 * n + ((t[k].toNat : Int) - 48)) = 10 * n + ((t[k].toNat : Int) - 48) := IntWalk.i64_in _ (by omega)
          clear HS HA2 HBad hdd
          go_wp2_with (go_at_call 19; refine (HD.out _).mono ?_; rintro e w' ⟨rfl, rfl⟩)
          go_roundw
          case rel => exact ⟨trivial, k + 1, by omega, by go_num, by rw [HV.out], HA3.out⟩
          case measure => simp [intOf]; omega
        · have HBd := hid (HBad.out hcd)
          have hdd : decide (48 ≤ (t[k].toNat : Int) ∧ (t[k].toNat : Int) ≤ 57) = false := decide_eq_false hcd
          have HD := hid (specDig (t[k].toNat : Int))
          rw [hdd] at HD
          clear HS HA2 HBad hdd hcd
          have HF : Hid (nu.rdOk s.data.toList = false) := hid (rd_bad (by rw [HR.out.1]; exact HBd.out))
          go_wp2_with (go_at_call 19; refine (HD.out _).mono ?_; rintro e w' ⟨rfl, rfl⟩)
          refine bodyPost_ret (v := .tuple #[.int .i64 0, .bool false]) (by simp [results, Tryd.results10, go_sem]) rfl ⟨by rw [rd_false_of HF.out, HF.out], Below.refl _ _⟩
      · obtain rfl : k = t.size := by omega
        have e0 : t.data.toList.take t.size = t.data.toList := List.take_of_length_le (by rw [len_data]; omega)
        rw [e0] at hv0 hv1 HA ⊢
        clear e0
        have HE : Hid (∀ n : Int, n = -(nu.valD 0 t.data.toList : Int) → nu.rdOk s.data.toList = decide (Lib.itoa n = s.data.toList) ∧ nu.rdN s.data.toList = (if Lib.itoa n = s.data.toList then n else 0)) := hid (fun n hn => by
          have h := rd_iff (l := s.data.toList) (n := n) (by rw [HR.out.2, hn]) (by rw [HR.out.1, len_data]; omega) (by rw [HR.out.1, len_data]; omega) (by rw [HR.out.1]; exact HA.out)
          refine ⟨h, ?_⟩
          by_cases he : Lib.itoa n = s.data.toList
          · rw [if_pos he, nu.rdN, h, decide_eq_true he, if_pos rfl, HR.out.2, hn]
          · rw [if_neg he, nu.rdN, h, decide_eq_false he]; rfl)
        generalize (nu.valD 0 t.data.toList : Int) = m at *
        have e5 : IntKind.i64.wrap (-m) = -m := IntWalk.i64_in _ (by omega)
        have hlt2 : decide ((t.size : Int) < (s.size : Int)) = true := by simp; omega
        have HE1 := hid (HE.out (-m) rfl)
        have HDc := hid (dc.dec (-m) wr (by omega) (by omega))
        by_cases hit : Lib.itoa (-m) = s.data.toList
        · rw [hit, bytes_eta] at HDc
          have HQ := hid (show nu.rdOk s.data.toList = true ∧ nu.rdN s.data.toList = -m from ⟨by rw [HE1.out.1, decide_eq_true hit], by rw [HE1.out.2, if_pos hit]⟩)
          clear hit HE HE1
          go_wp2_with fail
          refine HDc.out.mono ?_
          rintro e w1 ⟨rfl, hb⟩
          go_wp2
          refine bodyPost_ret (v := .tuple #[.int .i64 (-m), .bool true]) (by simp [results, Tryd.results10, go_sem]) rfl ⟨by rw [HQ.out.1, HQ.out.2], hb⟩
        · have HQ := hid (show nu.rdOk s.data.toList = false ∧ nu.rdN s.data.toList = 0 from ⟨by rw [HE1.out.1, decide_eq_false hit], by rw [HE1.out.2, if_neg hit]⟩)
          obtain ⟨u, hu⟩ : ∃ u : ByteArray, u = ⟨(Lib.itoa (-m)).toArray⟩ := ⟨_, rfl⟩
          rw [← hu] at HDc
          have hus : ¬ u = s := fun h => hit (by rw [← h, hu])
          have hus1 : (u.toList == s.toList) = false := bytes_ne hus
          clear hit hu HE HE1
          go_wp2_with fail
          refine HDc.out.mono ?_
          rintro e w1 ⟨rfl, hb⟩
          go_wp2
          refine bodyPost_ret (v := .tuple #[.int .i64 0, .bool false]) (by simp [results, Tryd.results10, go_sem]) rfl ⟨by rw [HQ.out.1, HQ.out.2], hb⟩
  · have HF : Hid (nu.rdOk s.data.toList = false) := hid (rd_len (by rw [HR.out.1, len_data]; exact h9))
    rw [rd_false_of HF.out, HF.out]
    by_cases h1 : 1 ≤ t.size
    · have hlt1 : decide ((t.size : Int) < 1) = false := by simp; omega
      have hgt9 : decide (9 < (t.size : Int)) = true := by simp; omega
      go_enter Tryd.func10, Tryd.ntmps10
      go_wp2
      rw [HT.out]
      go_wp2
      refine bodyPost_ret (v := .tuple #[.int .i64 0, .bool false]) (by simp [results, Tryd.results10, go_sem]) rfl ⟨rfl, Below.refl _ _⟩
    · have hlt1 : decide ((t.size : Int) < 1) = true := by simp; omega
      go_enter Tryd.func10, Tryd.ntmps10
      go_wp2
      rw [HT.out]
      go_wp2
      refine bodyPost_ret (v := .tuple #[.int .i64 0, .bool false]) (by simp [results, Tryd.results10, go_sem]) rfl ⟨rfl, Below.refl _ _⟩

end Go.Proofs.YtbonccflocogbaaDoor.rn
