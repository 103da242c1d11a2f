/-
  Contract of the model's decimal form: spec.l01Dec answers the decimal numeral.
-/
import Derived.Test.YtnmnikpgjglonaaRows
import Derived.WalkKit
import Derived.Deep.QuietTactic
import Derived.BigQuiet
import Derived.Lib.ItoaNum
import Derived.Laws.IdiomStrings
namespace Go.Proofs.Ytnmnikpgjglonaa.dc
open Go.RowKit

theorem hid {p : Prop} (h : p) : Hid p := h
theorem info8 : (Try.prog.info? 5).map (fun i => (i.zero, i.size, i.bytes)) = some (some (.int .u8 0), 1, 1) := by kernel_rfl

/-- The digits of m, none for 0. -/
def dig (m : Nat) : List UInt8 := if m = 0 then [] else Lib.decDigits m
theorem dig_step (m : Nat) (h : 0 < m) : dig m = dig (m / 10) ++ [UInt8.ofNat (48 + m % 10)] := by
  unfold dig
  rw [if_neg (by omega), Lib.decDigits]
  by_cases h10 : m < 10
  · rw [dif_pos h10, if_pos (by omega), Nat.mod_eq_of_lt h10]; rfl
  · rw [dif_neg h10, if_neg (by omega)]
theorem dig_len (m : Nat) (h : m < 10 ^ 20) : (dig m).length ≤ 20 := by
  unfold dig
  split
  · simp
  · rw [Lib.decDigits_eq]
    simp only [List.length_map, List.length_range]
    rename_i h0
    rcases Nat.lt_or_ge 20 (Lib.nDigits m) with h1 | h1
    · exfalso
      have : ∀ k u : Nat, u < 10 ^ (k + 1) → Lib.nDigits u ≤ k + 1 := by
        intro k
        induction k with
        | zero => intro u hu; rw [Lib.nDigits_small (by simpa using hu)]; omega
        | succ k ih =>
          intro u hu
          by_cases hs : u < 10
          · rw [Lib.nDigits_small hs]; omega
          · rw [Lib.nDigits_big hs]
            have := ih (u / 10) (by rw [Nat.pow_succ] at hu; omega)
            omega
      have := this 19 m h
      omega
    · exact h1

def u8s (bs : List UInt8) : List Value := bs.map fun b => .int .u8 (b.toNat : Int)
/-- Bytes of the call's own. -/
def BOwn (w : World) (lo : Nat) (v : Value) (bs : List UInt8) : Prop := w.ownsRow lo 5 1 v bs.length (u8s bs) ∧ ∃ g cap, v = .slice (some ⟨g, 0, none⟩) bs.length cap

theorem BOwn.built (w : World) : BOwn (w.alloc (.cells #[] 5)) w.heap.size (.slice (some ⟨w.heap.size, 0, none⟩) 0 0) [] :=
  ⟨World.ownsRow_made w #[] 0 (Nat.le_refl _) (by unfold maxLen; omega) (by simp), _, _, rfl⟩
theorem BOwn.one (w : World) (lo : Nat) (b : UInt8) (h : lo ≤ w.heap.size) : BOwn (w.alloc (.cells #[.int .u8 (b.toNat : Int)] 5)) lo (.slice (some ⟨w.heap.size, 0, none⟩) 1 1) [b] :=
  ⟨World.ownsRow_lit w #[.int .u8 (b.toNat : Int)] 1 h (by unfold maxLen; omega) (by simp), _, _, rfl⟩
theorem BOwn.alloc {w : World} {lo : Nat} {v : Value} {bs : List UInt8} (h : BOwn w lo v bs) (o : Obj) : BOwn (w.alloc o) lo v bs := ⟨h.1.alloc o, h.2⟩
theorem u8s_len (bs : List UInt8) : (u8s bs).length = bs.length := by simp [u8s]
theorem BOwn.cell {w : World} {lo : Nat} {g cap n : Nat} {bs : List UInt8} (h : BOwn w lo (.slice (some ⟨g, 0, none⟩) n cap) bs) (j : Nat) (hj : j < bs.length) : w.cell? ⟨g, j, none⟩ = some (.int .u8 (bs[j].toNat : Int)) := by
  obtain ⟨h1, g', cap', hv⟩ := h
  simp only [Value.slice.injEq] at hv
  obtain ⟨_, rfl, rfl⟩ := hv
  rw [h1.cellAt j (by omega)]
  simp [u8s, hj]

/-- append([]byte{b}, out...). -/
theorem wp_front {ops : Array Oper} {rest : List Oper} {o : Oper} {a : Act} {Q : Exit → Act → World → Prop} {w : World} (hgd : o.guard = none) (s x : Operand)
    (hop : o.op = .call { callee := .builtin .append, args := #[s, x], argTypes := #[58, 58] })
    (lo : Nat) (b : UInt8) (bs : List UInt8) (v : Value) (ho : BOwn w lo v bs) (hs : a.eval s = .slice (some ⟨w.heap.size, 0, none⟩) 1 1) (hx : a.eval x = v) (hlo : lo ≤ w.heap.size) (hn : bs.length ≤ 1000)
    (hK : ∀ v' w', BOwn w' lo v' (b :: bs) → Below lo w w' → wpList Try.prog ops Q rest (a.put o.dst v') w') : wpList Try.prog ops Q (o :: rest) a (w.alloc (.cells #[.int .u8 (b.toNat : Int)] 5)) := by
  obtain ⟨i0, hi', hz0, hz1, hz2⟩ := info_parts info8
  have hown := (BOwn.one w lo b hlo).1
  obtain ⟨g, cap, hv⟩ := ho.2
  subst hv
  refine wpList_append_own _ hgd s x 58 hop lo 5 i0 (.int .u8 0) 1 1 Try.underlying58 hi' hz0 hz1 hz2 rfl (by decide) _ 1 _ hs hown ⟨g, 0, none⟩ bs.length cap (u8s bs) hx (by simp [u8s]) ?_ ?_ ?_ ?_ ?_ ?_
  · intro j u hj
    have hj' : j < bs.length := by
      have := (List.getElem?_eq_some_iff.1 hj).1
      simpa [u8s] using this
    rw [Addr.add_lit, Nat.zero_add, (ho.alloc _).cell j hj']
    simp only [u8s, List.getElem?_map, List.getElem?_eq_getElem hj', Option.map_some, Option.some.injEq] at hj
    rw [← hj]
  · intro u hu
    simp only [u8s, List.mem_map] at hu
    obtain ⟨_, _, rfl⟩ := hu
    rfl
  · unfold maxLen; omega
  · omega
  · simp; omega
  · intro v' w' h1 h2 h3
    have hb : BOwn w' lo v' (b :: bs) := by
      have e1 : (b :: bs).length = 1 + bs.length := by simp; omega
      refine ⟨by rw [e1]; simpa [u8s] using h1, ?_⟩
      rcases h1.2 with ⟨hv, h0⟩ | ⟨g', cap', cur, hv, _⟩
      · omega
      · exact ⟨g', cap', by rw [hv, e1]⟩
    refine hK v' w' hb ?_
    have hb1 : Below lo w (w.alloc (.cells #[.int .u8 (b.toNat : Int)] 5)) := ((Below.refl lo w).alloc hlo _)
    exact hb1.grown h2 (by simp; omega) (fun k hk => by cases hk; exact hlo)

theorem wp_front' {ops : Array Oper} {rest : List Oper} {o : Oper} {a : Act} {Q : Exit → Act → World → Prop} {w : World} (hgd : o.guard = none) (s x : Operand)
    (hop : o.op = .call { callee := .builtin .append, args := #[s, x], argTypes := #[58, 58] })
    (lo : Nat) (b : UInt8) (x0 : Int) (hx0 : x0 = (b.toNat : Int)) (bs : List UInt8) (v : Value) (ho : BOwn w lo v bs) (hs : a.eval s = .slice (some ⟨w.heap.size, 0, none⟩) 1 1) (hx : a.eval x = v) (hlo : lo ≤ w.heap.size) (hn : bs.length ≤ 1000)
    (hK : ∀ v' w', BOwn w' lo v' (b :: bs) → Below lo w w' → wpList Try.prog ops Q rest (a.put o.dst v') w') : wpList Try.prog ops Q (o :: rest) a (w.alloc (.cells #[.int .u8 x0] 5)) := by
  subst hx0
  exact wp_front hgd s x hop lo b bs v ho hs hx hlo hn hK

theorem rem_neg (m : Nat) : (-(m : Int)).tmod 10 = -((m % 10 : Nat) : Int) := by
  rw [Int.neg_tmod, Int.tmod_eq_emod_of_nonneg (by omega)]; omega
theorem quo_neg (m : Nat) : (-(m : Int)).tdiv 10 = -((m / 10 : Nat) : Int) := by
  rw [Int.neg_tdiv, Int.tdiv_eq_ediv_of_nonneg (by omega)]; omega
theorem byte_of (c : Nat) (h : c < 10) : (UInt8.ofNat (48 + c)).toNat = 48 + c := by simp; omega

set_option maxHeartbeats 800000 in
theorem dec_pos (n : Nat) (w : World) (hn : n ≤ 9223372036854775807) :
    Calls Try.prog 71 #[.int .i64 n] w fun e w' => e = .returned (.string ⟨(Lib.itoa n).toArray⟩) ∧ Below w.heap.size w w' := by
  go_enter Try.func71, Try.ntmps71
  go_wp2
  go_loopw [3, 4] (fun v kv wr => ∃ (m : Nat) (bs : List UInt8), kv = .int .i64 m ∧ m ≤ n ∧ dig m ++ bs = dig n ∧ BOwn wr w.heap.size v bs ∧ Below w.heap.size w wr) (fun _ kv _ => (intOf kv).toNat)
  case atStart => exact ⟨n, [], rfl, Nat.le_refl _, by simp, BOwn.built w, (Below.refl _ _).alloc (Nat.le_refl _) _⟩
  case round =>
    obtain ⟨m, bs, rfl, hm, hd, ho, hb⟩ := hrel
    have HD := hid hd
    have HO := hid ho
    have HB := hid hb
    have hsz := hb.size
    have hl : bs.length ≤ 20 := by
      have h1 := dig_len n (by omega)
      rw [← hd, List.length_append] at h1
      omega
    clear hd ho hb
    by_cases h0 : m = 0
    · subst h0
      obtain ⟨g, cap, hv⟩ := HO.out.2
      have hbs : bs = dig n := by have := HD.out; simpa [dig] using this
      have HBS := hid hbs
      clear hbs
      subst hv
      by_cases hn0 : n = 0
      · subst hn0
        have hb0 : bs = [] := by rw [HBS.out]; rfl
        subst hb0
        go_wp2
        go_ret
        have h48 : Lib.itoa ((0 : Nat) : Int) = [48] := by
          rw [Lib.itoa, if_neg (by omega), Lib.decDigits, dif_pos (by decide)]; rfl
        exact ⟨by rw [h48]; rfl, HB.out⟩
      · have hl0 : (((bs.length : Nat) : Int) == 0) = false := by
          have : bs ≠ [] := by
            rw [HBS.out, dig, if_neg hn0, Lib.decDigits_eq]
            intro h
            have h1 := Lib.nDigits_pos n
            have h2 := congrArg List.length h
            simp at h2
            omega
          have := List.length_pos_iff.2 this
          simp; omega
        have hlt : ¬ (n : Int) < 0 := by omega
        have hst : Hid (Lib.itoa (n : Int) = bs) := hid (by
          rw [Lib.itoa, if_neg hlt, HBS.out, dig, if_neg hn0]; rfl)
        have hcv := run_convert_bytes_back (P := Try.prog) wr 58 9 5 ⟨g, 0, none⟩ cap bs Try.underlying58 Try.underlying5 Try.underlying9 (fun j hj => by rw [Addr.add_lit, Nat.zero_add]; exact HO.out.cell j hj)
        go_wp2
        go_ret
        exact ⟨by rw [hst.out]; rfl, HB.out⟩
    · have hne : ((m : Int) == 0) = false := by simp; omega
      have hne' : ((m : Int) != 0) = true := by simp; omega
      have HS := hid (dig_step m (by omega))
      have hc : m % 10 < 10 := by omega
      have HC := hid (byte_of (m % 10) hc)
      have hm0 : 0 < m := by omega
      clear h0
      go_wp2_with (at_builtin; refine wp_front' rfl _ _ rfl w.heap.size (UInt8.ofNat (48 + m % 10)) _ (by rw [HC.out]; omega) bs _ HO.out rfl rfl hsz (by omega) ?_; intro v1 w1 ho1 hb1)
      have HO1 := hid ho1
      have HB1 := hid (HB.out.trans hb1)
      clear ho1 hb1
      go_wp2
      go_roundw
      case rel => exact ⟨m / 10, UInt8.ofNat (48 + m % 10) :: bs, by go_num, by omega, by rw [← HD.out, HS.out, List.append_assoc]; rfl, HO1.out, HB1.out⟩
      case measure => simp [intOf]; omega
set_option maxHeartbeats 800000 in
theorem dec_neg (n : Nat) (w : World) (hn : n ≤ 9223372036854775808) (h1n : 0 < n) :
    Calls Try.prog 71 #[.int .i64 (-(n : Int))] w fun e w' => e = .returned (.string ⟨(Lib.itoa (-(n : Int))).toArray⟩) ∧ Below w.heap.size w w' := by
  go_enter Try.func71, Try.ntmps71
  go_wp2
  go_loopw [3, 4] (fun v kv wr => ∃ (m : Nat) (bs : List UInt8), kv = .int .i64 (-(m : Int)) ∧ m ≤ n ∧ dig m ++ bs = dig n ∧ BOwn wr w.heap.size v bs ∧ Below w.heap.size w wr) (fun _ kv _ => (-(intOf kv)).toNat)
  case atStart => exact ⟨n, [], rfl, Nat.le_refl _, by simp, BOwn.built w, (Below.refl _ _).alloc (Nat.le_refl _) _⟩
  case round =>
    obtain ⟨m, bs, rfl, hm, hd, ho, hb⟩ := hrel
    have HD := hid hd
    have HO := hid ho
    have HB := hid hb
    have hsz := hb.size
    have hl : bs.length ≤ 20 := by
      have h1 := dig_len n (by omega)
      rw [← hd, List.length_append] at h1
      omega
    clear hd ho hb
    by_cases h0 : m = 0
    · subst h0
      obtain ⟨g, cap, hv⟩ := HO.out.2
      have hbs : bs = dig n := by have := HD.out; simpa [dig] using this
      have HBS := hid hbs
      clear hbs
      subst hv
      have hn0 : ¬ n = 0 := by omega
      · have hl0 : (((bs.length : Nat) : Int) == 0) = false := by
          have : bs ≠ [] := by
            rw [HBS.out, dig, if_neg hn0, Lib.decDigits_eq]
            intro h
            have h1 := Lib.nDigits_pos n
            have h2 := congrArg List.length h
            simp at h2
            omega
          have := List.length_pos_iff.2 this
          simp; omega
        have hlt : -(n : Int) < 0 := by omega
        have hst : Hid (Lib.itoa (-(n : Int)) = 45 :: bs) := hid (by
          rw [Lib.itoa, if_pos hlt, HBS.out, dig, if_neg hn0, Int.natAbs_neg]; rfl)
        have hcv := run_convert_bytes_back (P := Try.prog) wr 58 9 5 ⟨g, 0, none⟩ cap bs Try.underlying58 Try.underlying5 Try.underlying9 (fun j hj => by rw [Addr.add_lit, Nat.zero_add]; exact HO.out.cell j hj)
        go_wp2
        go_ret
        exact ⟨by rw [hst.out]; rfl, HB.out⟩
    · have hne : ((-(m : Int)) == 0) = false := by simp; omega
      have hne' : ((-(m : Int)) != 0) = true := by simp; omega
      have hrm := rem_neg m
      have hqm := quo_neg m
      have HS := hid (dig_step m (by omega))
      have hc : m % 10 < 10 := by omega
      have HC := hid (byte_of (m % 10) hc)
      have hm0 : 0 < m := by omega
      clear h0
      by_cases hc0 : 0 < m % 10
      · go_wp2_with (at_builtin; refine wp_front' rfl _ _ rfl w.heap.size (UInt8.ofNat (48 + m % 10)) _ (by rw [HC.out]; omega) bs _ HO.out rfl rfl hsz (by omega) ?_; intro v1 w1 ho1 hb1)
        have HO1 := hid ho1
        have HB1 := hid (HB.out.trans hb1)
        clear ho1 hb1
        go_wp2
        go_roundw
        case rel => exact ⟨m / 10, UInt8.ofNat (48 + m % 10) :: bs, by go_num, by omega, by rw [← HD.out, HS.out, List.append_assoc]; rfl, HO1.out, HB1.out⟩
        case measure => simp [intOf]; omega
      · go_wp2_with (at_builtin; refine wp_front' rfl _ _ rfl w.heap.size (UInt8.ofNat (48 + m % 10)) _ (by rw [HC.out]; omega) bs _ HO.out rfl rfl hsz (by omega) ?_; intro v1 w1 ho1 hb1)
        have HO1 := hid ho1
        have HB1 := hid (HB.out.trans hb1)
        clear ho1 hb1
        go_wp2
        go_roundw
        case rel => exact ⟨m / 10, UInt8.ofNat (48 + m % 10) :: bs, by go_num, by omega, by rw [← HD.out, HS.out, List.append_assoc]; rfl, HO1.out, HB1.out⟩
        case measure => simp [intOf]; omega

/-- The model's decimal form of every int64. -/
theorem dec (n : Int) (w : World) (h0 : -9223372036854775808 ≤ n) (h1 : n ≤ 9223372036854775807) :
    Calls Try.prog 71 #[.int .i64 n] w fun e w' => e = .returned (.string ⟨(Lib.itoa n).toArray⟩) ∧ Below w.heap.size w w' := by
  by_cases h : 0 ≤ n
  · obtain ⟨m, rfl⟩ := Int.eq_ofNat_of_zero_le h
    exact dec_pos m w (by omega)
  · obtain ⟨m, hm⟩ := Int.eq_ofNat_of_zero_le (show 0 ≤ -n by omega)
    obtain rfl : n = -(m : Int) := by omega
    exact dec_neg m w (by omega) (by omega)
end Go.Proofs.Ytnmnikpgjglonaa.dc
