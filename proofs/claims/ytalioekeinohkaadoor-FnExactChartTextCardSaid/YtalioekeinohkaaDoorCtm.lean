/-
  In one file: Dec, Fmt, Lad, Bld, Bt0, St4, Kt0, Ctx, Ctd, Ctp, Mkr.
-/
import Derived.Test.YtalioekeinohkaaDoorRows
import Derived.WalkKit
import Derived.Deep.QuietTactic
import Derived.BigQuiet
import Derived.Lib.ItoaNum
import Derived.Laws.IdiomStrings
import Derived.Test.YtalioekeinohkaaDoorShelfFi
import Derived.WalkSmall
import Derived.ProofKit
import Derived.Below
import Derived.MakeChecks
import Derived.Stop.LaidErr
import Derived.Lib.LaidTab
import Derived.Lib.QuietBelow
import Derived.Test.YtalioekeinohkaaDoorSl
import Derived.Shelf.Strings.Builder1
import Derived.Test.YtalioekeinohkaaDoorBv
import Derived.Test.YtalioekeinohkaaDoorL5
import Derived.Test.YtalioekeinohkaaDoorIv
import Derived.Test.YtalioekeinohkaaDoorShelfSb
import Derived.Laws.Concat
import Derived.Lib.ItoaLen
import Derived.Test.YtalioekeinohkaaDoorSt1
import Derived.WalkSpells
import Derived.Test.YtalioekeinohkaaDoorSt2
import Derived.Test.YtalioekeinohkaaDoorCmm
import Derived.Test.YtalioekeinohkaaDoorCt1
/- Contract of the model's decimal form: spec.l01Dec answers the decimal numeral. -/
namespace Go.Proofs.YtalioekeinohkaaDoor.dc
open Go.RowKit

theorem hid {p : Prop} (h : p) : Hid p := h
theorem info8 : (Tryd.prog.info? 5).map (fun i => (i.zero, i.size, i.bytes)) = some (some (.int .u8 0), 1, 1) := by kernel_rfl

/-- The digits of m, none for 0. -/
def dig (m : Nat) : List UInt8 := if m = 0 then [] else Lib.decDigits m
theorem dig_step (m : Nat) (h : 0 < m) : dig m = dig (m / 10) ++ [UInt8.ofNat (48 + m % 10)] := by
  unfold dig
  rw [if_neg (by omega), Lib.decDigits]
  by_cases h10 : m < 10
  · rw [dif_pos h10, if_pos (by omega), Nat.mod_eq_of_lt h10]; rfl
  · rw [dif_neg h10, if_neg (by omega)]
theorem dig_len (m : Nat) (h : m < 10 ^ 20) : (dig m).length ≤ 20 := by
  unfold dig
  split
  · simp
  · rw [Lib.decDigits_eq]
    simp only [List.length_map, List.length_range]
    rename_i h0
    rcases Nat.lt_or_ge 20 (Lib.nDigits m) with h1 | h1
    · exfalso
      have : ∀ k u : Nat, u < 10 ^ (k + 1) → Lib.nDigits u ≤ k + 1 := by
        intro k
        induction k with
        | zero => intro u hu; rw [Lib.nDigits_small (by simpa using hu)]; omega
        | succ k ih =>
          intro u hu
          by_cases hs : u < 10
          · rw [Lib.nDigits_small hs]; omega
          · rw [Lib.nDigits_big hs]
            have := ih (u / 10) (by rw [Nat.pow_succ] at hu; omega)
            omega
      have := this 19 m h
      omega
    · exact h1

def u8s (bs : List UInt8) : List Value := bs.map fun b => .int .u8 (b.toNat : Int)
/-- Bytes of the call's own. -/
def BOwn (w : World) (lo : Nat) (v : Value) (bs : List UInt8) : Prop := w.ownsRow lo 5 1 v bs.length (u8s bs) ∧ ∃ g cap, v = .slice (some ⟨g, 0, none⟩) bs.length cap

theorem BOwn.built (w : World) : BOwn (w.alloc (.cells #[] 5)) w.heap.size (.slice (some ⟨w.heap.size, 0, none⟩) 0 0) [] :=
  ⟨World.ownsRow_made w #[] 0 (Nat.le_refl _) (by unfold maxLen; omega) (by simp), _, _, rfl⟩
theorem BOwn.one (w : World) (lo : Nat) (b : UInt8) (h : lo ≤ w.heap.size) : BOwn (w.alloc (.cells #[.int .u8 (b.toNat : Int)] 5)) lo (.slice (some ⟨w.heap.size, 0, none⟩) 1 1) [b] :=
  ⟨World.ownsRow_lit w #[.int .u8 (b.toNat : Int)] 1 h (by unfold maxLen; omega) (by simp), _, _, rfl⟩
theorem BOwn.alloc {w : World} {lo : Nat} {v : Value} {bs : List UInt8} (h : BOwn w lo v bs) (o : Obj) : BOwn (w.alloc o) lo v bs := ⟨h.1.alloc o, h.2⟩
theorem u8s_len (bs : List UInt8) : (u8s bs).length = bs.length := by simp [u8s]
theorem BOwn.cell {w : World} {lo : Nat} {g cap n : Nat} {bs : List UInt8} (h : BOwn w lo (.slice (some ⟨g, 0, none⟩) n cap) bs) (j : Nat) (hj : j < bs.length) : w.cell? ⟨g, j, none⟩ = some (.int .u8 (bs[j].toNat : Int)) := by
  obtain ⟨h1, g', cap', hv⟩ := h
  simp only [Value.slice.injEq] at hv
  obtain ⟨_, rfl, rfl⟩ := hv
  rw [h1.cellAt j (by omega)]
  simp [u8s, hj]

/-- append([]byte{b}, out...). -/
theorem wp_front {ops : Array Oper} {rest : List Oper} {o : Oper} {a : Act} {Q : Exit → Act → World → Prop} {w : World} (hgd : o.guard = none) (s x : Operand)
    (hop : o.op = .call { callee := .builtin .append, args := #[s, x], argTypes := #[99, 99] })
    (lo : Nat) (b : UInt8) (bs : List UInt8) (v : Value) (ho : BOwn w lo v bs) (hs : a.eval s = .slice (some ⟨w.heap.size, 0, none⟩) 1 1) (hx : a.eval x = v) (hlo : lo ≤ w.heap.size) (hn : bs.length ≤ 1000)
    (hK : ∀ v' w', BOwn w' lo v' (b :: bs) → Below lo w w' → wpList Tryd.prog ops Q rest (a.put o.dst v') w') : wpList Tryd.prog ops Q (o :: rest) a (w.alloc (.cells #[.int .u8 (b.toNat : Int)] 5)) := by
  obtain ⟨i0, hi', hz0, hz1, hz2⟩ := info_parts info8
  have hown := (BOwn.one w lo b hlo).1
  obtain ⟨g, cap, hv⟩ := ho.2
  subst hv
  refine wpList_append_own _ hgd s x 99 hop lo 5 i0 (.int .u8 0) 1 1 Tryd.underlying99 hi' hz0 hz1 hz2 rfl (by decide) _ 1 _ hs hown ⟨g, 0, none⟩ bs.length cap (u8s bs) hx (by simp [u8s]) ?_ ?_ ?_ ?_ ?_ ?_
  · intro j u hj
    have hj' : j < bs.length := by
      have := (List.getElem?_eq_some_iff.1 hj).1
      simpa [u8s] using this
    rw [Addr.add_lit, Nat.zero_add, (ho.alloc _).cell j hj']
    simp only [u8s, List.getElem?_map, List.getElem?_eq_getElem hj', Option.map_some, Option.some.injEq] at hj
    rw [← hj]
  · intro u hu
    simp only [u8s, List.mem_map] at hu
    obtain ⟨_, _, rfl⟩ := hu
    rfl
  · unfold maxLen; omega
  · omega
  · simp; omega
  · intro v' w' h1 h2 h3
    have hb : BOwn w' lo v' (b :: bs) := by
      have e1 : (b :: bs).length = 1 + bs.length := by simp; omega
      refine ⟨by rw [e1]; simpa [u8s] using h1, ?_⟩
      rcases h1.2 with ⟨hv, h0⟩ | ⟨g', cap', cur, hv, _⟩
      · omega
      · exact ⟨g', cap', by rw [hv, e1]⟩
    refine hK v' w' hb ?_
    have hb1 : Below lo w (w.alloc (.cells #[.int .u8 (b.toNat : Int)] 5)) := ((Below.refl lo w).alloc hlo _)
    exact hb1.grown h2 (by simp; omega) (fun k hk => by cases hk; exact hlo)

theorem wp_front' {ops : Array Oper} {rest : List Oper} {o : Oper} {a : Act} {Q : Exit → Act → World → Prop} {w : World} (hgd : o.guard = none) (s x : Operand)
    (hop : o.op = .call { callee := .builtin .append, args := #[s, x], argTypes := #[99, 99] })
    (lo : Nat) (b : UInt8) (x0 : Int) (hx0 : x0 = (b.toNat : Int)) (bs : List UInt8) (v : Value) (ho : BOwn w lo v bs) (hs : a.eval s = .slice (some ⟨w.heap.size, 0, none⟩) 1 1) (hx : a.eval x = v) (hlo : lo ≤ w.heap.size) (hn : bs.length ≤ 1000)
    (hK : ∀ v' w', BOwn w' lo v' (b :: bs) → Below lo w w' → wpList Tryd.prog ops Q rest (a.put o.dst v') w') : wpList Tryd.prog ops Q (o :: rest) a (w.alloc (.cells #[.int .u8 x0] 5)) := by
  subst hx0
  exact wp_front hgd s x hop lo b bs v ho hs hx hlo hn hK

theorem rem_neg (m : Nat) : (-(m : Int)).tmod 10 = -((m % 10 : Nat) : Int) := by
  rw [Int.neg_tmod, Int.tmod_eq_emod_of_nonneg (by omega)]; omega
theorem quo_neg (m : Nat) : (-(m : Int)).tdiv 10 = -((m / 10 : Nat) : Int) := by
  rw [Int.neg_tdiv, Int.tdiv_eq_ediv_of_nonneg (by omega)]; omega
theorem byte_of (c : Nat) (h : c < 10) : (UInt8.ofNat (48 + c)).toNat = 48 + c := by simp; omega

set_option maxHeartbeats 800000 in
theorem dec_pos (n : Nat) (w : World) (hn : n ≤ 9223372036854775807) :
    Calls Tryd.prog 96 #[.int .i64 n] w fun e w' => e = .returned (.string ⟨(Lib.itoa n).toArray⟩) ∧ Below w.heap.size w w' := by
  go_enter Tryd.func96, Tryd.ntmps96
  go_wp2
  go_loopw [3, 4] (fun v kv wr => ∃ (m : Nat) (bs : List UInt8), kv = .int .i64 m ∧ m ≤ n ∧ dig m ++ bs = dig n ∧ BOwn wr w.heap.size v bs ∧ Below w.heap.size w wr) (fun _ kv _ => (intOf kv).toNat)
  case atStart => exact ⟨n, [], rfl, Nat.le_refl _, by simp, BOwn.built w, (Below.refl _ _).alloc (Nat.le_refl _) _⟩
  case round =>
    obtain ⟨m, bs, rfl, hm, hd, ho, hb⟩ := hrel
    have HD := hid hd
    have HO := hid ho
    have HB := hid hb
    have hsz := hb.size
    have hl : bs.length ≤ 20 := by
      have h1 := dig_len n (by omega)
      rw [← hd, List.length_append] at h1
      omega
    clear hd ho hb
    by_cases h0 : m = 0
    · subst h0
      obtain ⟨g, cap, hv⟩ := HO.out.2
      have hbs : bs = dig n := by have := HD.out; simpa [dig] using this
      have HBS := hid hbs
      clear hbs
      subst hv
      by_cases hn0 : n = 0
      · subst hn0
        have hb0 : bs = [] := by rw [HBS.out]; rfl
        subst hb0
        go_wp2
        go_ret
        have h48 : Lib.itoa ((0 : Nat) : Int) = [48] := by
          rw [Lib.itoa, if_neg (by omega), Lib.decDigits, dif_pos (by decide)]; rfl
        exact ⟨by rw [h48]; rfl, HB.out⟩
      · have hl0 : (((bs.length : Nat) : Int) == 0) = false := by
          have : bs ≠ [] := by
            rw [HBS.out, dig, if_neg hn0, Lib.decDigits_eq]
            intro h
            have h1 := Lib.nDigits_pos n
            have h2 := congrArg List.length h
            simp at h2
            omega
          have := List.length_pos_iff.2 this
          simp; omega
        have hlt : ¬ (n : Int) < 0 := by omega
        have hst : Hid (Lib.itoa (n : Int) = bs) := hid (by
          rw [Lib.itoa, if_neg hlt, HBS.out, dig, if_neg hn0]; rfl)
        have hcv := run_convert_bytes_back (P := Tryd.prog) wr 99 9 5 ⟨g, 0, none⟩ cap bs Tryd.underlying99 Tryd.underlying5 Tryd.underlying9 (fun j hj => by rw [Addr.add_lit, Nat.zero_add]; exact HO.out.cell j hj)
        go_wp2
        go_ret
        exact ⟨by rw [hst.out]; rfl, HB.out⟩
    · have hne : ((m : Int) == 0) = false := by simp; omega
      have hne' : ((m : Int) != 0) = true := by simp; omega
      have HS := hid (dig_step m (by omega))
      have hc : m % 10 < 10 := by omega
      have HC := hid (byte_of (m % 10) hc)
      have hm0 : 0 < m := by omega
      clear h0
      go_wp2_with (at_builtin; refine wp_front' rfl _ _ rfl w.heap.size (UInt8.ofNat (48 + m % 10)) _ (by rw [HC.out]; omega) bs _ HO.out rfl rfl hsz (by omega) ?_; intro v1 w1 ho1 hb1)
      have HO1 := hid ho1
      have HB1 := hid (HB.out.trans hb1)
      clear ho1 hb1
      go_wp2
      go_roundw
      case rel => exact ⟨m / 10, UInt8.ofNat (48 + m % 10) :: bs, by go_num, by omega, by rw [← HD.out, HS.out, List.append_assoc]; rfl, HO1.out, HB1.out⟩
      case measure => simp [intOf]; omega
set_option maxHeartbeats 800000 in
theorem dec_neg (n : Nat) (w : World) (hn : n ≤ 9223372036854775808) (h1n : 0 < n) :
    Calls Tryd.prog 96 #[.int .i64 (-(n : Int))] w fun e w' => e = .returned (.string ⟨(Lib.itoa (-(n : Int))).toArray⟩) ∧ Below w.heap.size w w' := by
  go_enter Tryd.func96, Tryd.ntmps96
  go_wp2
  go_loopw [3, 4] (fun v kv wr => ∃ (m : Nat) (bs : List UInt8), kv = .int .i64 (-(m : Int)) ∧ m ≤ n ∧ dig m ++ bs = dig n ∧ BOwn wr w.heap.size v bs ∧ Below w.heap.size w wr) (fun _ kv _ => (-(intOf kv)).toNat)
  case atStart => exact ⟨n, [], rfl, Nat.le_refl _, by simp, BOwn.built w, (Below.refl _ _).alloc (Nat.le_refl _) _⟩
  case round =>
    obtain ⟨m, bs, rfl, hm, hd, ho, hb⟩ := hrel
    have HD := hid hd
    have HO := hid ho
    have HB := hid hb
    have hsz := hb.size
    have hl : bs.length ≤ 20 := by
      have h1 := dig_len n (by omega)
      rw [← hd, List.length_append] at h1
      omega
    clear hd ho hb
    by_cases h0 : m = 0
    · subst h0
      obtain ⟨g, cap, hv⟩ := HO.out.2
      have hbs : bs = dig n := by have := HD.out; simpa [dig] using this
      have HBS := hid hbs
      clear hbs
      subst hv
      have hn0 : ¬ n = 0 := by omega
      · have hl0 : (((bs.length : Nat) : Int) == 0) = false := by
          have : bs ≠ [] := by
            rw [HBS.out, dig, if_neg hn0, Lib.decDigits_eq]
            intro h
            have h1 := Lib.nDigits_pos n
            have h2 := congrArg List.length h
            simp at h2
            omega
          have := List.length_pos_iff.2 this
          simp; omega
        have hlt : -(n : Int) < 0 := by omega
        have hst : Hid (Lib.itoa (-(n : Int)) = 45 :: bs) := hid (by
          rw [Lib.itoa, if_pos hlt, HBS.out, dig, if_neg hn0, Int.natAbs_neg]; rfl)
        have hcv := run_convert_bytes_back (P := Tryd.prog) wr 99 9 5 ⟨g, 0, none⟩ cap bs Tryd.underlying99 Tryd.underlying5 Tryd.underlying9 (fun j hj => by rw [Addr.add_lit, Nat.zero_add]; exact HO.out.cell j hj)
        go_wp2
        go_ret
        exact ⟨by rw [hst.out]; rfl, HB.out⟩
    · have hne : ((-(m : Int)) == 0) = false := by simp; omega
      have hne' : ((-(m : Int)) != 0) = true := by simp; omega
      have hrm := rem_neg m
      have hqm := quo_neg m
      have HS := hid (dig_step m (by omega))
      have hc : m % 10 < 10 := by omega
      have HC := hid (byte_of (m % 10) hc)
      have hm0 : 0 < m := by omega
      clear h0
      by_cases hc0 : 0 < m % 10
      · go_wp2_with (at_builtin; refine wp_front' rfl _ _ rfl w.heap.size (UInt8.ofNat (48 + m % 10)) _ (by rw [HC.out]; omega) bs _ HO.out rfl rfl hsz (by omega) ?_; intro v1 w1 ho1 hb1)
        have HO1 := hid ho1
        have HB1 := hid (HB.out.trans hb1)
        clear ho1 hb1
        go_wp2
        go_roundw
        case rel => exact ⟨m / 10, UInt8.ofNat (48 + m % 10) :: bs, by go_num, by omega, by rw [← HD.out, HS.out, List.append_assoc]; rfl, HO1.out, HB1.out⟩
        case measure => simp [intOf]; omega
      · go_wp2_with (at_builtin; refine wp_front' rfl _ _ rfl w.heap.size (UInt8.ofNat (48 + m % 10)) _ (by rw [HC.out]; omega) bs _ HO.out rfl rfl hsz (by omega) ?_; intro v1 w1 ho1 hb1)
        have HO1 := hid ho1
        have HB1 := hid (HB.out.trans hb1)
        clear ho1 hb1
        go_wp2
        go_roundw
        case rel => exact ⟨m / 10, UInt8.ofNat (48 + m % 10) :: bs, by go_num, by omega, by rw [← HD.out, HS.out, List.append_assoc]; rfl, HO1.out, HB1.out⟩
        case measure => simp [intOf]; omega

/-- The model's decimal form of every int64. -/
theorem dec (n : Int) (w : World) (h0 : -9223372036854775808 ≤ n) (h1 : n ≤ 9223372036854775807) :
    Calls Tryd.prog 96 #[.int .i64 n] w fun e w' => e = .returned (.string ⟨(Lib.itoa n).toArray⟩) ∧ Below w.heap.size w w' := by
  by_cases h : 0 ≤ n
  · obtain ⟨m, rfl⟩ := Int.eq_ofNat_of_zero_le h
    exact dec_pos m w (by omega)
  · obtain ⟨m, hm⟩ := Int.eq_ofNat_of_zero_le (show 0 ≤ -n by omega)
    obtain rfl : n = -(m : Int) := by omega
    exact dec_neg m w (by omega) (by omega)
end Go.Proofs.YtalioekeinohkaaDoor.dc

/- strconv.FormatInt at base 10, over the shelf's contract of the function that it calls. -/
namespace Go.Proofs.YtalioekeinohkaaDoor.fm
open Go.RowKit Go.Sort
theorem fmt (n : Int) (h0 : -9223372036854775808 ≤ n) (h1 : n ≤ 9223372036854775807) (w : World) (htab : Lib.TabIs Tryd.prog w "internal/strconv.uint64pow10" .u64 Lib.pow10Tab) :
    Calls Tryd.prog 116 #[.int .i64 n, .int .i64 10] w fun e w' => e = .returned (.string ⟨(Lib.itoa n).toArray⟩) ∧ ∃ k os, w' = grow (w.drewN k) os := by
  go_enter Tryd.func116, Tryd.ntmps116
  go_wp2_with fail
  refine (Tryd.internal_strconv_FormatInt_10 n h0 h1 _ htab).mono ?_
  rintro e w1 ⟨rfl, k, os, rfl⟩
  go_wp2
  go_ret
  exact ⟨rfl, k, os, rfl⟩
end Go.Proofs.YtalioekeinohkaaDoor.fm

/- The library's table of powers of ten, read out of the list that a row lays; and the decimal forms of both sides. -/
namespace Go.Proofs.YtalioekeinohkaaDoor.lt
open Go.RowKit Go.Sort
set_option linter.unusedVariables false

theorem gPow : Tryd.prog.globalNamed "internal/strconv.uint64pow10" = some 1 := by kernel_rfl

theorem tab {w : World} {l : List (String × DataW Unit)} {x y : String × DataW Unit}
    (hp : ((x :: y :: ("internal/strconv.uint64pow10", Rows.laid_internal_strconv_uint64pow10) :: l).all fun x => x.2.handleName?.isNone) = true)
    (h : laidMetH Tryd.prog (x :: y :: ("internal/strconv.uint64pow10", Rows.laid_internal_strconv_uint64pow10) :: l) w) :
    Lib.TabIs Tryd.prog w "internal/strconv.uint64pow10" .u64 Lib.pow10Tab := by
  rw [MakeChecks.laidMetH_plain _ _ _ hp] at h
  have h2 := h.tail.tail
  exact Lib.tabIs_of_head gPow (t := 186) (e := 157) (n := 20) (by kernel_rfl) (by kernel_rfl) (by kernel_rfl) (by kernel_rfl) (by kernel_rfl) h2

theorem carry {w w' : World} (h : Lib.TabIs Tryd.prog w "internal/strconv.uint64pow10" .u64 Lib.pow10Tab) (hb : Below w.heap.size w w') : Lib.TabIs Tryd.prog w' "internal/strconv.uint64pow10" .u64 Lib.pow10Tab :=
  var?_below hb gPow (block_lt_of_cell (h.cell gPow 0 (by decide))) h

theorem i64 {n : Int} (h : (Lit.int .i64 n).wf = true) : -9223372036854775808 ≤ n ∧ n ≤ 9223372036854775807 := by
  have h1 : IntKind.i64.min = -9223372036854775808 := by decide
  have h2 : IntKind.i64.max = 9223372036854775807 := by decide
  simp [Lit.wf, h1, h2] at h; omega

/-- The program's decimal form of every int64. -/
theorem implDecimal (n : Int) (w : World) (h0 : -9223372036854775808 ≤ n) (h1 : n ≤ 9223372036854775807) (hT : Lib.TabIs Tryd.prog w "internal/strconv.uint64pow10" .u64 Lib.pow10Tab) :
    Calls Tryd.prog 83 #[.int .i64 n] w fun e w' => e = .returned (.string ⟨(Lib.itoa n).toArray⟩) ∧ Below w.heap.size w w' := by
  go_enter Tryd.func83, Tryd.ntmps83
  go_wp2_with fail
  refine (fm.fmt _ h0 h1 _ hT).mono ?_
  rintro e w1 ⟨rfl, k, os, hb1⟩
  have hb : Below w.heap.size w w1 := by rw [hb1]; exact below_regrown w (w.drawn + k) os
  clear hb1
  go_wp2
  go_ret
  exact ⟨rfl, hb⟩

end Go.Proofs.YtalioekeinohkaaDoor.lt

/- A strings.Builder of the call's own: copyCheck and WriteString at this program. -/
namespace Go.Proofs.YtalioekeinohkaaDoor.sb
open Go.RowKit Go.Proofs.YtalioekeinohkaaDoor.sl
set_option linter.unusedVariables false

theorem infoSb : ∃ j, Tryd.prog.info? 101 = some j ∧ j.size = 2 := by
  have h : (Tryd.prog.info? 101).map (·.size) = some 2 := by kernel_rfl
  obtain ⟨j, h1, h2⟩ := Option.map_eq_some_iff.1 h
  exact ⟨j, h1, h2⟩
set_option maxRecDepth 100000 in
theorem check (B b : Nat) (bs : List Value) (w : World) (h : Lib.IsBuilder 101 5 B b bs w) :
    Calls Tryd.prog 115 #[.pointer (some ⟨b, 0, none⟩)] w fun e w' => e = .returned (.tuple #[]) ∧ Lib.BuilderAt 101 5 B b (.pointer (some ⟨b, 0, none⟩)) bs w' ∧ Below B w w' := by
  obtain ⟨j, hj, hjs⟩ := infoSb
  rcases h with h | h
  · have c0 := h.cell0
    have hf := h.frozen0
    have hto : (convert 98 160 (.pointer (some ⟨b, 0, none⟩))).run Tryd.prog w = .ok (.pointer (some ⟨b, 0, none⟩)) w :=
      Lib.run_to_unsafe (w := w) ⟨b, 0, none⟩ Tryd.underlying98 Tryd.underlying160 hj (by rw [hjs]; decide) h.shape (Nat.zero_lt_succ 1)
    have hfrom : (convert 160 98 (.pointer (some ⟨b, 0, none⟩))).run Tryd.prog w = .ok (.pointer (some ⟨b, 0, none⟩)) w :=
      Lib.run_from_unsafe (w := w) ⟨b, 0, none⟩ Tryd.underlying160 Tryd.underlying98 hj h.shape (by kernel_rfl)
    have hesc : (callFunc 139 #[.pointer (some ⟨b, 0, none⟩)]).run Tryd.prog w = .ok (.value (.pointer (some ⟨b, 0, none⟩))) w := by
      rw [run_callFunc_extern Tryd.func139 (by kernel_rfl) (by kernel_rfl) (by kernel_rfl) (e := Extern.AbiNoEscape.same) (by kernel_rfl), Lib.run_noEscape]
      rfl
    have HU := hid (h.used (.pointer (some ⟨b, 0, none⟩)))
    have HB := hid ((Below.refl B w).setCell (p := ⟨b, 0, none⟩) h.1 (.pointer (some ⟨b, 0, none⟩)))
    clear h hj hjs
    go_enter Tryd.func115, Tryd.ntmps115
    go_wp2
    go_end0
    exact ⟨rfl, HU.out, HB.out⟩
  · have c0 := h.cell0
    have hne := Lib.run_neq_ptr_same (w := w) (⟨b, 0, none⟩ : Addr) Tryd.underlying98 hj
    have HU := hid h
    clear h hj hjs
    go_enter Tryd.func115, Tryd.ntmps115
    go_wp2
    go_end0
    exact ⟨rfl, HU.out, Below.refl _ _⟩

theorem infoU8 : (Tryd.prog.info? 5).map (fun i => (i.zero, i.size, i.bytes)) = some (some (.int .u8 0), 1, 1) := by kernel_rfl
set_option maxRecDepth 100000 in
set_option maxHeartbeats 1000000 in
theorem write (B b : Nat) (bs : List Value) (s : ByteArray) (w : World) (h : Lib.IsBuilder 101 5 B b bs w) (hl : bs.length + s.size ≤ 1000000) (hB : B ≤ w.heap.size) :
    Calls Tryd.prog 82 #[.pointer (some ⟨b, 0, none⟩), .string s] w fun e w' => e = .returned (.tuple #[.int .i64 s.size, .nilIface]) ∧ Lib.IsBuilder 101 5 B b (bs ++ Lib.strCells s) w' ∧ Below B w w' := by
  obtain ⟨i0, hi, hz0, hz1, hz2⟩ := info_parts infoU8
  have HC := hid (check B b bs w h)
  clear h
  go_enter Tryd.func82, Tryd.ntmps82
  go_wp2_with fail
  refine HC.out.mono ?_
  rintro e w1 ⟨rfl, hb1, b1⟩
  have HB1 := hid b1
  have hz := b1.size
  obtain ⟨hBb, v, hblk, hown, hvb⟩ := hb1
  have c1 : w1.cell? ⟨b, 1, none⟩ = some v := by rw [Lib.cell_of_heap hblk]; rfl
  have hlt : b < w1.heap.size := (Array.getElem?_eq_some_iff.1 hblk).1
  have HOwn := hid hown
  have HBlk := hid hblk
  have HVb := hid hvb
  clear b1 HC hown hblk hvb
  go_wp2_with (at_builtin; refine Lib.wpList_append_own_string _ rfl _ _ 99 9 rfl B 5 i0 Tryd.underlying99 Tryd.underlying9 hi hz0 hz1 hz2 v bs.length bs rfl HOwn.out s rfl (by unfold maxLen; omega) (by omega) (by omega) ?_)
  intro v' w2 hown2 hg2 _
  have HO2 := hid hown2
  have HG2 := hid hg2
  have hblk2 : w2.heap[b]? = some (.cells #[.pointer (some ⟨b, 0, none⟩), v] 101 (0, 0)) := (HG2.out.block b hlt (fun e => HVb.out e.symm)).trans HBlk.out
  have hf2 : w2.frozen? ⟨b, 1, none⟩ = false := Lib.frozen_of_heap hblk2 1
  have hc2 : w2.cell? ⟨b, 1, none⟩ = some v := Lib.cell_of_heap hblk2 1
  have HK2 := hid hblk2
  obtain ⟨ao, n', cap, rfl⟩ : ∃ ao n' cap, v' = .slice ao n' cap := by
    rcases hown2.2 with ⟨hv, _⟩ | ⟨g, cp, cur, hv, _⟩
    · exact ⟨_, _, _, hv⟩
    · exact ⟨_, _, _, hv⟩
  clear hown2 hg2 hblk2
  go_wp2
  go_ret2
  refine ⟨rfl, Or.inr ?_, ?_⟩
  · exact Lib.BuilderAt.put hBb HK2.out (by simpa [Lib.strCells_length] using HO2.out) (by decide)
  · exact ((HB1.out.grown HG2.out (by omega) (fun k hk => (HOwn.out.lt k hk).1)).setCell (p := ⟨b, 1, none⟩) hBb _)
end Go.Proofs.YtalioekeinohkaaDoor.sb

/- BraidText of both sides. -/
namespace Go.Proofs.YtalioekeinohkaaDoor.bt
open Go.RowKit Go.Proofs.YtalioekeinohkaaDoor.sl Go.Proofs.YtalioekeinohkaaDoor.br Go.Proofs.YtalioekeinohkaaDoor.bw
set_option linter.unusedVariables false

/-- A letter behind a blank. -/
def ltL (x : Int) : List UInt8 := 32 :: Lib.itoa x
def hdL (s : Int) : List UInt8 := Lib.itoa s ++ [58]
/-- The bytes of a braid's text up to letter i. -/
def btL (s : Int) (xs : List Int) (i : Nat) : List UInt8 := hdL s ++ (xs.take i).flatMap ltL
theorem btL_zero (s : Int) (xs : List Int) : btL s xs 0 = hdL s := by simp [btL]
theorem btL_succ (s : Int) (xs : List Int) (i : Nat) (h : i < xs.length) : btL s xs (i + 1) = btL s xs i ++ ltL (xs.getD i 0) := by
  rw [btL, btL, List.take_add_one, List.flatMap_append, List.append_assoc]
  simp [List.getElem?_eq_getElem h, List.getD]
theorem lt_len {x : Int} (h : -100 ≤ x ∧ x ≤ 100) : (ltL x).length ≤ 22 := by
  have := Lib.itoa_length_le x (by omega) (by omega)
  simp [ltL]; omega
theorem hd_len {s : Int} (h : -100 ≤ s ∧ s ≤ 100) : (hdL s).length ≤ 22 := by
  have := Lib.itoa_length_le s (by omega) (by omega)
  simp [hdL]; omega
theorem bt_len {s : Int} {xs : List Int} (hs : -100 ≤ s ∧ s ≤ 100) (hx : ∀ j, j < xs.length → -100 ≤ xs.getD j 0 ∧ xs.getD j 0 ≤ 100) : ∀ i, i ≤ xs.length → (btL s xs i).length ≤ 22 + 22 * i
  | 0, _ => by rw [btL_zero]; have := hd_len hs; omega
  | i + 1, h => by
    rw [btL_succ s xs i (by omega), List.length_append]
    have h1 := bt_len hs hx i (by omega)
    have h2 := lt_len (hx i (by omega))
    omega
def ba (l : List UInt8) : ByteArray := ⟨l.toArray⟩
theorem ba_size (l : List UInt8) : (ba l).size = l.length := by show l.toArray.size = _; simp
theorem ba_app (a b : List UInt8) : ba a ++ ba b = ba (a ++ b) := by apply ByteArray.ext; simp [ba]
theorem ba_list (l : List UInt8) : (ba l).data.toList = l := by simp [ba]
theorem cat (a b : List UInt8) (h : a.length + b.length ≤ 100000) (w : World) : (Op.stringOp .add (ba a) (ba b)).run Tryd.prog w = .ok (.string (ba (a ++ b))) w := by
  have := run_string_add_sum (P := Tryd.prog) w (ba a) (ba b) (by rw [ba_size, ba_size]; omega)
  rw [ba_app] at this
  exact this
theorem cat1 {s : Int} (h : -100 ≤ s ∧ s ≤ 100) (w : World) : (Op.stringOp .add ⟨(Lib.itoa s).toArray⟩ ⟨#[58]⟩).run Tryd.prog w = .ok (.string (ba (hdL s))) w := by
  have := Lib.itoa_length_le s (by omega) (by omega)
  exact cat (Lib.itoa s) [58] (by simp; omega) w
theorem cat2 {x : Int} (h : -100 ≤ x ∧ x ≤ 100) (w : World) : (Op.stringOp .add ⟨#[32]⟩ ⟨(Lib.itoa x).toArray⟩).run Tryd.prog w = .ok (.string (ba (ltL x))) w := by
  have := Lib.itoa_length_le x (by omega) (by omega)
  exact cat [32] (Lib.itoa x) (by simp; omega) w
/-- The text of a braid. -/
def btx (s : Int) (xs : List Int) : ByteArray := if okB s xs then ba (btL s xs xs.length) else ⟨#[]⟩
theorem btx_no {s : Int} {xs : List Int} (h : okB s xs = false) : btx s xs = ⟨#[]⟩ := by simp [btx, h]
theorem btx_yes {s : Int} {xs : List Int} (h : okB s xs = true) : btx s xs = ba (btL s xs xs.length) := by simp [btx, h]
theorem ok_small {s : Int} {xs : List Int} (h : okB s xs = true) : (-100 ≤ s ∧ s ≤ 100) ∧ xs.length ≤ 40 ∧ ∀ j, j < xs.length → -100 ≤ xs.getD j 0 ∧ xs.getD j 0 ≤ 100 := by
  obtain ⟨h1, h2, h3, h4⟩ := ok_parts h
  exact ⟨by omega, h3, fun j hj => by have := h4 j hj; omega⟩

theorem ib_below {T e : TypeId} {B b : Nat} {bs : List Value} {w w' : World} (h : Lib.IsBuilder T e B b bs w) (bw : Below w.heap.size w w') : Lib.IsBuilder T e B b bs w' := by
  have hg : w.grownBy w' none := ⟨bw.os, bw.tape, bw.output, bw.size, fun k hk _ => bw.block k hk⟩
  rcases h with h | h
  · have hl := h.lt
    obtain ⟨hB, v, hb, hown, hne⟩ := h
    exact .inl ⟨hB, v, (bw.block b hl).trans hb, World.ownsRow.kept hown hg (by cases v.ownBlock <;> simp), hne⟩
  · have hl := h.lt
    obtain ⟨hB, v, hb, hown, hne⟩ := h
    exact .inr ⟨hB, v, (bw.block b hl).trans hb, World.ownsRow.kept hown hg (by cases v.ownBlock <;> simp), hne⟩
end Go.Proofs.YtalioekeinohkaaDoor.bt

/- SymbolOf of both sides. -/
namespace Go.Proofs.YtalioekeinohkaaDoor.st
open Go.RowKit Go.Proofs.YtalioekeinohkaaDoor.sl Go.Proofs.YtalioekeinohkaaDoor.pm
set_option linter.unusedVariables false

/-- The symbol of a kind. -/
def sy (k : Int) : ByteArray := if knd k then ⟨#[(syT.getD k.toNat 0).toNat.toUInt8]⟩ else ⟨#[]⟩
theorem sy_at {j : Nat} (h : 1 ≤ j ∧ j ≤ 11) : sy (j : Int) = ⟨#[(syT.getD j 0).toNat.toUInt8]⟩ := by
  have : knd (j : Int) = true := by simp [knd]; omega
  simp only [sy, this, if_true, Int.toNat_natCast]

theorem convSy (j : Nat) (h : j ≤ 11) : Utf8.encode (syT.getD j 0) = ⟨#[(syT.getD j 0).toNat.toUInt8]⟩ :=
  all12 (fun j => Utf8.encode (syT.getD j 0) = ⟨#[(syT.getD j 0).toNat.toUInt8]⟩) (by
    intro j
    match j with
    | 0 | 1 | 2 | 3 | 4 | 5 | 6 | 7 | 8 | 9 | 10 | 11 => rfl) h
theorem implSymbol (k : Int) (w : World) (hT : stb.Tab w) : Calls Tryd.prog 122 #[.int .i64 k] w fun e w' => e = .returned (.string (sy k)) ∧ Below w.heap.size w w' := by
  have HK := hid (fun w1 => implStitch k w1)
  cases hk : knd k
  · have HF : Hid (sy k = ⟨#[]⟩) := hid (by simp [sy, hk])
    rw [hk] at HK
    clear hk
    go_enter Tryd.func122, Tryd.ntmps122
    go_wp2_with fail
    refine (HK.out _).mono ?_
    rintro e w1 ⟨rfl, rfl⟩
    go_wp2
    go_ret
    exact ⟨by rw [HF.out]; rfl, Below.refl _ _⟩
  · obtain ⟨j, rfl, h1, h2⟩ := knd_nat hk
    have HF : Hid (sy (j : Int) = ⟨#[(syT.getD j 0).toNat.toUInt8]⟩) := hid (sy_at ⟨h1, h2⟩)
    rw [hk] at HK
    clear hk
    have hc := hT.sy j (by omega)
    have hl := hT.lt
    have HCv := hid (convSy j h2)
    generalize (⟨#[(syT.getD j 0).toNat.toUInt8]⟩ : ByteArray) = s at *
    generalize syT.getD j 0 = x at *
    clear hT
    go_enter Tryd.func122, Tryd.ntmps122
    go_wp2_with fail
    refine (HK.out _).mono ?_
    rintro e w1 ⟨rfl, rfl⟩
    go_wp2
    go_ret
    exact ⟨by rw [HF.out, ← HCv.out]; rfl, Below.refl _ _⟩
theorem specSymbols (w : World) : Calls Tryd.prog 121 #[] w fun e w' => e = .returned (.string ⟨#[107, 112, 111, 100, 101, 116, 115, 120, 121, 88, 89]⟩) ∧ w = w' := by
  go_enter Tryd.func121, Tryd.ntmps121
  go_wp2
  go_ret
  exact ⟨rfl, rfl⟩
set_option maxRecDepth 20000 in
theorem specSymbol (k : Int) (w : World) : Calls Tryd.prog 95 #[.int .i64 k] w fun e w' => e = .returned (.string (sy k)) ∧ Below w.heap.size w w' := by
  have HK := hid (fun w1 => specKind k w1)
  cases hk : knd k
  · have HF : Hid (sy k = ⟨#[]⟩) := hid (by simp [sy, hk])
    rw [hk] at HK
    clear hk
    go_enter Tryd.func95, Tryd.ntmps95
    go_wp2_with fail
    refine (HK.out _).mono ?_
    rintro e w1 ⟨rfl, rfl⟩
    go_wp2
    go_ret
    exact ⟨by rw [HF.out]; rfl, Below.refl _ _⟩
  · obtain ⟨j, rfl, h1, h2⟩ := knd_nat hk
    have HF : Hid (sy (j : Int) = ⟨#[(syT.getD j 0).toNat.toUInt8]⟩) := hid (sy_at ⟨h1, h2⟩)
    rw [hk] at HK
    clear hk
    obtain ⟨i, rfl⟩ : ∃ i, j = i + 1 := ⟨j - 1, by omega⟩
    have hw : IntKind.i64.wrap (((i + 1 : Nat) : Int) - 1) = (i : Int) := by rw [IntKind.wrap_i64] <;> omega
    have HS := hid (fun w1 => specSymbols w1)
    have HE : Hid ((⟨#[107, 112, 111, 100, 101, 116, 115, 120, 121, 88, 89]⟩ : ByteArray).extract i (i + 1) = ⟨#[(syT.getD (i + 1) 0).toNat.toUInt8]⟩) := hid (by
      match i, (by omega : i ≤ 10) with
      | 0, _ | 1, _ | 2, _ | 3, _ | 4, _ | 5, _ | 6, _ | 7, _ | 8, _ | 9, _ | 10, _ => rfl)
    obtain ⟨t, ht⟩ : ∃ t : ByteArray, t = ⟨#[107, 112, 111, 100, 101, 116, 115, 120, 121, 88, 89]⟩ := ⟨_, rfl⟩
    have hsz : t.size = 11 := by rw [ht]; rfl
    rw [← ht] at HS HE
    generalize (⟨#[(syT.getD (i + 1) 0).toNat.toUInt8]⟩ : ByteArray) = s at *
    clear ht h1
    go_enter Tryd.func95, Tryd.ntmps95
    go_wp2_with fail
    refine (HK.out _).mono ?_
    rintro e w1 ⟨rfl, rfl⟩
    go_wp2_with fail
    refine (HS.out _).mono ?_
    rintro e w1 ⟨rfl, rfl⟩
    go_wp2
    go_ret
    exact ⟨by rw [HF.out, ← HE.out]; rfl, Below.refl _ _⟩
end Go.Proofs.YtalioekeinohkaaDoor.st

/- StitchesText of both sides. -/
namespace Go.Proofs.YtalioekeinohkaaDoor.kt
open Go.RowKit Go.Proofs.YtalioekeinohkaaDoor.sl Go.Proofs.YtalioekeinohkaaDoor.st
set_option linter.unusedVariables false

/-- The bytes of the first symbols. -/
def txL (xs : List Int) (i : Nat) : List UInt8 := (xs.take i).flatMap fun k => (sy k).data.toList
theorem txL_zero (xs : List Int) : txL xs 0 = [] := rfl
theorem txL_succ (xs : List Int) (i : Nat) (h : i < xs.length) : txL xs (i + 1) = txL xs i ++ (sy (xs.getD i 0)).data.toList := by
  rw [txL, txL, List.take_add_one, List.flatMap_append]
  simp [List.getElem?_eq_getElem h, List.getD]
theorem sy_len (k : Int) : (sy k).data.toList.length ≤ 1 := by
  unfold sy
  split <;> simp
theorem txL_len (xs : List Int) (i : Nat) : (txL xs i).length ≤ i := by
  induction i with
  | zero => simp [txL]
  | succ i ih =>
    by_cases h : i < xs.length
    · rw [txL_succ xs i h, List.length_append]
      have := sy_len (xs.getD i 0)
      omega
    · have : txL xs (i + 1) = txL xs i := by rw [txL, txL, List.take_of_length_le (by omega), List.take_of_length_le (by omega)]
      rw [this]; omega
def txB (xs : List Int) (i : Nat) : ByteArray := ⟨(txL xs i).toArray⟩
theorem txB_zero (xs : List Int) : txB xs 0 = ⟨#[]⟩ := rfl
theorem txB_succ (xs : List Int) (i : Nat) (h : i < xs.length) : txB xs (i + 1) = txB xs i ++ sy (xs.getD i 0) := by
  rw [txB, txL_succ xs i h, txB]
  generalize sy (xs.getD i 0) = s
  rcases s with ⟨⟨l⟩⟩
  apply ByteArray.ext
  simp
theorem txB_size (xs : List Int) (i : Nat) : (txB xs i).size ≤ i := by
  have := txL_len xs i
  show ((txL xs i).toArray).size ≤ i
  simpa using this
/-- The text of stitches. -/
def stx (xs : List Int) : ByteArray := if lst xs then txB xs xs.length else ⟨#[]⟩
theorem stx_no {xs : List Int} (h : lst xs = false) : stx xs = ⟨#[]⟩ := by simp [stx, h]
theorem stx_yes {xs : List Int} (h : lst xs = true) : stx xs = txB xs xs.length := by simp [stx, h]

set_option maxRecDepth 20000 in
theorem specText (xs : List Int) (v : Value) (B : Nat) (w : World) (ha : Ints w B v xs) (hB : B ≤ w.heap.size) (hn : xs.length ≤ 16) :
    Calls Tryd.prog 114 #[v] w fun e w' => e = .returned (.string (txB xs xs.length)) ∧ Below w.heap.size w w' := by
  rcases ha with ⟨rfl, ao, cap, rfl⟩ | ⟨hp, b, off, cap, rfl, hbb, hc⟩
  · go_enter Tryd.func114, Tryd.ntmps114
    go_wp2
    refine wp_loop_rounds 1 ?_
    rw [rounds_succ]
    go_wp2
    go_ret
    exact ⟨rfl, Below.refl _ _⟩
  · have HSu := hid (fun k (h : k < xs.length) => txB_succ xs k h)
    obtain ⟨n, hnn⟩ : ∃ n, n = xs.length := ⟨_, rfl⟩
    rw [← hnn] at hp hc hn HSu ⊢
    have HC := hid hc
    clear hnn hc
    go_enter Tryd.func114, Tryd.ntmps114
    go_wp2
    go_loopw [3, 4] (fun t i wr => ∃ k : Nat, k ≤ n ∧ i = .int .i64 k ∧ t = .string (txB xs k) ∧ Below w.heap.size w wr) (fun _ i _ => n - (intOf i).toNat)
    case atStart => exact ⟨0, Nat.zero_le _, rfl, rfl, Below.refl _ _⟩
    case round =>
      obtain ⟨k, hk, rfl, rfl, hbel⟩ := hrel
      have HB := hid hbel
      clear hbel
      have hts := txB_size xs k
      by_cases hlt : k < n
      · have h1 := (HB.out.cell (p := ⟨b, off + k, none⟩) (by show b < _; omega)).trans (HC.out k hlt)
        have HS := hid (HSu.out k hlt)
        have hsl := sy_len (xs.getD k 0)
        have HCl := hid (specSymbol (xs.getD k 0) wr)
        generalize xs.getD k 0 = x at *
        generalize txB xs k = t at *
        have hsz : (sy x).size ≤ 1 := by simpa using hsl
        generalize sy x = y at *
        clear hsl
        go_wp2_with fail
        refine HCl.out.mono ?_
        rintro e w2 ⟨rfl, b2⟩
        have HB2 := hid (HB.out.trans (b2.mono HB.out.size))
        clear b2
        go_wp2
        go_roundw
        case rel => exact ⟨k + 1, by omega, by go_num, by rw [HS.out], HB2.out⟩
        case measure => simp [intOf]; omega
      · obtain rfl : k = n := by omega
        go_wp2
        go_ret
        exact ⟨rfl, HB.out⟩
theorem implSymbolW (k : Int) (w : World) (hT : stb.Tab w) : Calls Tryd.prog 122 #[.int .i64 k] w fun e w' => e = .returned (.string (sy k)) ∧ w = w' := by
  have HK := hid (fun w1 => implStitch k w1)
  cases hk : knd k
  · have HF : Hid (sy k = ⟨#[]⟩) := hid (by simp [sy, hk])
    rw [hk] at HK
    clear hk
    go_enter Tryd.func122, Tryd.ntmps122
    go_wp2_with fail
    refine (HK.out _).mono ?_
    rintro e w1 ⟨rfl, rfl⟩
    go_wp2
    go_ret
    exact ⟨by rw [HF.out]; rfl, rfl⟩
  · obtain ⟨j, rfl, h1, h2⟩ := knd_nat hk
    have HF : Hid (sy (j : Int) = ⟨#[(syT.getD j 0).toNat.toUInt8]⟩) := hid (sy_at ⟨h1, h2⟩)
    rw [hk] at HK
    clear hk
    have hc := hT.sy j (by omega)
    have hl := hT.lt
    have HCv := hid (convSy j h2)
    generalize (⟨#[(syT.getD j 0).toNat.toUInt8]⟩ : ByteArray) = s at *
    generalize syT.getD j 0 = x at *
    clear hT
    go_enter Tryd.func122, Tryd.ntmps122
    go_wp2_with fail
    refine (HK.out _).mono ?_
    rintro e w1 ⟨rfl, rfl⟩
    go_wp2
    go_ret
    exact ⟨by rw [HF.out, ← HCv.out]; rfl, rfl⟩

set_option maxRecDepth 20000 in
set_option maxHeartbeats 1000000 in
theorem implTx (xs : List Int) (v : Value) (B : Nat) (w : World) (ha : Ints w B v xs) (hB : B ≤ w.heap.size) (hn : xs.length ≤ 1099511627776) (hT : stb.Tab w) :
    Calls Tryd.prog 118 #[v] w fun e w' => e = .returned (.string (stx xs)) ∧ Below w.heap.size w w' := by
  have HK := hid (implSts xs v B w ha hB hn)
  have HTb := hid hT
  have HA := hid ha
  obtain ⟨ao, cap, hv⟩ := br.ints_val ha
  cases hl : lst xs
  · have HF := hid (stx_no hl)
    rw [hl] at HK
    clear hl ha hT
    generalize xs.length = n at *
    subst hv
    go_enter Tryd.func118, Tryd.ntmps118
    go_wp2_with fail
    refine HK.out.mono ?_
    rintro e w1 ⟨rfl, b1⟩
    have B1 := hid b1
    clear b1
    go_wp2
    go_ret
    exact ⟨by rw [HF.out]; rfl, B1.out⟩
  · have HF := hid (stx_yes hl)
    have h16 := (lst_parts hl).1
    rw [hl] at HK
    clear hl hT
    have HSu := hid (fun k (h : k < xs.length) => txL_succ xs k h)
    rcases ha with ⟨rfl, ao2, cap2, hv2⟩ | ⟨hp, b, off, cap2, hv2, hbb, hc⟩
    · subst hv2
      clear hv HSu
      go_enter Tryd.func118, Tryd.ntmps118
      go_wp2_with fail
      refine HK.out.mono ?_
      rintro e w1 ⟨rfl, b1⟩
      have B1 := hid b1
      have HI := hid (Lib.fresh_isBuilder 101 5 w1)
      have HB1 := hid (B1.out.trans (((Below.refl w1.heap.size w1).alloc (Nat.le_refl _) (.cells #[.pointer none, .slice none 0 0] 101)).mono b1.size))
      clear b1
      go_wp2
      refine wp_loop_rounds 1 ?_
      rw [rounds_succ]
      go_wp2_with fail
      refine (Tryd.Builder_String_any w1.heap.size w1.heap.size [] _ HI.out (by simp)).mono ?_
      rintro e w2 ⟨rfl, b2⟩
      have B2 := hid (HB1.out.trans (b2.mono B1.out.size))
      clear b2
      go_wp2
      go_ret
      exact ⟨by rw [HF.out]; rfl, B2.out⟩
    · subst hv2
      clear hv
      obtain ⟨n, hnn⟩ : ∃ n, n = xs.length := ⟨_, rfl⟩
      rw [← hnn] at hp hc hn h16 HSu HF HK HA ⊢
      have HC := hid hc
      clear hnn hc
      go_enter Tryd.func118, Tryd.ntmps118
      go_wp2_with fail
      refine HK.out.mono ?_
      rintro e w1 ⟨rfl, b1⟩
      have B1 := hid b1
      have hz1 := b1.size
      have HI0 := hid (Lib.fresh_isBuilder 101 5 w1)
      have HB0 := hid ((Below.refl w1.heap.size w1).alloc (Nat.le_refl _) (.cells #[.pointer none, .slice none 0 0] 101))
      clear b1
      go_wp2
      go_loopw [11] (fun i wr => ∃ k : Nat, k ≤ n ∧ i = .int .i64 k ∧ Lib.IsBuilder 101 5 w1.heap.size w1.heap.size (Lib.byteCells (txL xs k)) wr ∧ Below w1.heap.size w1 wr) (fun i _ => n - (intOf i).toNat)
      case atStart => exact ⟨0, Nat.zero_le _, rfl, HI0.out, HB0.out⟩
      case round =>
        obtain ⟨k, hk, rfl, hI, hbel⟩ := hrel
        have HI := hid hI
        have HB := hid (B1.out.trans (hbel.mono hz1))
        have HBw := hid hbel
        have hzw := hbel.size
        clear hI hbel HI0 HB0
        have htl := txL_len xs k
        by_cases hlt : k < n
        · have h1 := (HB.out.cell (p := ⟨b, off + k, none⟩) (by show b < _; omega)).trans (HC.out k hlt)
          have HS := hid (HSu.out k hlt)
          have hsl := sy_len (xs.getD k 0)
          have HCl := hid (implSymbolW (xs.getD k 0) wr (stb.carry HTb.out HB.out))
          generalize xs.getD k 0 = x at *
          have HSy : Hid ((sy x).data.toList = (sy x).data.toList) := hid rfl
          generalize hyy : sy x = y at *
          have hsz : y.size ≤ 1 := by simpa using hsl
          clear hyy HSy
          go_wp2_with fail
          refine HCl.out.mono ?_
          rintro e w2 ⟨rfl, rfl⟩
          go_wp2_with fail
          refine (sb.write w1.heap.size w1.heap.size _ y wr HI.out (by rw [Lib.byteCells_length]; omega) hzw).mono ?_
          rintro e w3 ⟨rfl, i3, b3⟩
          have HI3 := hid (show Lib.IsBuilder 101 5 w1.heap.size w1.heap.size (Lib.byteCells (txL xs (k + 1))) w3 from by
            rw [HS.out, Lib.byteCells_append, ← Lib.strCells_eq]; exact i3)
          have HB3 := hid (HBw.out.trans b3)
          clear i3 b3
          go_wp2
          go_roundw
          case rel => exact ⟨k + 1, by omega, by go_num, HI3.out, HB3.out⟩
          case measure => simp [intOf]; omega
        · obtain rfl : k = n := by omega
          go_wp2_with fail
          refine (Tryd.Builder_String_any w1.heap.size w1.heap.size (txL xs k) wr HI.out hzw).mono ?_
          rintro e w2 ⟨rfl, b2⟩
          have B2 := hid (B1.out.trans ((HBw.out.trans b2).mono hz1))
          clear b2
          go_wp2
          go_ret
          exact ⟨by rw [HF.out]; rfl, B2.out⟩
end Go.Proofs.YtalioekeinohkaaDoor.kt

/- ChartText: mathematics; the model's contract. -/
namespace Go.Proofs.YtalioekeinohkaaDoor.ctx
open Go.RowKit Go.Sort Go.Proofs.YtalioekeinohkaaDoor.sl Go.Proofs.YtalioekeinohkaaDoor.br Go.Proofs.YtalioekeinohkaaDoor.cx Go.Proofs.YtalioekeinohkaaDoor.ro Go.Proofs.YtalioekeinohkaaDoor.kn Go.Proofs.YtalioekeinohkaaDoor.cm
set_option linter.unusedVariables false
set_option linter.unusedSimpArgs false
set_option maxRecDepth 100000

def ba := bt.ba
/-- A row's line. -/
def dT (d : Int) : List UInt8 := if d = 1 then [62, 32] else [60, 32]
def crL (c : Int) : List UInt8 := Lib.itoa c ++ [32]
def tlL (x : V) : List UInt8 := crL x.a1 ++ kt.txL x.ps x.ps.length
def lnL (x : V) : List UInt8 := dT x.a0 ++ (tlL x ++ [10])
def h0L (c : Int) : List UInt8 := [99, 104, 97, 114, 116, 32] ++ Lib.itoa c
def hdL (c : Int) : List UInt8 := h0L c ++ [10]
def ctL (c : Int) (xs : List V) (i : Nat) : List UInt8 := hdL c ++ (xs.take i).flatMap lnL
theorem ctL_zero (c : Int) (xs : List V) : ctL c xs 0 = hdL c := by simp [ctL]
theorem ctL_succ (c : Int) (xs : List V) (i : Nat) (h : i < xs.length) : ctL c xs (i + 1) = ctL c xs i ++ lnL (xs.getD i iz) := by
  rw [ctL, ctL, List.take_add_one, List.flatMap_append, List.append_assoc]
  simp [List.getElem?_eq_getElem h, List.getD]
def ctx (c : Int) (xs : List V) : ByteArray := if chB c xs then bt.ba (ctL c xs xs.length) else ⟨#[]⟩
theorem ctx_no {c : Int} {xs : List V} (h : chB c xs = false) : ctx c xs = ⟨#[]⟩ := by simp [ctx, h]
theorem ctx_yes {c : Int} {xs : List V} (h : chB c xs = true) : ctx c xs = bt.ba (ctL c xs xs.length) := by simp [ctx, h]
/-- What a valid chart's rows are. -/
structure Rok (x : V) : Prop where
  dir : x.a0 = 1 ∨ x.a0 = -1
  car : 1 ≤ x.a1 ∧ x.a1 ≤ 4
  lst : st.lst x.ps = true
  len : x.ps.length ≤ 16
theorem ch_row {c : Int} {xs : List V} (h : chB c xs = true) (j : Nat) (hj : j < xs.length) : Rok (xs.getD j iz) := by
  have hd := ch_dir h j hj
  simp only [chB, Bool.and_eq_true] at h
  have h2 := h.2.2
  rw [okTo, List.all_eq_true] at h2
  have h3 := h2 j (by simpa using hj)
  simp only [rowOk, Bool.and_eq_true, vr5.rowB, vo.carB, decide_eq_true_eq] at h3
  exact ⟨hd, h3.1.2.1, h3.1.2.2, (st.lst_parts h3.1.2.2).1⟩
theorem ch_cols {c : Int} {xs : List V} (h : chB c xs = true) : 1 ≤ c ∧ c ≤ 8 := by
  simp only [chB, Bool.and_eq_true, decide_eq_true_eq] at h
  exact h.1
theorem tlL_len {x : V} (h : Rok x) : (tlL x).length ≤ 40 := by
  have h1 := h.car
  have h2 := Lib.itoa_length_le x.a1 (by omega) (by omega)
  have h3 := kt.txL_len x.ps x.ps.length
  have h4 := h.len
  simp [tlL, crL]; omega
theorem lnL_len {x : V} (h : Rok x) : (lnL x).length ≤ 50 := by
  have := tlL_len h
  have : (dT x.a0).length = 2 := by unfold dT; split <;> rfl
  simp [lnL]; omega
theorem hdL_len {c : Int} (h : 1 ≤ c ∧ c ≤ 8) : (hdL c).length ≤ 40 := by
  have h2 := Lib.itoa_length_le c (by omega) (by omega)
  simp [hdL, h0L]; omega
theorem ctL_len {c : Int} {xs : List V} (h : chB c xs = true) : ∀ i, i ≤ xs.length → (ctL c xs i).length ≤ 40 + 50 * i
  | 0, _ => by rw [ctL_zero]; have := hdL_len (ch_cols h); omega
  | i + 1, hi => by
    rw [ctL_succ c xs i (by omega), List.length_append]
    have h1 := ctL_len h i (by omega)
    have h2 := lnL_len (ch_row h i (by omega))
    omega
theorem txB_is (xs : List Int) (n : Nat) : kt.txB xs n = bt.ba (kt.txL xs n) := rfl
theorem stx_is {x : V} (h : Rok x) : kt.stx x.ps = bt.ba (kt.txL x.ps x.ps.length) := by rw [kt.stx_yes h.lst]; rfl
/-- The additions of the head and of a row. -/
theorem addH {c : Int} (h : 1 ≤ c ∧ c ≤ 8) (w : World) :
    (Op.stringOp .add ⟨#[99, 104, 97, 114, 116, 32]⟩ ⟨(Lib.itoa c).toArray⟩).run Tryd.prog w = .ok (.string (bt.ba (h0L c))) w ∧ (Op.stringOp .add (bt.ba (h0L c)) ⟨#[10]⟩).run Tryd.prog w = .ok (.string (bt.ba (hdL c))) w := by
  have h2 := Lib.itoa_length_le c (by omega) (by omega)
  exact ⟨bt.cat [99, 104, 97, 114, 116, 32] (Lib.itoa c) (by simp; omega) w, bt.cat (h0L c) [10] (by simp [h0L]; omega) w⟩
theorem addR {x : V} (h : Rok x) (w : World) :
    (Op.stringOp .add ⟨(Lib.itoa x.a1).toArray⟩ ⟨#[32]⟩).run Tryd.prog w = .ok (.string (bt.ba (crL x.a1))) w ∧ (Op.stringOp .add (bt.ba (crL x.a1)) (kt.txB x.ps x.ps.length)).run Tryd.prog w = .ok (.string (bt.ba (tlL x))) w ∧ (Op.stringOp .add (bt.ba (tlL x)) ⟨#[10]⟩).run Tryd.prog w = .ok (.string (bt.ba (tlL x ++ [10]))) w := by
  have h1 := h.car
  have h2 := Lib.itoa_length_le x.a1 (by omega) (by omega)
  have h3 := kt.txL_len x.ps x.ps.length
  have h4 := h.len
  have h5 := tlL_len h
  exact ⟨bt.cat (Lib.itoa x.a1) [32] (by simp; omega) w, bt.cat (crL x.a1) (kt.txL x.ps x.ps.length) (by simp [crL]; omega) w, bt.cat (tlL x) [10] (by simp; omega) w⟩
theorem addD (T : List UInt8) (d : Int) (U : List UInt8) (hT : T.length ≤ 1000) (hU : U.length ≤ 1000) (w : World) :
    (Op.stringOp .add (bt.ba T) (bt.ba (dT d))).run Tryd.prog w = .ok (.string (bt.ba (T ++ dT d))) w ∧ (Op.stringOp .add (bt.ba (T ++ dT d)) (bt.ba U)).run Tryd.prog w = .ok (.string (bt.ba (T ++ (dT d ++ U)))) w := by
  have : (dT d).length = 2 := by unfold dT; split <;> rfl
  refine ⟨bt.cat T (dT d) (by omega) w, ?_⟩
  rw [← List.append_assoc]
  exact bt.cat (T ++ dT d) U (by simp; omega) w

theorem specTxt (c : Int) (xs : List V) (f : Value) (B p : Nat) (w : World) (hp : p < w.heap.size) (h0 : w.cell? ⟨p, 0, none⟩ = some (.int .i64 c)) (h1 : w.cell? ⟨p, 1, none⟩ = some f) (ha : Infs w B f xs) (hB : B ≤ w.heap.size) (hok : chB c xs = true) :
    Calls Tryd.prog 81 #[.pointer (some ⟨p, 0, none⟩)] w fun e w' => e = .returned (.string (bt.ba (ctL c xs xs.length))) ∧ Below w.heap.size w w' := by
  have hcl := ch_cols hok
  have HL := hid (fun i (h : i ≤ xs.length) => ctL_len hok i h)
  have HR := hid (fun j (h : j < xs.length) => ch_row hok j h)
  have HSu := hid (fun i (h : i < xs.length) => ctL_succ c xs i h)
  have HZ := hid (ctL_zero c xs)
  have HD := hid (fun n h0 h1 w => dc.dec n w h0 h1)
  have HH := hid (fun W => addH hcl W)
  obtain ⟨hl1, hl8⟩ := ch_len hok
  rcases ha with ⟨e0, _⟩ | ⟨hp1, b, off, cap, F, hv, hb, hc⟩
  · rw [e0] at hl1; simp at hl1
  obtain ⟨n, hnn⟩ : ∃ n, n = xs.length := ⟨_, rfl⟩
  rw [← hnn] at hv hl1 hl8 HL HR HSu hc ⊢
  have HC := hid hc
  have HN := hid hnn
  clear hnn hc hp1 hok
  subst hv
  go_enter Tryd.func81, Tryd.ntmps81
  go_wp2_with fail
  refine (HD.out c (by omega) (by omega) _).mono ?_
  rintro e w1 ⟨rfl, b1⟩
  have B1 := hid b1
  have g0 := (b1.cell (p := ⟨p, 0, none⟩) hp).trans h0
  have g1 := (b1.cell (p := ⟨p, 1, none⟩) hp).trans h1
  obtain ⟨hh0, hh1⟩ := HH.out w1
  clear b1 HH
  have mixed : Tryd.prog.follows .mixedOrders = true := by kernel_rfl
  go_wp2
  go_loopw [3, 4] (fun t i wr => ∃ k : Nat, k ≤ n ∧ i = .int .i64 k ∧ t = .string (bt.ba (ctL c xs k)) ∧ Below w.heap.size w wr) (fun _ i _ => n - (intOf i).toNat)
  case atStart => exact ⟨0, Nat.zero_le _, rfl, by rw [HZ.out], B1.out⟩
  case round =>
    obtain ⟨k, hk, rfl, rfl, hbel⟩ := hrel
    have HB := hid hbel
    clear hbel g0 g1 hh0 hh1
    have g1 := (HB.out.cell (p := ⟨p, 1, none⟩) hp).trans h1
    by_cases hlt : k < n
    · obtain ⟨hA, hI⟩ := HC.out k hlt
      have hA2 := hA.blk HB.out.size (HB.out.block b hA.lt)
      have r0 := hA2.c0
      have r1 := hA2.c1
      have r2 := hA2.c2
      have hx := HR.out k hlt
      have HS := hid (HSu.out k hlt)
      have hl1 := HL.out k hk
      have hl2 := lnL_len hx
      have hcar := hx.car
      have hdir := hx.dir
      have hlen := hx.len
      generalize xs.getD k iz = x at *
      obtain ⟨a9, c9, hv9⟩ := ints_val hI
      have HIw := hid (hI.chg (Chg.ofBelow (lo := 0) (HB.out.trans ((Below.refl w.heap.size wr).alloc HB.out.size (.cells #[.int .i64 x.a0, .int .i64 x.a1, F k] 81)))) (.inr (Nat.zero_le _)))
      have hzX : wr.heap.size ≤ (wr.alloc (.cells #[.int .i64 x.a0, .int .i64 x.a1, F k] 81)).heap.size := by simp
      have HDc := hid (fun W => dc.dec x.a1 W (by omega) (by omega))
      have HTx := hid (fun (d : Nat) (os : Array Obj) => kt.specText x.ps (F k) B (grow (redrawn (wr.alloc (.cells #[.int .i64 x.a0, .int .i64 x.a1, F k] 81)) d) os) (HIw.out.chg (Chg.ofBelow (lo := 0) (below_regrown _ d os)) (.inr (Nat.zero_le _))) (Nat.le_trans hB (Nat.le_trans HB.out.size (Nat.le_trans hzX (below_regrown (wr.alloc (.cells #[.int .i64 x.a0, .int .i64 x.a1, F k] 81)) d os).size))) hlen)
      have ha1 := fun W => (addR hx W).1
      have ha2 := fun W => (addR hx W).2.1
      have ha3 := fun W => (addR hx W).2.2
      have hTl : (tlL x ++ [10]).length ≤ 1000 := by have := tlL_len hx; simp; omega
      have HAd := hid (fun W => addD (ctL c xs k) x.a0 (tlL x ++ [10]) (by omega) hTl W)
      have HS2 : Hid (ctL c xs (k + 1) = ctL c xs k ++ (dT x.a0 ++ (tlL x ++ [10]))) := hid HS.out
      obtain ⟨T2, hT2⟩ : ∃ T2, T2 = ctL c xs (k + 1) := ⟨_, rfl⟩
      have HT2 := hid hT2
      rw [← hT2] at HS2
      clear hT2
      generalize hTT : ctL c xs k = T at *
      generalize F k = u at *
      generalize kt.txB x.ps x.ps.length = tx at *
      have q1 := fun d os => cell_regrown (w := wr.alloc (.cells #[.int .i64 x.a0, .int .i64 x.a1, u] 81)) (a := ⟨wr.heap.size, 1, none⟩) (v := .int .i64 x.a1) (by go_simp) d os
      have q2 := fun d os => cell_regrown (w := wr.alloc (.cells #[.int .i64 x.a0, .int .i64 x.a1, u] 81)) (a := ⟨wr.heap.size, 2, none⟩) (v := u) (by go_simp) d os
      have HBX : Hid (Below w.heap.size w (wr.alloc (.cells #[.int .i64 x.a0, .int .i64 x.a1, u] 81))) := hid (HB.out.trans ((Below.refl w.heap.size wr).alloc HB.out.size _))
      clear hl1 hl2 hA hA2 hI hx hTT HS hTl hzX HIw
      obtain ⟨m9, hm9⟩ : ∃ m, m = x.ps.length := ⟨_, rfl⟩
      rw [← hm9] at hv9
      clear hm9 hlen
      subst hv9
      generalize tlL x = U at *
      generalize crL x.a1 = Cr at *
      generalize x.a1 = cr at *
      generalize x.a0 = d at *
      rcases hdir with rfl | rfl
      · have hA1 : (Op.stringOp .add (bt.ba T) ⟨#[62, 32]⟩).run Tryd.prog (wr.alloc (.cells #[.int .i64 (1), .int .i64 cr, .slice a9 m9 c9] 81)) = .ok (.string (bt.ba (T ++ dT (1)))) (wr.alloc (.cells #[.int .i64 (1), .int .i64 cr, .slice a9 m9 c9] 81)) := (HAd.out _).1
        have hA2 := fun W => (HAd.out W).2
        rw [← HS2.out] at hA2
        generalize T ++ dT (1) = T1 at *
        generalize U ++ [10] = U1 at *
        clear HAd
        go_wp2
        refine wp_region_quiet_below mixed (by kernel_rfl) ?_
        repeat (go_big_quiet_step (first | (go_at_call 96; exact Calls.regrown_of (HDc.out _)) | (go_at_call 114; exact Calls.regrown_of (HTx.out _ _))))
        refine wpQuiet_nil ?_
        intro _ hw'
        obtain ⟨⟨nq, osq⟩, hw''⟩ := hw'
        subst hw''
        clear q1 q2 ha1 ha2 ha3 hA1 hA2 HTx HDc
        have HB2 := hid (HBX.out.trans ((below_regrown (wr.alloc (.cells #[.int .i64 (1), .int .i64 cr, .slice a9 m9 c9] 81)) nq osq).mono HBX.out.size))
        generalize grow (redrawn (wr.alloc (.cells #[.int .i64 (1), .int .i64 cr, .slice a9 m9 c9] 81)) nq) osq = W2 at *
        go_wp2
        go_roundw
        case rel => exact ⟨k + 1, by omega, by go_num, by rw [HT2.out], HB2.out⟩
        case measure => simp [intOf]; omega
      · have hA1 : (Op.stringOp .add (bt.ba T) ⟨#[60, 32]⟩).run Tryd.prog (wr.alloc (.cells #[.int .i64 (-1), .int .i64 cr, .slice a9 m9 c9] 81)) = .ok (.string (bt.ba (T ++ dT (-1)))) (wr.alloc (.cells #[.int .i64 (-1), .int .i64 cr, .slice a9 m9 c9] 81)) := (HAd.out _).1
        have hA2 := fun W => (HAd.out W).2
        rw [← HS2.out] at hA2
        generalize T ++ dT (-1) = T1 at *
        generalize U ++ [10] = U1 at *
        clear HAd
        go_wp2
        refine wp_region_quiet_below mixed (by kernel_rfl) ?_
        repeat (go_big_quiet_step (first | (go_at_call 96; exact Calls.regrown_of (HDc.out _)) | (go_at_call 114; exact Calls.regrown_of (HTx.out _ _))))
        refine wpQuiet_nil ?_
        intro _ hw'
        obtain ⟨⟨nq, osq⟩, hw''⟩ := hw'
        subst hw''
        clear q1 q2 ha1 ha2 ha3 hA1 hA2 HTx HDc
        have HB2 := hid (HBX.out.trans ((below_regrown (wr.alloc (.cells #[.int .i64 (-1), .int .i64 cr, .slice a9 m9 c9] 81)) nq osq).mono HBX.out.size))
        generalize grow (redrawn (wr.alloc (.cells #[.int .i64 (-1), .int .i64 cr, .slice a9 m9 c9] 81)) nq) osq = W2 at *
        go_wp2
        go_roundw
        case rel => exact ⟨k + 1, by omega, by go_num, by rw [HT2.out], HB2.out⟩
        case measure => simp [intOf]; omega
    · obtain rfl : k = n := by omega
      go_wp2
      go_ret
      exact ⟨rfl, HB.out⟩
theorem specCT (c : Int) (xs : List V) (f : Value) (B : Nat) (w : World) (ha : Infs w B f xs) (hB : B ≤ w.heap.size) (hq : Small xs) :
    Calls Tryd.prog 41 #[.agg #[.int .i64 c, f]] w fun e w' => e = .returned (.string (ctx c xs)) ∧ Below w.heap.size w w' := by
  have hb0 := (Below.refl w.heap.size w).alloc (Nat.le_refl _) (.cells #[.int .i64 c, f] 47)
  have HK := hid (specOk15 c xs f B w.heap.size (w.alloc (.cells #[.int .i64 c, f] 47)) (by simp) (World.cell?_alloc_at _ _ _ _ rfl) (World.cell?_alloc_at _ _ _ _ rfl) (ha.below hb0) (Nat.le_trans hB hb0.size) hq)
  have HT := hid (fun W (b : Below (w.alloc (.cells #[.int .i64 c, f] 47)).heap.size (w.alloc (.cells #[.int .i64 c, f] 47)) W) (h : chB c xs = true) => specTxt c xs f B w.heap.size W (by have := b.size; simp at this; omega) ((b.cell (p := ⟨w.heap.size, 0, none⟩) (by simp)).trans (World.cell?_alloc_at _ _ _ _ rfl)) ((b.cell (p := ⟨w.heap.size, 1, none⟩) (by simp)).trans (World.cell?_alloc_at _ _ _ _ rfl)) ((ha.below hb0).chg (Chg.ofBelow (lo := 0) b) (.inr (Nat.zero_le _))) (Nat.le_trans (Nat.le_trans hB hb0.size) b.size) h)
  have HB0 := hid hb0
  obtain ⟨ao, cap, hv⟩ := infs_val ha
  cases hl : chB c xs
  · have HF := hid (ctx_no hl)
    rw [hl] at HK
    clear hl ha HT hb0 hq
    generalize xs.length = n at *
    subst hv
    go_enter Tryd.func41, Tryd.ntmps41
    go_wp2_with fail
    refine HK.out.mono ?_
    rintro e w1 ⟨rfl, b1⟩
    have B1 := hid (HB0.out.trans (b1.mono (by simp)))
    clear b1
    go_wp2
    go_ret
    exact ⟨by rw [HF.out]; rfl, B1.out⟩
  · have HF := hid (ctx_yes hl)
    have HT2 := hid (fun W b => HT.out W b hl)
    rw [hl] at HK
    clear hl ha HT hb0 hq
    generalize hbt : bt.ba (ctL c xs xs.length) = t at *
    clear hbt
    generalize xs.length = n at *
    subst hv
    go_enter Tryd.func41, Tryd.ntmps41
    go_wp2_with fail
    refine HK.out.mono ?_
    rintro e w1 ⟨rfl, b1⟩
    have B1 := hid (HB0.out.trans (b1.mono (by simp)))
    go_wp2_with fail
    refine (HT2.out _ b1).mono ?_
    rintro e w2 ⟨rfl, b2⟩
    have B2 := hid (B1.out.trans (b2.mono B1.out.size))
    clear b1 b2
    go_wp2
    go_ret
    exact ⟨by rw [HF.out]; rfl, B2.out⟩
end Go.Proofs.YtalioekeinohkaaDoor.ctx

/- The two tables that a chart's text reads: the stitches and the powers of ten. -/
namespace Go.Proofs.YtalioekeinohkaaDoor.ctd
open Go.RowKit
structure Tb (w : World) : Prop where
  s : stb.Tab w
  p : Lib.TabIs Tryd.prog w "internal/strconv.uint64pow10" .u64 Lib.pow10Tab
theorem tab {w : World} {l : List (String × DataW Unit)} {x y : String × DataW Unit}
    (hp : ((x :: y :: ("internal/strconv.uint64pow10", Rows.laid_internal_strconv_uint64pow10) :: ("loop.example/g00856/impl.stitches", Rows.laid_loop_example_g00856_impl_stitches) :: l).all fun x => x.2.handleName?.isNone) = true)
    (h : laidMetH Tryd.prog (x :: y :: ("internal/strconv.uint64pow10", Rows.laid_internal_strconv_uint64pow10) :: ("loop.example/g00856/impl.stitches", Rows.laid_loop_example_g00856_impl_stitches) :: l) w) : Tb w := by
  refine ⟨?_, lt.tab hp h⟩
  have hp2 : ((("loop.example/g00856/impl.stitches", Rows.laid_loop_example_g00856_impl_stitches) :: l).all fun x => x.2.handleName?.isNone) = true := by
    simp only [List.all_cons, Bool.and_eq_true] at hp ⊢
    exact hp.2.2.2
  refine stb.tab hp2 ?_
  rw [MakeChecks.laidMetH_plain _ _ _ hp] at h
  rw [MakeChecks.laidMetH_plain _ _ _ hp2]
  exact h.tail.tail.tail
theorem carry {w w' : World} (h : Tb w) (hb : Below w.heap.size w w') : Tb w' := ⟨stb.carry h.s hb, lt.carry h.p hb⟩
end Go.Proofs.YtalioekeinohkaaDoor.ctd

/- ChartText: the program's contract. -/
namespace Go.Proofs.YtalioekeinohkaaDoor.ctx
open Go.RowKit Go.Sort Go.Proofs.YtalioekeinohkaaDoor.sl Go.Proofs.YtalioekeinohkaaDoor.br Go.Proofs.YtalioekeinohkaaDoor.cx Go.Proofs.YtalioekeinohkaaDoor.ro Go.Proofs.YtalioekeinohkaaDoor.kn Go.Proofs.YtalioekeinohkaaDoor.cm
set_option linter.unusedVariables false
set_option linter.unusedSimpArgs false
set_option maxRecDepth 100000

theorem implArrow (c : Int) (hc : c = 1 ∨ c = -1) (w : World) : Calls Tryd.prog 141 #[.int .i64 c] w fun e w' => e = .returned (.int .i32 (if c = 1 then 62 else 60)) ∧ w = w' := by
  rcases hc with rfl | rfl <;>
  (go_enter Tryd.func141, Tryd.ntmps141
   go_wp2
   go_ret
   exact ⟨rfl, rfl⟩)
def dS (d : Int) : ByteArray := if d = 1 then ⟨#[62]⟩ else ⟨#[60]⟩
theorem implDirS (c : Int) (hc : c = 1 ∨ c = -1) (w : World) : Calls Tryd.prog 117 #[.int .i64 c] w fun e w' => e = .returned (.string (dS c)) ∧ Below w.heap.size w w' := by
  have HA := hid (implArrow c hc)
  rcases hc with rfl | rfl
  · go_enter Tryd.func117, Tryd.ntmps117
    go_wp2_with (go_at_call 141; refine (HA.out _).mono ?_; rintro e w' ⟨rfl, rfl⟩)
    go_ret
    exact ⟨rfl, Below.refl _ _⟩
  · go_enter Tryd.func117, Tryd.ntmps117
    go_wp2_with (go_at_call 141; refine (HA.out _).mono ?_; rintro e w' ⟨rfl, rfl⟩)
    go_ret
    exact ⟨rfl, Below.refl _ _⟩
def d1L (d : Int) : List UInt8 := if d = 1 then [62] else [60]
theorem dT_is (d : Int) : dT d = d1L d ++ [32] := by unfold dT d1L; split <;> rfl
theorem dS_is (d : Int) : dS d = bt.ba (d1L d) := by unfold dS d1L; split <;> rfl
/-- The additions of a line. -/
theorem addL {x : V} (h : Rok x) (w : World) :
    (Op.stringOp .add (dS x.a0) ⟨#[32]⟩).run Tryd.prog w = .ok (.string (bt.ba (dT x.a0))) w ∧ (Op.stringOp .add (bt.ba (dT x.a0)) ⟨(Lib.itoa x.a1).toArray⟩).run Tryd.prog w = .ok (.string (bt.ba (dT x.a0 ++ Lib.itoa x.a1))) w ∧ (Op.stringOp .add (bt.ba (dT x.a0 ++ Lib.itoa x.a1)) ⟨#[32]⟩).run Tryd.prog w = .ok (.string (bt.ba (dT x.a0 ++ crL x.a1))) w ∧
    (Op.stringOp .add (bt.ba (dT x.a0 ++ crL x.a1)) (kt.stx x.ps)).run Tryd.prog w = .ok (.string (bt.ba (dT x.a0 ++ tlL x))) w ∧ (Op.stringOp .add (bt.ba (dT x.a0 ++ tlL x)) ⟨#[10]⟩).run Tryd.prog w = .ok (.string (bt.ba (lnL x))) w := by
  have h1 := h.car
  have h2 := Lib.itoa_length_le x.a1 (by omega) (by omega)
  have h3 := kt.txL_len x.ps x.ps.length
  have h4 := h.len
  have h5 := tlL_len h
  have h6 : (dT x.a0).length = 2 := by unfold dT; split <;> rfl
  refine ⟨?_, bt.cat (dT x.a0) (Lib.itoa x.a1) (by omega) w, ?_, ?_, ?_⟩
  · rw [dS_is, dT_is]
    exact bt.cat (d1L x.a0) [32] (by unfold d1L; split <;> simp) w
  · have := bt.cat (dT x.a0 ++ Lib.itoa x.a1) [32] (by simp; omega) w
    rw [List.append_assoc] at this
    exact this
  · rw [stx_is h]
    have := bt.cat (dT x.a0 ++ crL x.a1) (kt.txL x.ps x.ps.length) (by simp [crL]; omega) w
    rw [List.append_assoc] at this
    exact this
  · have := bt.cat (dT x.a0 ++ tlL x) [10] (by simp; omega) w
    rw [List.append_assoc] at this
    exact this
theorem implLine (x : V) (u : Value) (B : Nat) (w : World) (hx : Rok x) (ha : Ints w B u x.ps) (hB : B ≤ w.heap.size) (hT : stb.Tab w) (hP : Lib.TabIs Tryd.prog w "internal/strconv.uint64pow10" .u64 Lib.pow10Tab) :
    Calls Tryd.prog 84 #[.agg #[.int .i64 x.a0, .int .i64 x.a1, u]] w fun e w' => e = .returned (.string (bt.ba (dT x.a0 ++ tlL x))) ∧ Below w.heap.size w w' := by
  have hcar := hx.car
  have hlen := hx.len
  have a1 := fun W => (addL hx W).1
  have a2 := fun W => (addL hx W).2.1
  have a3 := fun W => (addL hx W).2.2.1
  have a4 := fun W => (addL hx W).2.2.2.1
  have HDi := hid (implDirS x.a0 hx.dir)
  have hX : ∀ (u' : Value) d os, Below w.heap.size w (grow (redrawn (w.alloc (.cells #[.int .i64 x.a0, .int .i64 x.a1, u'] 81)) d) os) := fun u' d os => ((Below.refl _ w).alloc (Nat.le_refl _) _).trans ((below_regrown (w.alloc (.cells #[.int .i64 x.a0, .int .i64 x.a1, u'] 81)) d os).mono (by simp))
  have HX := hid hX
  have HDe := hid (fun W (b : Below w.heap.size w W) => lt.implDecimal x.a1 W (by omega) (by omega) (lt.carry hP b))
  have HSt := hid (fun W (b : Below w.heap.size w W) => kt.implTx x.ps u B W (ha.chg (Chg.ofBelow (lo := 0) b) (.inr (Nat.zero_le _))) (Nat.le_trans hB b.size) (by omega) (stb.carry hT b))
  obtain ⟨a9, c9, hv9⟩ := ints_val ha
  obtain ⟨m9, hm9⟩ : ∃ m, m = x.ps.length := ⟨_, rfl⟩
  rw [← hm9] at hv9
  clear hm9 ha hlen hx hT hP hX
  subst hv9
  generalize dT x.a0 ++ Lib.itoa x.a1 = y2 at *
  generalize dT x.a0 ++ crL x.a1 = y3 at *
  generalize dT x.a0 ++ tlL x = y4 at *
  generalize dT x.a0 = y1 at *
  generalize dS x.a0 = y0 at *
  generalize kt.stx x.ps = y5 at *
  generalize x.a0 = d0 at *
  generalize x.a1 = d1 at *
  go_enter Tryd.func84, Tryd.ntmps84
  have mixed : Tryd.prog.follows .mixedOrders = true := by kernel_rfl
  have q0 := fun d os => cell_regrown (w := w.alloc (.cells #[.int .i64 d0, .int .i64 d1, .slice a9 m9 c9] 81)) (a := ⟨w.heap.size, 0, none⟩) (v := .int .i64 d0) (by go_simp) d os
  have q1 := fun d os => cell_regrown (w := w.alloc (.cells #[.int .i64 d0, .int .i64 d1, .slice a9 m9 c9] 81)) (a := ⟨w.heap.size, 1, none⟩) (v := .int .i64 d1) (by go_simp) d os
  have q2 := fun d os => cell_regrown (w := w.alloc (.cells #[.int .i64 d0, .int .i64 d1, .slice a9 m9 c9] 81)) (a := ⟨w.heap.size, 2, none⟩) (v := .slice a9 m9 c9) (by go_simp) d os
  go_wp2_with fail
  refine wp_region_quiet_below mixed (by kernel_rfl) ?_
  repeat (go_big_quiet_step (first | (go_at_call 117; exact Calls.regrown_of (HDi.out _)) | (go_at_call 83; exact Calls.regrown_of (HDe.out _ (HX.out _ _ _))) | (go_at_call 118; exact Calls.regrown_of (HSt.out _ (HX.out _ _ _)))))
  refine wpQuiet_nil ?_
  intro _ hw'
  obtain ⟨⟨nq, osq⟩, hw''⟩ := hw'
  subst hw''
  have HB2 := hid (HX.out (.slice a9 m9 c9) nq osq)
  clear q0 q1 q2 a1 a2 a3 a4 HDi HDe HSt HX
  generalize grow (redrawn (w.alloc (.cells #[.int .i64 d0, .int .i64 d1, .slice a9 m9 c9] 81)) nq) osq = W2 at *
  go_wp2
  go_ret
  exact ⟨rfl, HB2.out⟩
theorem implCT (c : Int) (xs : List V) (f : Value) (B : Nat) (w : World) (ha : Infs w B f xs) (hB : B ≤ w.heap.size) (hq : Small xs) (hT : stb.Tab w) (hP : Lib.TabIs Tryd.prog w "internal/strconv.uint64pow10" .u64 Lib.pow10Tab) :
    Calls Tryd.prog 42 #[.agg #[.int .i64 c, f]] w fun e w' => e = .returned (.string (ctx c xs)) ∧ Below w.heap.size w w' := by
  have hb0 := (Below.refl w.heap.size w).alloc (Nat.le_refl _) (.cells #[.int .i64 c, f] 47)
  have HK := hid (kn.implVC c xs f B _ (ha.below hb0) (Nat.le_trans hB hb0.size) hq (stb.carry hT hb0))
  have HTb := hid hT
  have HPb := hid hP
  have HB0 := hid hb0
  have HD := hid (fun n h0 h1 w hT => lt.implDecimal n w h0 h1 hT)
  obtain ⟨ao, cap, hv⟩ := infs_val ha
  cases hl : chB c xs
  · have HF := hid (ctx_no hl)
    rw [hl] at HK
    clear hl ha hq hb0 hT hP
    generalize xs.length = n at *
    subst hv
    go_enter Tryd.func42, Tryd.ntmps42
    go_wp2_with fail
    refine HK.out.mono ?_
    rintro e w1 ⟨rfl, b1⟩
    have B1 := hid (HB0.out.trans (b1.mono HB0.out.size))
    clear b1
    go_wp2
    go_ret
    exact ⟨by rw [HF.out]; rfl, B1.out⟩
  · have HF := hid (ctx_yes hl)
    have hcl := ch_cols hl
    obtain ⟨hl1, hl8⟩ := ch_len hl
    rw [hl] at HK
    have HL := hid (fun i (h : i ≤ xs.length) => ctL_len hl i h)
    have HR := hid (fun j (h : j < xs.length) => ch_row hl j h)
    have HSu := hid (fun i (h : i < xs.length) => ctL_succ c xs i h)
    have HZ := hid (ctL_zero c xs)
    have HH := hid (fun W => addH hcl W)
    have HHl := hid (hdL_len hcl)
    rcases ha with ⟨e0, _⟩ | ⟨hp1, b, off, cap', F, hv', hb, hc⟩
    · rw [e0] at hl1; simp at hl1
    obtain ⟨n, hnn⟩ : ∃ n, n = xs.length := ⟨_, rfl⟩
    rw [← hnn] at hv' hl1 hl8 HL HR HSu hc HF
    have HC := hid hc
    clear hnn hc hp1 hv hl hq hb0 hT hP
    subst hv'
    go_enter Tryd.func42, Tryd.ntmps42
    go_wp2_with fail
    refine HK.out.mono ?_
    rintro e w1 ⟨rfl, b1⟩
    have B1 := hid (HB0.out.trans (b1.mono HB0.out.size))
    have g0 : w1.cell? ⟨w.heap.size, 0, none⟩ = some (.int .i64 c) := (b1.cell (p := ⟨w.heap.size, 0, none⟩) (by simp)).trans (World.cell?_alloc_at _ _ _ _ rfl)
    have g1 : w1.cell? ⟨w.heap.size, 1, none⟩ = some (.slice (some ⟨b, off, none⟩) n cap') := (b1.cell (p := ⟨w.heap.size, 1, none⟩) (by simp)).trans (World.cell?_alloc_at _ _ _ _ rfl)
    have hz1 : w.heap.size + 1 ≤ w1.heap.size := by have := b1.size; simpa using this
    have HIb := hid (Lib.fresh_isBuilder 101 5 w1)
    have HBb := hid ((Below.refl w1.heap.size w1).alloc (Nat.le_refl _) (.cells #[.pointer none, .slice none 0 0] 101))
    have HTa := hid (lt.carry HPb.out (B1.out.trans (HBb.out.mono (by omega))))
    have g0a : (w1.alloc (.cells #[.pointer none, .slice none 0 0] 101)).cell? ⟨w.heap.size, 1, none⟩ = some (.slice (some ⟨b, off, none⟩) n cap') := (HBb.out.cell (p := ⟨w.heap.size, 1, none⟩) (by show w.heap.size < _; omega)).trans g1
    have g00 : (w1.alloc (.cells #[.pointer none, .slice none 0 0] 101)).cell? ⟨w.heap.size, 0, none⟩ = some (.int .i64 c) := (HBb.out.cell (p := ⟨w.heap.size, 0, none⟩) (by show w.heap.size < _; omega)).trans g0
    clear b1 HK
    go_wp2_with fail
    refine (HD.out c (by omega) (by omega) _ HTa.out).mono ?_
    rintro e w2 ⟨rfl, b2⟩
    obtain ⟨hh0, hh1⟩ := HH.out w2
    have HI2 := hid (bt.ib_below HIb.out b2)
    have HB2 := hid (HBb.out.trans (b2.mono (by simp)))
    have g12 := (b2.cell (p := ⟨w.heap.size, 1, none⟩) (by simp; omega)).trans g0a
    clear b2 HIb g0 g1 g0a g00 HH HTa
    go_wp2_with fail
    refine (sb.write w1.heap.size w1.heap.size [] (bt.ba (hdL c)) w2 HI2.out (by have := HHl.out; rw [bt.ba_size]; simp; omega) HB2.out.size).mono ?_
    rintro e w3 ⟨rfl, i3, b3⟩
    have HI3 := hid (show Lib.IsBuilder 101 5 w1.heap.size w1.heap.size (Lib.byteCells (ctL c xs 0)) w3 from by
      rw [HZ.out]
      rw [Lib.strCells_eq, bt.ba_list, List.nil_append] at i3
      exact i3)
    have HB3 := hid (HB2.out.trans b3)
    have g13 := (b3.cell (p := ⟨w.heap.size, 1, none⟩) (by show w.heap.size < _; omega)).trans g12
    clear i3 b3 g12 hh0 hh1 HI2 HB2
    go_wp2
    go_loopw [18] (fun i wr => ∃ k : Nat, k ≤ n ∧ i = .int .i64 k ∧ Lib.IsBuilder 101 5 w1.heap.size w1.heap.size (Lib.byteCells (ctL c xs k)) wr ∧ Below w1.heap.size w1 wr) (fun i _ => n - (intOf i).toNat)
    case atStart => exact ⟨0, Nat.zero_le _, rfl, HI3.out, HB3.out⟩
    case round =>
      obtain ⟨k, hk, rfl, hI, hbel⟩ := hrel
      have HIk := hid hI
      have HBw := hid hbel
      have HB := hid (B1.out.trans (hbel.mono (by omega)))
      have hzw := hbel.size
      clear hI hbel HI3 HB3 g13
      have hl2 := HL.out k hk
      by_cases hlt : k < n
      · obtain ⟨hA, hIn⟩ := HC.out k hlt
        have hA2 := hA.blk HB.out.size (HB.out.block b hA.lt)
        have r0 := hA2.c0
        have r1 := hA2.c1
        have r2 := hA2.c2
        have hx := HR.out k hlt
        have HS := hid (HSu.out k hlt)
        have hl3 := lnL_len hx
        generalize xs.getD k iz = x at *
        have ha5 := fun W => (addL hx W).2.2.2.2
        obtain ⟨a9, c9, hv9⟩ := ints_val hIn
        have HLi := hid (fun W (b : Below w.heap.size w W) => implLine x (F k) B W hx (hIn.chg (Chg.ofBelow (lo := 0) b) (.inr (Nat.zero_le _))) (Nat.le_trans hB b.size) (stb.carry HTb.out b) (lt.carry HPb.out b))
        generalize F k = u at *
        obtain ⟨m9, hm9⟩ : ∃ m, m = x.ps.length := ⟨_, rfl⟩
        rw [← hm9] at hv9
        clear hm9 hA hA2 hIn hx
        subst hv9
        generalize dT x.a0 ++ tlL x = y4 at *
        generalize lnL x = y5 at *
        generalize x.a0 = d0 at *
        generalize x.a1 = d1 at *
        have HBX : Hid (Below wr.heap.size wr (wr.alloc (.cells #[.int .i64 d0, .int .i64 d1, .slice a9 m9 c9] 81))) := hid ((Below.refl wr.heap.size wr).alloc (Nat.le_refl _) _)
        have HBXw := hid (HB.out.trans (HBX.out.mono HB.out.size))
        go_wp2_with fail
        refine (HLi.out _ HBXw.out).mono ?_
        rintro e w4 ⟨rfl, b4⟩
        have hc4 := ha5 w4
        have b4' : Below wr.heap.size wr w4 := HBX.out.trans (b4.mono (by simp))
        have HI4 := hid (bt.ib_below HIk.out b4')
        have HB4 := hid (HBw.out.trans (b4'.mono hzw))
        clear b4 b4' ha5 HLi r0 r1 r2 HBX HBXw HIk
        go_wp2_with fail
        refine (sb.write w1.heap.size w1.heap.size _ (bt.ba y5) w4 HI4.out (by rw [Lib.byteCells_length, bt.ba_size]; omega) HB4.out.size).mono ?_
        rintro e w5 ⟨rfl, i5, b5'⟩
        have HI5 := hid (show Lib.IsBuilder 101 5 w1.heap.size w1.heap.size (Lib.byteCells (ctL c xs (k + 1))) w5 from by
          rw [HS.out, Lib.byteCells_append]
          rw [Lib.strCells_eq, bt.ba_list] at i5
          exact i5)
        have HB5 := hid (HB4.out.trans b5')
        clear i5 b5' hc4
        go_wp2
        go_roundw
        case rel => exact ⟨k + 1, by omega, by go_num, HI5.out, HB5.out⟩
        case measure => simp [intOf]; omega
      · obtain rfl : k = n := by omega
        go_wp2_with fail
        refine (Tryd.Builder_String_any w1.heap.size w1.heap.size (ctL c xs k) wr HIk.out hzw).mono ?_
        rintro e w6 ⟨rfl, b6⟩
        have B6 := hid (B1.out.trans ((HBw.out.trans b6).mono (by omega)))
        have HF2 := HF
        clear b6
        go_wp2
        go_ret
        exact ⟨by rw [HF2.out]; rfl, B6.out⟩
theorem implCTd (c : Int) (xs : List V) (f : Value) (B : Nat) (w : World) (ha : Infs w B f xs) (hB : B ≤ w.heap.size) (hq : Small xs) (hT : ctd.Tb w) :
    Calls Tryd.prog 42 #[.agg #[.int .i64 c, f]] w fun e w' => e = .returned (.string (ctx c xs)) ∧ Below w.heap.size w w' := implCT c xs f B w ha hB hq hT.s hT.p
end Go.Proofs.YtalioekeinohkaaDoor.ctx

/- markChart: writes into a chart of the call's own. -/
namespace Go.Proofs.YtalioekeinohkaaDoor.ct
open Go.RowKit Go.Sort Go.Proofs.YtalioekeinohkaaDoor.sl Go.Proofs.YtalioekeinohkaaDoor.br
set_option linter.unusedVariables false
set_option linter.unusedSimpArgs false

/-- The cells of a block are there and may be written. -/
def WrM (w : World) (g m : Nat) : Prop := g < w.heap.size ∧ ∀ o, o < m → w.frozen? ⟨g, o, none⟩ = false ∧ ∃ u, w.cell? ⟨g, o, none⟩ = some u
theorem WrM.set {w : World} {g m : Nat} (h : WrM w g m) (i : Nat) (v : Value) (hi : i < m) : WrM (w.setCell ⟨g, i, none⟩ v) g m := by
  refine ⟨by simpa using h.1, fun o ho => ⟨by rw [World.frozen?_setCell]; exact (h.2 o ho).1, ?_⟩⟩
  obtain ⟨u, hu⟩ := (h.2 o ho).2
  by_cases e : o = i
  · subst e; exact ⟨v, ss.same_at hu⟩
  · exact ⟨u, by rw [ss.other_at e]; exact hu⟩
theorem WrM.blk {w w' : World} {g m : Nat} (h : WrM w g m) (hs : w.heap.size ≤ w'.heap.size) (hb : w'.heap[g]? = w.heap[g]?) : WrM w' g m := by
  refine ⟨Nat.lt_of_lt_of_le h.1 hs, fun o ho => ⟨?_, ?_⟩⟩
  · rw [World.frozen?_of_block (w := w) (w' := w') (a := ⟨g, o, none⟩) hb]; exact (h.2 o ho).1
  · rw [World.cell?_of_block (w := w) (w' := w') (a := ⟨g, o, none⟩) hb]; exact (h.2 o ho).2
theorem chg_setM {lo hi g i : Nat} {w w' : World} (h : Chg lo hi w w') (v : Value) (h1 : lo ≤ g) (h2 : g < hi) : Chg lo hi w (w'.setCell ⟨g, i, none⟩ v) := by
  have hb := (Below.refl g w').setCell (p := ⟨g, i, none⟩) (Nat.le_refl _) v
  refine ⟨hb.os.trans h.os, hb.tape.trans h.tape, hb.output.trans h.output, Nat.le_trans h.size hb.size, fun k hk hk' => ?_⟩
  rw [← h.block k hk hk']
  exact Below.heap_setCell w' ⟨g, i, none⟩ v k (by show k ≠ g; omega)

/-- So much a law counts in the first k rows. -/
def preW (xs : List ro.V) (k : Nat) : Nat := 2 * k + ss.pre (ro.prs xs) k
set_option maxRecDepth 100000 in
set_option maxHeartbeats 3200000 in
theorem markWS (xs : List ro.V) (v : Value) (lo hi : Nat) (k0 : Int) (w : World) (ho : ro.IOwn w lo hi v xs) (hq : ro.Small xs) (ht : ss.tot (ro.prs xs) ≤ 1048576) (hk0 : 0 ≤ k0) (hk1 : k0 ≤ 1000000000000) :
    Calls Tryd.prog 70 #[v, .int .i64 k0] w fun e w' => e = .returned (.int .i64 (k0 + (preW xs xs.length : Int))) ∧ Chg lo hi w w' := by
  have hn := hq.len
  have hs := hq.short
  clear hq
  obtain ⟨hh, hr⟩ := ho
  rcases hr with ⟨rfl, ao, cap, rfl⟩ | ⟨hp, g, cap, F, Lo, Hi, rfl, h1, h2, h3, h4⟩
  · have HF : Hid (k0 + (preW ([] : List ro.V) 0 : Int) = k0) := hid (by simp [preW, ss.pre, ro.prs, ss.lens])
    go_enter Tryd.func70, Tryd.ntmps70
    go_wp2
    refine wp_loop_rounds 1 ?_
    rw [rounds_succ]
    go_wp2
    go_ret
    exact ⟨(by rw [HF.out]; rfl : _ = Ending.returned (.int .i64 (k0 + (preW ([] : List ro.V) 0 : Int)))), ⟨rfl, rfl, rfl, Nat.le_refl _, fun _ _ _ => rfl⟩⟩
  · have HW : Hid (WrM w g (xs.length * 3)) := hid ⟨by omega, fun o ho => ⟨h3 o ho, by
      have A := (h4 (o / 3) (by omega)).1
      have hi8 : o % 3 < 3 := Nat.mod_lt _ (by omega)
      have e : o = 0 + o / 3 * 3 + o % 3 := by omega
      rw [e]
      generalize o % 3 = i at hi8
      match i, hi8 with
      | 0, _ => exact ⟨_, A.c0⟩
      | 1, _ => exact ⟨_, A.c1⟩
      | 2, _ => exact ⟨_, A.c2⟩⟩⟩
    have HC0 : Hid (Chg lo hi w w) := hid ⟨rfl, rfl, rfl, Nat.le_refl _, fun _ _ _ => rfl⟩
    have HPS : Hid (∀ k, k < xs.length → preW xs (k + 1) = preW xs k + 2 + (xs.getD k ro.iz).ps.length) := hid fun k hk => by
      unfold preW; rw [ss.pre_succ _ k (by rw [ro.prs_len]; exact hk), ro.prs_at xs k hk]; omega
    have HPM : Hid (∀ k, k ≤ xs.length → preW xs k ≤ 10000000) := hid fun k hk => by
      have := ss.pre_mono (ro.prs xs) k (by rw [ro.prs_len]; exact hk)
      unfold preW; omega
    have HP0 : Hid (preW xs 0 = 0) := hid rfl
    have HR0 : Hid (∀ j, j < xs.length → w.cell? ⟨g, j * 3 + 2, none⟩ = some (F j) ∧ ∃ ys : List Int, ys.length = (xs.getD j ro.iz).ps.length ∧ sl.Own w (Lo j) (Hi j) (F j) ys) := hid fun j hj => by
      obtain ⟨a1, a2, a3, a4, a5, a6⟩ := h4 j hj
      have := a1.c2
      rw [Nat.zero_add] at this
      exact ⟨this, _, rfl, a2⟩
    have HB : Hid (∀ j, j < xs.length → lo ≤ Lo j ∧ Hi j ≤ hi ∧ (g < Lo j ∨ Hi j ≤ g) ∧ ∀ i, i < j → Hi i ≤ Lo j ∨ Hi j ≤ Lo i) := hid fun j hj => by
      obtain ⟨a1, a2, a3, a4, a5, a6⟩ := h4 j hj
      exact ⟨a3, a4, a5, a6⟩
    have HS := hid hs
    clear h3 h4 hs
    have HH := hid hh
    clear hh ht
    obtain ⟨n, hnn⟩ : ∃ n, n = xs.length := ⟨_, rfl⟩
    rw [← hnn] at hp hn HW HPS HPM HR0 HB HS ⊢
    clear hnn
    go_enter Tryd.func70, Tryd.ntmps70
    go_wp2
    go_loopw [1, 5] (fun q i wr => ∃ k : Nat, k ≤ n ∧ i = .int .i64 k ∧ q = .int .i64 (k0 + (preW xs k : Int)) ∧ WrM wr g (n * 3) ∧ Chg lo hi w wr ∧ Hid (∀ j, j < n → wr.cell? ⟨g, j * 3 + 2, none⟩ = some (F j) ∧ ∃ ys : List Int, ys.length = (xs.getD j ro.iz).ps.length ∧ sl.Own wr (Lo j) (Hi j) (F j) ys)) (fun _ i _ => n - (intOf i).toNat)
    case atStart => exact ⟨0, Nat.zero_le _, rfl, by rw [HP0.out]; simp, HW.out, HC0.out, HR0⟩
    case round =>
      obtain ⟨k, hk, rfl, rfl, hw1, hc1, HR⟩ := hrel
      have HCw := hid hc1
      have HWw := hid hw1
      clear hw1 hc1 HW HC0 HR0 HP0
      by_cases hlt : k < n
      · obtain ⟨b1, b2, b3, b4⟩ := HB.out k hlt
        obtain ⟨x5, ys, hyl, hyo⟩ := HR.out k hlt
        have hps := HPS.out k hlt
        have hpm := HPM.out (k + 1) (by omega)
        have hpm0 := HPM.out k (by omega)
        have hsh := HS.out k hlt
        rw [← hyl] at hps hsh
        have HYO := hid hyo
        clear hyo
        obtain ⟨y, hy⟩ : ∃ y, y = k0 + (preW xs k : Int) := ⟨_, rfl⟩
        have hyb : 0 ≤ y ∧ y ≤ 1099000000000 := by omega
        have HY : Hid (k0 + (preW xs (k + 1) : Int) = y + 2 + (ys.length : Int)) := hid (by omega)
        rw [← hy]
        obtain ⟨fk, hfk⟩ : ∃ f, f = F k := ⟨_, rfl⟩
        rw [← hfk] at x5 HYO
        have HFK := hid hfk
        have HYL := hid hyl
        clear hy hps hpm hpm0 hfk hyl
        obtain ⟨f0, u0, z0⟩ := HWw.out.2 (k * 3) (by omega)
        obtain ⟨f1, u1, z1⟩ := HWw.out.2 (k * 3 + 1) (by omega)
        go_wp2_with fail
        clear f0 f1 z0 z1 x5
        have HW2 : Hid (WrM ((wr.setCell ⟨g, k * 3, none⟩ (.int .i64 y)).setCell ⟨g, k * 3 + 1, none⟩ (.int .i64 (y + 1))) g (n * 3)) := hid ((HWw.out.set (k * 3) _ (by omega)).set (k * 3 + 1) _ (by omega))
        have hC5 : Chg g (g + 1) wr ((wr.setCell ⟨g, k * 3, none⟩ (.int .i64 y)).setCell ⟨g, k * 3 + 1, none⟩ (.int .i64 (y + 1))) := chg_setM (chg_setM ⟨rfl, rfl, rfl, Nat.le_refl _, fun _ _ _ => rfl⟩ _ (Nat.le_refl _) (Nat.lt_succ_self _)) _ (Nat.le_refl _) (Nat.lt_succ_self _)
        have HC2 : Hid (Chg lo hi w ((wr.setCell ⟨g, k * 3, none⟩ (.int .i64 y)).setCell ⟨g, k * 3 + 1, none⟩ (.int .i64 (y + 1)))) := hid (HCw.out.trans (hC5.wide (by omega) (by omega)))
        have HR2 : Hid (∀ j, j < n → ((wr.setCell ⟨g, k * 3, none⟩ (.int .i64 y)).setCell ⟨g, k * 3 + 1, none⟩ (.int .i64 (y + 1))).cell? ⟨g, j * 3 + 2, none⟩ = some (F j) ∧ ∃ ys : List Int, ys.length = (xs.getD j ro.iz).ps.length ∧ Own ((wr.setCell ⟨g, k * 3, none⟩ (.int .i64 y)).setCell ⟨g, k * 3 + 1, none⟩ (.int .i64 (y + 1))) (Lo j) (Hi j) (F j) ys) := hid fun j hj => by
          obtain ⟨x1, zs, hz, ho⟩ := HR.out j hj
          have hB := (HB.out j hj).2.2.1
          exact ⟨by rw [ss.other_at (by omega), ss.other_at (by omega)]; exact x1, zs, hz, ho.chg hC5 (by omega)⟩
        have HY2 : Hid (Own ((wr.setCell ⟨g, k * 3, none⟩ (.int .i64 y)).setCell ⟨g, k * 3 + 1, none⟩ (.int .i64 (y + 1))) (Lo k) (Hi k) fk ys) := hid (HYO.out.chg hC5 (by omega))
        have hsz5 := hC5.size
        clear hC5 HYO HR HCw HWw
        generalize ((wr.setCell ⟨g, k * 3, none⟩ (.int .i64 y)).setCell ⟨g, k * 3 + 1, none⟩ (.int .i64 (y + 1))) = wm at *
        refine (markI ys fk (Lo k) (Hi k) _ wm HY2.out (by omega) (by omega) (by omega)).mono ?_
        rintro e w2 ⟨rfl, o2, c2⟩
        have hsz2 := c2.size
        have HW3 : Hid (WrM w2 g (n * 3)) := hid (HW2.out.blk c2.size (c2.block g HW2.out.1 (by omega)))
        have HC3 : Hid (Chg lo hi w w2) := hid (HC2.out.trans (c2.wide (by omega) (by omega)))
        have HR3 : Hid (∀ j, j < n → w2.cell? ⟨g, j * 3 + 2, none⟩ = some (F j) ∧ ∃ ys : List Int, ys.length = (xs.getD j ro.iz).ps.length ∧ sl.Own w2 (Lo j) (Hi j) (F j) ys) := hid fun j hj => by
          obtain ⟨x1, zs, hz, ho⟩ := HR2.out j hj
          refine ⟨?_, ?_⟩
          · rw [World.cell?_of_block (w := wm) (w' := w2) (a := ⟨g, j * 3 + 2, none⟩) (c2.block g HW2.out.1 (by omega))]
            exact x1
          · by_cases e : j = k
            · subst e
              refine ⟨marks (y + 1 + 1) ys.length, by simpa [marks_len] using HYL.out, ?_⟩
              rw [← HFK.out]
              exact o2
            · refine ⟨zs, hz, ho.chg c2 ?_⟩
              rcases Nat.lt_or_ge j k with h | h
              · have := (HB.out k hlt).2.2.2 j h; omega
              · have := (HB.out j hj).2.2.2 k (by omega); omega
        clear o2 c2 HW2 HC2 HR2 HY2
        have HY5 : Hid (y + 1 + 1 + (ys.length : Int) = k0 + (preW xs (k + 1) : Int)) := hid (by have := HY.out; omega)
        go_wp2
        go_roundw
        case rel => exact ⟨k + 1, by omega, by go_num, by rw [← HY5.out], HW3.out, HC3.out, HR3⟩
        case measure => simp [intOf]; omega
      · obtain rfl : k = n := by omega
        go_wp2
        go_ret
        exact ⟨rfl, HCw.out⟩

theorem tot_of {left : Int} {xs : List ro.V} (h0 : 0 ≤ left) (h1 : left ≤ 1048576) (h : 0 ≤ szC left xs) : ss.tot (ro.prs xs) ≤ 1048576 := ss.tot_le h0 h1 h
theorem markC (s : Int) (xs : List ro.V) (f : Value) (lo hi : Nat) (k0 : Int) (w : World) (ho : ro.IOwn w lo hi f xs) (hq : ro.Small xs) (ht : ss.tot (ro.prs xs) ≤ 1048576) (hk0 : 0 ≤ k0) (hk1 : k0 ≤ 1048576) :
    Calls Tryd.prog 33 #[.agg #[.int .i64 s, f], .int .i64 k0] w fun e w' => ∃ k1 : Int, e = .returned (.int .i64 k1) ∧ 0 ≤ k1 ∧ Chg lo hi w w' := by
  have hB := (Below.refl w.heap.size w).alloc (Nat.le_refl _) (.cells #[.int .i64 s, f] 47)
  have hC0 : Chg lo hi w (w.alloc (.cells #[.int .i64 s, f] 47)) := ⟨hB.os, hB.tape, hB.output, hB.size, fun k hk _ => hB.block k hk⟩
  have HM := hid (markWS xs f lo hi k0 _ (ho.chg (Chg.ofBelow (lo := 0) hB) (.inr (.inr (Nat.zero_le _)))) hq ht hk0 (by omega))
  have HC0 := hid hC0
  obtain ⟨ao, cap, hv⟩ := ro.infs_val ho.infs
  have hkp : 0 ≤ k0 + (preW xs xs.length : Int) := by omega
  clear hB hC0 ho hq ht
  generalize preW xs xs.length = t at *
  generalize xs.length = n at *
  subst hv
  go_enter Tryd.func33, Tryd.ntmps33
  go_wp2_with fail
  refine HM.out.mono ?_
  rintro e w1 ⟨rfl, c1⟩
  have HC := hid (HC0.out.trans c1)
  clear c1
  go_wp2
  go_ret
  exact ⟨_, rfl, hkp, HC.out⟩
end Go.Proofs.YtalioekeinohkaaDoor.ct
