/-
  The needles in order: the program's iterator.
-/
import Derived.Test.YtfechjhngcmdpaaVmj
import Derived.RangeFuncBox
import Derived.RangeFuncNested
import Derived.RangeFuncBound
import Derived.RangeFuncCalls
import Derived.RangeFuncLeaves
import Derived.Shelf.Abstract
import Derived.Shelf.RegionOpen
import Derived.OwnWalkIn
import Derived.TacticsInMore
import Derived.LoopNIn
import Derived.LoopIn
import Derived.RegionIn
import Derived.Maps.AppendAt
namespace Go.Proofs.Ytfechjhngcmdpaa.mc
open Go.RowKit Go.Sort Go.Proofs.Ytfechjhngcmdpaa.sl Go.Proofs.Ytfechjhngcmdpaa.br Go.Proofs.Ytfechjhngcmdpaa.fn Go.Proofs.Ytfechjhngcmdpaa.ss
set_option linter.unusedVariables false
set_option linter.unusedSimpArgs false
attribute [local go_sem] Oper.semAt_some

/-- A needle of a bed. -/
def Nd (a : Int) : Type := { q : Int × Nat // (q.1 = 1 ∨ q.1 = 2) ∧ (q.2 : Int) < a }
def stepB (a p b x : Int) : List (Int × Nat) := if atOk a p b x = true then [(b, (atT p b x).toNat)] else []
def plc (a p : Int) (i : Nat) : List (Int × Nat) := stepB a p 1 ((i : Int) - 3) ++ stepB a p 2 ((i : Int) - 3)
def seqP (a p : Int) (n : Nat) : List (Int × Nat) := (List.range n).flatMap (plc a p)
theorem seqP_zero (a p : Int) : seqP a p 0 = [] := rfl
theorem seqP_succ (a p : Int) (n : Nat) : seqP a p (n + 1) = seqP a p n ++ plc a p n := by simp [seqP, List.range_succ]
theorem stepB_len (a p b x : Int) : (stepB a p b x).length ≤ 1 := by unfold stepB; split <;> simp
theorem seqP_len (a p : Int) (n : Nat) : (seqP a p n).length ≤ 2 * n := by
  induction n with
  | zero => simp [seqP_zero]
  | succ n ih =>
    have h1 := stepB_len a p 1 ((n : Int) - 3)
    have h2 := stepB_len a p 2 ((n : Int) - 3)
    rw [seqP_succ, plc, List.length_append, List.length_append]
    omega
/-- What was handed on at a place ahead of the bed d. -/
def part (a p : Int) (i d : Nat) : List (Int × Nat) := if d = 1 then [] else if d = 2 then stepB a p 1 ((i : Int) - 3) else plc a p i
theorem part_len (a p : Int) (i d : Nat) (h1 : 1 ≤ d) (hd : d ≤ 2) : (part a p i d).length ≤ 1 := by
  unfold part
  by_cases h : d = 1
  · rw [if_pos h]; simp
  · rw [if_neg h, if_pos (by omega)]; exact stepB_len _ _ _ _
theorem part_one (a p : Int) (i : Nat) : part a p i 1 = [] := rfl
theorem part_two (a p : Int) (i : Nat) : part a p i 2 = part a p i 1 ++ stepB a p 1 ((i : Int) - 3) := by simp [part]
theorem part_three (a p : Int) (i : Nat) : part a p i 3 = part a p i 2 ++ stepB a p 2 ((i : Int) - 3) := by simp [part, plc]
theorem atOk_parts {a p b x : Int} (h : atOk a p b x = true) : 0 ≤ atT p b x ∧ atT p b x < a ∧ atB a p b x = b ∧ atA a p b x = atT p b x := by
  have h1 : 0 ≤ atT p b x ∧ atT p b x ≤ a - 1 := by simpa [atOk, inB] using h
  exact ⟨h1.1, by omega, by simp [atB, h], by simp [atA, h]⟩

def encN {a : Int} (q : Nd a) : Array Value := #[.agg #[.int .i64 q.val.1, .int .i64 (q.val.2 : Int)]]

/-- Nothing below n changes, nor the block b. -/
structure KQ (n b : Nat) (w w' : World) : Prop where
  bl : Below n w w'
  at' : w'.heap[b]? = w.heap[b]?
theorem KQ.refl (n b : Nat) (w : World) : KQ n b w w := ⟨Below.refl _ _, rfl⟩
theorem KQ.trans {n b : Nat} {x y z : World} (h : KQ n b x y) (k : KQ n b y z) : KQ n b x z := ⟨h.bl.trans k.bl, k.at'.trans h.at'⟩
theorem KQ.ofBelow {n b : Nat} {w w' : World} (h : Below w.heap.size w w') (hn : n ≤ w.heap.size) (hb : b < w.heap.size) : KQ n b w w' := ⟨h.mono hn, h.block b hb⟩
theorem kq_put {n b : Nat} {w : World} (hn : n ≤ w.heap.size) (hb : b < w.heap.size) (W : World) (l : Nat) (o o' : Obj) (hl : w.heap.size ≤ l) (h : W.heap[l]? = some o) (h1 : o.isCells = false) (h2 : o.isWalk = false) : KQ n b W (W.putObj l o') :=
  ⟨belowK_b hn W l o o' hl h h1 h2, (grownBy_putObj' W l o').block b (by have := (Array.getElem?_eq_some_iff.1 h).1; omega) (by simp; omega)⟩
theorem grown_of {w w' : World} (h : Below w.heap.size w w') : w.grownBy w' none := ⟨h.os, h.tape, h.output, h.size, fun k hk _ => h.block k hk⟩

set_option maxRecDepth 100000 in
set_option maxHeartbeats 4000000 in
theorem needles1K (n : Nat) (hn : 1 ≤ n) (a p : Int) (ha : 1 ≤ a ∧ a ≤ 24) (hp : -3 ≤ p ∧ p ≤ 3) (N : Nat) (hN : (N : Int) = a + 6) (w0 : World) (l pb Bs n₀ : Nat) (hpb : pb < n₀) (hn0 : n₀ ≤ w0.heap.size) (hBs : Bs < w0.heap.size)
    (cB : w0.cell? ⟨Bs, 0, none⟩ = some (.pointer (some ⟨pb, 0, none⟩))) (c0 : w0.cell? ⟨pb, 0, none⟩ = some (.int .i64 a)) (c1 : w0.cell? ⟨pb, 1, none⟩ = some (.int .i64 p))
    (J Jx : List (Nd a) → World → Prop) (BJ : Nat) (hJa : AbidesFrom BJ J)
    (hY : ∀ pre x W, J pre W → pre.length < 2 * N → YieldAt Fence.wide (n - 1) Try.prog l (encN x) W fun e W' =>
      (e = .returned (.bool true) ∧ J (pre ++ [x]) W' ∧ KQ n₀ Bs W W') ∨ (e = .returned (.bool false) ∧ Jx (pre ++ [x]) W'))
    (W : World) (hW : KQ n₀ Bs w0 W) (h0 : J [] W) :
    CallsIn Fence.wide n Try.prog 108 #[.func (.yield l) #[] #[], .pointer (some ⟨Bs, 0, none⟩)] W fun e W' => (∃ v, e = .returned v) ∧
      ((∃ ys : List (Nd a), ys.map (fun i => i.val) = seqP a p N ∧ J ys W') ∨ (∃ pre : List (Nd a), True ∧ Jx pre W')) := by
  have hro : Fence.wide.round = none := rfl
  have HCB := hid cB
  have HC0 := hid c0
  have HC1 := hid c1
  have HW := hid hW
  have ha0 := ha.1
  have ha1 := ha.2
  have hwa : IntKind.i64.wrap (a + 3) = a + 3 := IntWalk.i64_in _ (by omega)
  have hN1 : N ≤ 30 := by omega
  clear cB c0 c1 hW
  refine callsIn_of_wp Try.func108 rfl trivial ?_ hro
  simp only [Try.ntmps108, List.size_toArray, List.length_cons, List.length_nil, Nat.reduceAdd, Nat.reduceSub, Array.replicate_succ, Array.replicate_zero, List.push_toArray, List.append_toArray, List.nil_append, List.cons_append]
  gi_wp2
  gi_loopw [3] (fun i wr => ∃ (k : Nat) (x : Int) (pre : List (Nd a)), k ≤ N ∧ x = (k : Int) - 3 ∧ i = .int .i64 x ∧ pre.map (fun i => i.val) = seqP a p k ∧ J pre wr ∧ KQ n₀ Bs w0 wr)
    (fun i _ => (a + 3 - intOf i).toNat)
  case atStart => exact ⟨0, -3, [], Nat.zero_le _, by omega, rfl, rfl, h0, HW.out⟩
  case round =>
    obtain ⟨k, x, pre, hk, hx, rfl, hpre, hJs, hkq⟩ := hrel
    have HPre := hid hpre
    have HKQ := hid hkq
    have HJs := hid hJs
    have y0 : wr.cell? ⟨Bs, 0, none⟩ = some (.pointer (some ⟨pb, 0, none⟩)) := (World.cell?_of_block (w := w0) (w' := wr) (a := ⟨Bs, 0, none⟩) hkq.at').trans HCB.out
    have y1 : wr.cell? ⟨pb, 0, none⟩ = some (.int .i64 a) := (hkq.bl.cell (p := ⟨pb, 0, none⟩) hpb).trans HC0.out
    clear hpre hkq hJs
    by_cases hlt : k < N
    · have hxa : x < a + 3 := by omega
      have hxb : -3 ≤ x ∧ x ≤ 30 := by omega
      have HX := hid hx
      clear hx
      gi_wp2
      gi_loopw [4] (fun c wr => ∃ (d : Nat) (pre : List (Nd a)), 1 ≤ d ∧ d ≤ 3 ∧ c = .int .i64 (d : Int) ∧ pre.map (fun i => i.val) = seqP a p k ++ part a p k d ∧ J pre wr ∧ KQ n₀ Bs w0 wr)
        (fun c _ => 3 - (intOf c).toNat)
      case atStart => exact ⟨1, pre, by omega, by omega, rfl, by rw [HPre.out, part_one, List.append_nil], HJs.out, HKQ.out⟩
      case round =>
        rename World => wr2
        obtain ⟨d, pre2, hd1, hd3, rfl, hpre2, hJs2, hkq2⟩ := hrel
        have HPre2 := hid hpre2
        have HKQ2 := hid hkq2
        have HJs2 := hid hJs2
        have y0 : wr2.cell? ⟨Bs, 0, none⟩ = some (.pointer (some ⟨pb, 0, none⟩)) := (World.cell?_of_block (w := w0) (w' := wr2) (a := ⟨Bs, 0, none⟩) hkq2.at').trans HCB.out
        have y2 : wr2.cell? ⟨pb, 0, none⟩ = some (.int .i64 a) := (hkq2.bl.cell (p := ⟨pb, 0, none⟩) hpb).trans HC0.out
        have y3 : wr2.cell? ⟨pb, 1, none⟩ = some (.int .i64 p) := (hkq2.bl.cell (p := ⟨pb, 1, none⟩) hpb).trans HC1.out
        clear hpre2 hkq2 hJs2 HJs HKQ y1 HPre
        by_cases hd : d ≤ 2
        · rcases (by omega : d = 1 ∨ d = 2) with rfl | rfl
          · -- the bed 1
            have HNA := hid (needleAtC pb a p 1 x wr2 y2 y3 ha hp (by omega) (by omega))
            have HSt : Hid (part a p k 2 = part a p k 1 ++ (if atOk a p 1 x = true then [(1, (atT p 1 x).toNat)] else [])) := hid (by rw [part_two, HX.out]; rfl)
            cases hok : atOk a p 1 x with
            | false =>
              rw [hok] at HNA HSt
              have HSt2 : Hid (part a p k 2 = part a p k 1) := hid (by rw [HSt.out]; simp)
              clear HSt hok y2 y3
              generalize atB a p 1 x = qb at *
              generalize atA a p 1 x = qa at *
              gi_wp2_with (refine ⟨trivial, ?_⟩; gi_at_call 48; refine (callsIn_wide.2 HNA.out).mono ?_; rintro e w1 ⟨rfl, b1⟩)
              have hs1 := b1.size
              have HJ1 := hid (hJa pre2 wr2 w1 none HJs2.out (grown_of b1) (fun r e => by cases e))
              have b2 : Below wr2.heap.size wr2 (w1.alloc (.cells #[.int .i64 qb, .int .i64 qa] 31)) := b1.alloc hs1 _
              have HJ2 := hid (hJa pre2 wr2 _ none HJs2.out (grown_of b2) (fun r e => by cases e))
              have HKQ3 := hid (HKQ2.out.trans (KQ.ofBelow b2 (Nat.le_trans hn0 HKQ2.out.bl.size) (Nat.lt_of_lt_of_le hBs HKQ2.out.bl.size)))
              clear b1 b2
              gi_wp2
              refine ⟨(fun f hf => by cases hf), ?_⟩
              gi_wp2
              go_roundw
              case rel => exact ⟨2, pre2, by omega, by omega, by go_num, by rw [HPre2.out, HSt2.out], HJ2.out, HKQ3.out⟩
              case measure => simp [intOf]
            | true =>
              obtain ⟨ht0, ht1, hB, hA⟩ := atOk_parts hok
              rw [hok, hB, hA] at HNA
              rw [hok] at HSt
              obtain ⟨t, ht⟩ := Int.eq_ofNat_of_zero_le ht0
              rw [ht] at HNA HSt ht1
              have HSt2 : Hid (part a p k 2 = part a p k 1 ++ [(1, t)]) := hid (by rw [HSt.out]; simp)
              clear HSt hok y2 y3 ht0 hB hA ht
              have hlen : pre2.length < 2 * N := by
                have e1 : pre2.length = (seqP a p k ++ part a p k 1).length := by rw [← HPre2.out]; simp
                have e2 := seqP_len a p k
                have e3 := part_len a p k 1 (by omega) (by omega)
                rw [List.length_append] at e1
                omega
              gi_wp2_with (refine ⟨trivial, ?_⟩; gi_at_call 48; refine (callsIn_wide.2 HNA.out).mono ?_; rintro e w1 ⟨rfl, b1⟩; have b2 : Below wr2.heap.size wr2 (w1.alloc (.cells #[.int .i64 1, .int .i64 (t : Int)] 31)) := b1.alloc b1.size _; have HJ2 := hid (hJa pre2 wr2 _ none HJs2.out (grown_of b2) (fun r e => by cases e)); have HKQ3 := hid (HKQ2.out.trans (KQ.ofBelow b2 (Nat.le_trans hn0 HKQ2.out.bl.size) (Nat.lt_of_lt_of_le hBs HKQ2.out.bl.size))); clear b1 b2; obtain ⟨fn, tmps, assign, body, hy, hR⟩ := hY pre2 ⟨(1, t), by simp, ht1⟩ _ HJ2.out hlen; dsimp only [encN] at hy; have hdep : (Fence.wide.depth.isSome = true → 1 ≤ n - 1) := fun h => by cases h)
              refine hR.mono ?_
              rintro e W3 (⟨rfl, hJ3, hk3⟩ | ⟨rfl, hJx3⟩)
              · have HKQ4 := hid (HKQ3.out.trans hk3)
                have HJ3 := hid hJ3
                clear hJ3 hk3
                gi_wp2
                go_roundw
                case rel => exact ⟨2, _, by omega, by omega, by go_num, by rw [List.map_append, HPre2.out, HSt2.out, List.append_assoc]; rfl, HJ3.out, HKQ4.out⟩
                case measure => simp [intOf]
              · gi_wp2
                refine bodyPost_ret (results_none rfl _ _ _) rfl ?_
                exact ⟨⟨_, rfl⟩, .inr ⟨_, trivial, hJx3⟩⟩
          · -- the bed 2
            have HNA := hid (needleAtC pb a p 2 x wr2 y2 y3 ha hp (by omega) (by omega))
            have HSt : Hid (part a p k 3 = part a p k 2 ++ (if atOk a p 2 x = true then [(2, (atT p 2 x).toNat)] else [])) := hid (by rw [part_three, HX.out]; rfl)
            cases hok : atOk a p 2 x with
            | false =>
              rw [hok] at HNA HSt
              have HSt2 : Hid (part a p k 3 = part a p k 2) := hid (by rw [HSt.out]; simp)
              clear HSt hok y2 y3
              generalize atB a p 2 x = qb at *
              generalize atA a p 2 x = qa at *
              gi_wp2_with (refine ⟨trivial, ?_⟩; gi_at_call 48; refine (callsIn_wide.2 HNA.out).mono ?_; rintro e w1 ⟨rfl, b1⟩)
              have hs1 := b1.size
              have HJ1 := hid (hJa pre2 wr2 w1 none HJs2.out (grown_of b1) (fun r e => by cases e))
              have b2 : Below wr2.heap.size wr2 (w1.alloc (.cells #[.int .i64 qb, .int .i64 qa] 31)) := b1.alloc hs1 _
              have HJ2 := hid (hJa pre2 wr2 _ none HJs2.out (grown_of b2) (fun r e => by cases e))
              have HKQ3 := hid (HKQ2.out.trans (KQ.ofBelow b2 (Nat.le_trans hn0 HKQ2.out.bl.size) (Nat.lt_of_lt_of_le hBs HKQ2.out.bl.size)))
              clear b1 b2
              gi_wp2
              refine ⟨(fun f hf => by cases hf), ?_⟩
              gi_wp2
              go_roundw
              case rel => exact ⟨3, pre2, by omega, by omega, by go_num, by rw [HPre2.out, HSt2.out], HJ2.out, HKQ3.out⟩
              case measure => simp [intOf]
            | true =>
              obtain ⟨ht0, ht1, hB, hA⟩ := atOk_parts hok
              rw [hok, hB, hA] at HNA
              rw [hok] at HSt
              obtain ⟨t, ht⟩ := Int.eq_ofNat_of_zero_le ht0
              rw [ht] at HNA HSt ht1
              have HSt2 : Hid (part a p k 3 = part a p k 2 ++ [(2, t)]) := hid (by rw [HSt.out]; simp)
              clear HSt hok y2 y3 ht0 hB hA ht
              have hlen : pre2.length < 2 * N := by
                have e1 : pre2.length = (seqP a p k ++ part a p k 2).length := by rw [← HPre2.out]; simp
                have e2 := seqP_len a p k
                have e3 := part_len a p k 2 (by omega) (by omega)
                rw [List.length_append] at e1
                omega
              gi_wp2_with (refine ⟨trivial, ?_⟩; gi_at_call 48; refine (callsIn_wide.2 HNA.out).mono ?_; rintro e w1 ⟨rfl, b1⟩; have b2 : Below wr2.heap.size wr2 (w1.alloc (.cells #[.int .i64 2, .int .i64 (t : Int)] 31)) := b1.alloc b1.size _; have HJ2 := hid (hJa pre2 wr2 _ none HJs2.out (grown_of b2) (fun r e => by cases e)); have HKQ3 := hid (HKQ2.out.trans (KQ.ofBelow b2 (Nat.le_trans hn0 HKQ2.out.bl.size) (Nat.lt_of_lt_of_le hBs HKQ2.out.bl.size))); clear b1 b2; obtain ⟨fn, tmps, assign, body, hy, hR⟩ := hY pre2 ⟨(2, t), by simp, ht1⟩ _ HJ2.out hlen; dsimp only [encN] at hy; have hdep : (Fence.wide.depth.isSome = true → 1 ≤ n - 1) := fun h => by cases h)
              refine hR.mono ?_
              rintro e W3 (⟨rfl, hJ3, hk3⟩ | ⟨rfl, hJx3⟩)
              · have HKQ4 := hid (HKQ3.out.trans hk3)
                have HJ3 := hid hJ3
                clear hJ3 hk3
                gi_wp2
                go_roundw
                case rel => exact ⟨3, _, by omega, by omega, by go_num, by rw [List.map_append, HPre2.out, HSt2.out, List.append_assoc]; rfl, HJ3.out, HKQ4.out⟩
                case measure => simp [intOf]
              · gi_wp2
                refine bodyPost_ret (results_none rfl _ _ _) rfl ?_
                exact ⟨⟨_, rfl⟩, .inr ⟨_, trivial, hJx3⟩⟩
        · obtain rfl : d = 3 := by omega
          gi_wp2
          go_roundw
          case rel => exact ⟨k + 1, x + 1, pre2, by omega, by have := HX.out; omega, by go_num, by rw [HPre2.out, seqP_succ]; rfl, HJs2.out, HKQ2.out⟩
          case measure => simp [intOf]; omega
    · have hxa : ¬ x < a + 3 := by omega
      obtain rfl : k = N := by omega
      gi_wp2
      go_end0
      exact ⟨⟨_, rfl⟩, .inl ⟨pre, HPre.out, HJs.out⟩⟩

theorem needles_stops (n : Nat) (hn : 1 ≤ n) (a p : Int) (ha : 1 ≤ a ∧ a ≤ 24) (hp : -3 ≤ p ∧ p ≤ 3) (N : Nat) (hN : (N : Int) = a + 6) (w0 : World) (pb Bs n₀ : Nat) (hpb : pb < n₀) (hn0 : n₀ ≤ w0.heap.size) (hBs : Bs < w0.heap.size)
    (cB : w0.cell? ⟨Bs, 0, none⟩ = some (.pointer (some ⟨pb, 0, none⟩))) (c0 : w0.cell? ⟨pb, 0, none⟩ = some (.int .i64 a)) (c1 : w0.cell? ⟨pb, 1, none⟩ = some (.int .i64 p)) :
    SeqStopsK Fence.wide n Try.prog 108 #[.pointer (some ⟨Bs, 0, none⟩)] (encN (a := a)) (KQ n₀ Bs) (fun ys => ys.map (fun i => i.val) = seqP a p N) (fun _ => True) (2 * N) w0 := fun l J Jx W hW hJ _ hY h0 =>
  needles1K n hn a p ha hp N hN w0 l pb Bs n₀ hpb hn0 hBs cB c0 c1 J Jx _ hJ hY W (KQ.ofBelow hW hn0 hBs) h0
end Go.Proofs.Ytfechjhngcmdpaa.mc
