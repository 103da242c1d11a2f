/-
  The outer pieces of a list, one by one: the contract of outerPieces.
-/
import Derived.Test.YtiacfejileeieabDoorPcm
import Derived.RangeFuncBox
import Derived.RangeFuncNested
import Derived.RangeFuncBound
import Derived.RangeFuncCalls
import Derived.RangeFuncLeaves
import Derived.Shelf.Abstract
import Derived.Shelf.RegionOpen
import Derived.OwnWalkIn
import Derived.TacticsInMore
import Derived.LoopNIn
import Derived.LoopIn
import Derived.RegionIn
import Derived.Maps.AppendAt
namespace Go.Proofs.YtiacfejileeieabDoor.pc
open Go.RowKit Go.Sort Go.Proofs.YtiacfejileeieabDoor.sl
set_option linter.unusedVariables false
set_option linter.unusedSimpArgs false
attribute [local go_sem] Oper.semAt_some

/-- Nothing below n changes, nor the block b. -/
structure KQ (n b : Nat) (w w' : World) : Prop where
  bl : Below n w w'
  at' : w'.heap[b]? = w.heap[b]?
theorem KQ.refl (n b : Nat) (w : World) : KQ n b w w := ⟨Below.refl _ _, rfl⟩
theorem KQ.trans {n b : Nat} {x y z : World} (h : KQ n b x y) (k : KQ n b y z) : KQ n b x z := ⟨h.bl.trans k.bl, k.at'.trans h.at'⟩
theorem KQ.ofBelow {n b : Nat} {w w' : World} (h : Below w.heap.size w w') (hn : n ≤ w.heap.size) (hb : b < w.heap.size) : KQ n b w w' := ⟨h.mono hn, h.block b hb⟩
theorem kq_put {n b : Nat} {w : World} (hn : n ≤ w.heap.size) (hb : b < w.heap.size) (W : World) (l : Nat) (o o' : Obj) (hl : w.heap.size ≤ l) (h : W.heap[l]? = some o) (h1 : o.isCells = false) (h2 : o.isWalk = false) : KQ n b W (W.putObj l o') :=
  ⟨belowK_b hn W l o o' hl h h1 h2, (grownBy_putObj' W l o').block b (by have := (Array.getElem?_eq_some_iff.1 h).1; omega) (by simp; omega)⟩
theorem grown_of {w w' : World} (h : Below w.heap.size w w') : w.grownBy w' none := ⟨h.os, h.tape, h.output, h.size, fun k hk _ => h.block k hk⟩

/-- What a piece contains, as the slice that is handed on. -/
def insV (xs : List V) (b off cap k : Nat) : Value := .slice (some ⟨b, if cap = k + 1 then off else off + (k + 1) * 3, none⟩) (ins (xs.getD k oz) (xs.drop (k + 1))) (cap - (k + 1))
theorem insV_ops {w : World} {b off cap B : Nat} {xs : List V} (hb : b < B) (hcap : xs.length ≤ cap) (hcm : cap ≤ 9223372036854775807) (hc : ∀ j, j < xs.length → At w b (off + j * 3) (xs.getD j oz)) (k : Nat) (hk : k < xs.length) : OpsC w B (insV xs b off cap k) (inside xs k) := by
  have hl := inside_len xs k
  have hi := ins_le (xs.getD k oz) (xs.drop (k + 1))
  rw [List.length_drop] at hi
  by_cases h0 : (inside xs k).length = 0
  · have e : insV xs b off cap k = .slice (some ⟨b, if cap = k + 1 then off else off + (k + 1) * 3, none⟩) 0 (cap - (k + 1)) := by unfold insV; rw [← hl, h0]
    exact .inl ⟨List.length_eq_zero_iff.1 h0, _, _, e, fun h => by cases h⟩
  · have hne : ¬ cap = k + 1 := by omega
    refine .inr ⟨by omega, b, off + (k + 1) * 3, cap - (k + 1), ?_, by omega, by omega, hb, fun j hj => ?_⟩
    · unfold insV
      rw [if_neg hne, hl]
    · have := hc (k + 1 + j) (by omega)
      rw [inside_at xs k j hj]
      rw [show off + (k + 1) * 3 + j * 3 = off + (k + 1 + j) * 3 from by omega]
      exact this
def encP (xs : List V) (b off cap : Nat) (x : Fin xs.length) : Array Value := #[(xs.getD x.val oz).val, insV xs b off cap x.val]
theorem outs_pre {xs : List V} {pre : List (Fin xs.length)} {k : Nat} (h : pre.map (fun i => i.val) ++ outs xs k = outs xs 0) (hk : k < xs.length) : (pre ++ [(⟨k, hk⟩ : Fin xs.length)]).map (fun i => i.val) ++ outs xs (nx xs k) = outs xs 0 := by
  rw [← h, outs_lt hk, List.map_append, List.append_assoc]; rfl

set_option maxRecDepth 100000 in
set_option maxHeartbeats 4000000 in
theorem outer1 (n : Nat) (hn : 1 ≤ n) (xs : List V) (b off cap Bs n₀ : Nat) (w0 : World) (hb : b < n₀) (hn0 : n₀ ≤ w0.heap.size) (hBs : Bs < w0.heap.size) (hlen : xs.length ≤ 1048576) (hcap : xs.length ≤ cap) (hcm : cap ≤ 9223372036854775807)
    (cB : w0.cell? ⟨Bs, 0, none⟩ = some (.slice (some ⟨b, off, none⟩) xs.length cap)) (hc : ∀ j, j < xs.length → At w0 b (off + j * 3) (xs.getD j oz))
    (l : Nat) (J Jx : List (Fin xs.length) → World → Prop) (BJ : Nat) (hJa : AbidesFrom BJ J)
    (hY : ∀ pre x W, J pre W → pre.length < xs.length → YieldAt Fence.wide (n - 1) Tryd.prog l (encP xs b off cap x) W fun e W' =>
      (e = .returned (.bool true) ∧ J (pre ++ [x]) W' ∧ KQ n₀ Bs W W') ∨ (e = .returned (.bool false) ∧ Jx (pre ++ [x]) W'))
    (W : World) (hW : KQ n₀ Bs w0 W) (h0 : J [] W) :
    CallsIn Fence.wide n Tryd.prog 76 #[.func (.yield l) #[] #[], .pointer (some ⟨Bs, 0, none⟩)] W fun e W' => (∃ v, e = .returned v) ∧
      ((∃ ys : List (Fin xs.length), ys.map (fun i => i.val) = outs xs 0 ∧ J ys W') ∨ (∃ pre : List (Fin xs.length), (∃ t, pre.map (fun i => i.val) ++ t = outs xs 0) ∧ Jx pre W')) := by
  have hro : Fence.wide.round = none := rfl
  have HCB := hid cB
  have HC := hid hc
  have HW := hid hW
  obtain ⟨N, hN⟩ : ∃ N, N = xs.length := ⟨_, rfl⟩
  have HN := hid hN
  have hN1 : N ≤ 1048576 := by omega
  have hNc : N ≤ cap := by omega
  rw [← hN] at HCB
  have HLen := hid hlen
  clear cB hc hW hN hlen hcap
  refine callsIn_of_wp Tryd.func76 rfl trivial ?_ hro
  simp only [Tryd.ntmps76, List.size_toArray, List.length_cons, List.length_nil, Nat.reduceAdd, Nat.reduceSub, Array.replicate_succ, Array.replicate_zero, List.push_toArray, List.append_toArray, List.nil_append, List.cons_append]
  gi_wp2
  gi_loopw [3] (fun i wr => ∃ (k : Nat) (pre : List (Fin xs.length)), k ≤ N ∧ i = .int .i64 k ∧ pre.map (fun i => i.val) ++ outs xs k = outs xs 0 ∧ J pre wr ∧ KQ n₀ Bs w0 wr)
    (fun i _ => N - (intOf i).toNat)
  case atStart => exact ⟨0, [], Nat.zero_le _, rfl, rfl, h0, HW.out⟩
  case round =>
    obtain ⟨k, pre, hk, rfl, hpre, hJs, hkq⟩ := hrel
    have HPre := hid hpre
    have HKQ := hid hkq
    have HJs := hid hJs
    have y0 : wr.cell? ⟨Bs, 0, none⟩ = some (.slice (some ⟨b, off, none⟩) N cap) := (World.cell?_of_block (w := w0) (w' := wr) (a := ⟨Bs, 0, none⟩) hkq.at').trans HCB.out
    clear hpre hkq hJs
    by_cases hlt : k < N
    · have hkx : k < xs.length := by rw [← HN.out]; exact hlt
      have hA := (HC.out k hkx).blk HKQ.out.bl.size (HKQ.out.bl.block b hb)
      have c0 := hA.c0
      have c1 := hA.c1
      have c2 := hA.c2
      clear hA
      have hlp : pre.length < xs.length := by
        have e1 : (pre.map (fun i => i.val) ++ outs xs k).length = (outs xs 0).length := by rw [HPre.out]
        have e2 := outs_len (xs := xs) (xs.length - 0) 0 rfl
        rw [List.length_append, List.length_map, outs_lt hkx, List.length_cons] at e1
        omega
      have hmx : Tryd.prog.follows .mixedOrders = true := by kernel_rfl
      have hk0 : (0 : Int) ≤ (k : Int) := by omega
      have hkI : (k : Int) < (N : Int) := by omega
      have hk1 : IntKind.i64.wrap ((k : Int) + 1) = (k : Int) + 1 := IntWalk.i64_in _ (by omega)
      have hk2 : (k : Int) + 1 ≤ (N : Int) := by omega
      have hsz := HKQ.out.bl.size
      have hbz : Bs < wr.heap.size := World.block_lt_of_cell? wr _ y0
      have hbb : b < wr.heap.size := World.block_lt_of_cell? wr _ c0
      have hne1 : ¬ Bs = wr.heap.size := by omega
      have hne2 : ¬ b = wr.heap.size := by omega
      have HFin : Hid (∀ (W1 : World) (m o c : Nat), Below wr.heap.size wr W1 → ((o = if cap = k + 1 then off else off + (k + 1) * 3) ∧ m = (min (max (xs.getD k oz).a2 0) ((N - (k + 1) : Nat) : Int)).toNat ∧ c = cap - (k + 1)) → YieldAt Fence.wide (n - 1) Tryd.prog l #[(xs.getD k oz).val, .slice (some ⟨b, o, none⟩) m c] W1 fun e W' =>
          (e = .returned (.bool true) ∧ (∃ pre' : List (Fin xs.length), pre'.map (fun i => i.val) ++ outs xs (k + 1 + m) = outs xs 0 ∧ J pre' W') ∧ KQ n₀ Bs w0 W') ∨ (e = .returned (.bool false) ∧ ∃ pre' : List (Fin xs.length), (∃ t, pre'.map (fun i => i.val) ++ t = outs xs 0) ∧ Jx pre' W')) := hid (by
        rintro W1 m o c bW ⟨rfl, hm, rfl⟩
        have hm2 : m = ins (xs.getD k oz) (xs.drop (k + 1)) := by rw [hm, ins, List.length_drop, HN.out]
        have hY1 := hY pre ⟨k, hkx⟩ W1 (hJa pre wr W1 none HJs.out (grown_of bW) (fun r e => by cases e)) hlp
        have hnx : nx xs k = k + 1 + m := by rw [nx, hm2]
        have hop := outs_pre HPre.out hkx
        rw [hnx] at hop
        have hkq1 := HKQ.out.trans (KQ.ofBelow bW (Nat.le_trans hn0 HKQ.out.bl.size) (Nat.lt_of_lt_of_le hBs HKQ.out.bl.size))
        rw [encP, insV, ← hm2] at hY1
        obtain ⟨fn, tmps, assign, body, hy, hR⟩ := hY1
        refine ⟨fn, tmps, assign, body, hy, hR.mono ?_⟩
        rintro e W3 (⟨rfl, hJ3, hk3⟩ | ⟨rfl, hJx3⟩)
        · exact .inl ⟨rfl, ⟨_, hop, hJ3⟩, hkq1.trans hk3⟩
        · exact .inr ⟨rfl, _, ⟨_, hop⟩, hJx3⟩)
      generalize xs.getD k oz = x at *
      obtain ⟨x0, x1, x2⟩ := x
      simp only [V.val] at HFin c0 c1 c2
      have HNc := hid hNc
      obtain ⟨R, hR⟩ : ∃ R, R = N - (k + 1) := ⟨_, rfl⟩
      have hR0 : (0 : Int) ≤ ((N - (k + 1) : Nat) : Int) := by omega
      have hsplit : (x2 < 0) ∨ (0 ≤ x2 ∧ x2 ≤ ((N - (k + 1) : Nat) : Int)) ∨ (0 ≤ x2 ∧ ((N - (k + 1) : Nat) : Int) < x2) := by omega
      by_cases hck : cap = k + 1
      · rcases hsplit with hx2 | ⟨hx2, hx3⟩ | ⟨hx2, hx3⟩
        · have hbW : Below wr.heap.size wr (wr.alloc (.cells #[.int .i64 x0, .int .i64 x1, .int .i64 x2] 51)).drew := ((Below.refl _ wr).alloc (Nat.le_refl _) _).drew
          obtain ⟨fn, tmps, assign, body, hy, hR⟩ := HFin.out _ (0) (off) (0) hbW ⟨by rw [if_pos hck], by omega, by omega⟩
          have hw1 : IntKind.i64.wrap (1 + ((0 : Nat) : Int)) = 1 + ((0 : Nat) : Int) := IntWalk.i64_in _ (by omega)
          have hw2 : IntKind.i64.wrap ((k : Int) + (1 + ((0 : Nat) : Int))) = (k : Int) + (1 + ((0 : Nat) : Int)) := IntWalk.i64_in _ (by omega)
          have hrel : k + 1 + (0) ≤ N := by omega
          have hval : (k : Int) + (1 + ((0 : Nat) : Int)) = ((k + 1 + (0) : Nat) : Int) := by omega
          gi_wp2
          gi_region_o
          gi_wp2
          refine hR.mono ?_
          rintro e W3 (⟨rfl, ⟨pre', hp', hJ3⟩, hk3⟩ | ⟨rfl, pre', hp', hJx3⟩)
          · gi_wp2
            go_roundw
            case rel => exact ⟨k + 1 + (0), pre', hrel, by congr 1 <;> omega, hp', hJ3, hk3⟩
            case measure => simp [intOf]; omega
          · gi_wp2
            refine bodyPost_ret (results_none rfl _ _ _) rfl ?_
            exact ⟨⟨_, rfl⟩, .inr ⟨pre', hp', hJx3⟩⟩
        · have hbW : Below wr.heap.size wr (wr.alloc (.cells #[.int .i64 x0, .int .i64 x1, .int .i64 x2] 51)).drew := ((Below.refl _ wr).alloc (Nat.le_refl _) _).drew
          obtain ⟨fn, tmps, assign, body, hy, hR⟩ := HFin.out _ (x2.toNat) (off) (0) hbW ⟨by rw [if_pos hck], by omega, by omega⟩
          have hw1 : IntKind.i64.wrap (1 + ((x2.toNat : Nat) : Int)) = 1 + ((x2.toNat : Nat) : Int) := IntWalk.i64_in _ (by omega)
          have hw2 : IntKind.i64.wrap ((k : Int) + (1 + ((x2.toNat : Nat) : Int))) = (k : Int) + (1 + ((x2.toNat : Nat) : Int)) := IntWalk.i64_in _ (by omega)
          have hrel : k + 1 + (x2.toNat) ≤ N := by omega
          have hval : (k : Int) + (1 + ((x2.toNat : Nat) : Int)) = ((k + 1 + (x2.toNat) : Nat) : Int) := by omega
          gi_wp2
          gi_region_o
          gi_wp2
          refine hR.mono ?_
          rintro e W3 (⟨rfl, ⟨pre', hp', hJ3⟩, hk3⟩ | ⟨rfl, pre', hp', hJx3⟩)
          · gi_wp2
            go_roundw
            case rel => exact ⟨k + 1 + (x2.toNat), pre', hrel, by congr 1 <;> omega, hp', hJ3, hk3⟩
            case measure => simp [intOf]; omega
          · gi_wp2
            refine bodyPost_ret (results_none rfl _ _ _) rfl ?_
            exact ⟨⟨_, rfl⟩, .inr ⟨pre', hp', hJx3⟩⟩
        · have hbW : Below wr.heap.size wr (wr.alloc (.cells #[.int .i64 x0, .int .i64 x1, .int .i64 x2] 51)).drew := ((Below.refl _ wr).alloc (Nat.le_refl _) _).drew
          obtain ⟨fn, tmps, assign, body, hy, hR⟩ := HFin.out _ (N - (k + 1)) (off) (0) hbW ⟨by rw [if_pos hck], by omega, by omega⟩
          have hw1 : IntKind.i64.wrap (1 + ((N - (k + 1) : Nat) : Int)) = 1 + ((N - (k + 1) : Nat) : Int) := IntWalk.i64_in _ (by omega)
          have hw2 : IntKind.i64.wrap ((k : Int) + (1 + ((N - (k + 1) : Nat) : Int))) = (k : Int) + (1 + ((N - (k + 1) : Nat) : Int)) := IntWalk.i64_in _ (by omega)
          have hrel : k + 1 + (N - (k + 1)) ≤ N := by omega
          have hval : (k : Int) + (1 + ((N - (k + 1) : Nat) : Int)) = ((k + 1 + (N - (k + 1)) : Nat) : Int) := by omega
          gi_wp2
          gi_region_o
          gi_wp2
          refine hR.mono ?_
          rintro e W3 (⟨rfl, ⟨pre', hp', hJ3⟩, hk3⟩ | ⟨rfl, pre', hp', hJx3⟩)
          · gi_wp2
            go_roundw
            case rel => exact ⟨k + 1 + (N - (k + 1)), pre', hrel, by congr 1 <;> omega, hp', hJ3, hk3⟩
            case measure => simp [intOf]; omega
          · gi_wp2
            refine bodyPost_ret (results_none rfl _ _ _) rfl ?_
            exact ⟨⟨_, rfl⟩, .inr ⟨pre', hp', hJx3⟩⟩
      · rcases hsplit with hx2 | ⟨hx2, hx3⟩ | ⟨hx2, hx3⟩
        · have hbW : Below wr.heap.size wr (wr.alloc (.cells #[.int .i64 x0, .int .i64 x1, .int .i64 x2] 51)).drew := ((Below.refl _ wr).alloc (Nat.le_refl _) _).drew
          obtain ⟨fn, tmps, assign, body, hy, hR⟩ := HFin.out _ (0) (off + (k + 1) * 3) (cap - (k + 1)) hbW ⟨by rw [if_neg hck], by omega, by omega⟩
          have hw1 : IntKind.i64.wrap (1 + ((0 : Nat) : Int)) = 1 + ((0 : Nat) : Int) := IntWalk.i64_in _ (by omega)
          have hw2 : IntKind.i64.wrap ((k : Int) + (1 + ((0 : Nat) : Int))) = (k : Int) + (1 + ((0 : Nat) : Int)) := IntWalk.i64_in _ (by omega)
          have hrel : k + 1 + (0) ≤ N := by omega
          have hval : (k : Int) + (1 + ((0 : Nat) : Int)) = ((k + 1 + (0) : Nat) : Int) := by omega
          gi_wp2
          gi_region_o
          gi_wp2
          refine hR.mono ?_
          rintro e W3 (⟨rfl, ⟨pre', hp', hJ3⟩, hk3⟩ | ⟨rfl, pre', hp', hJx3⟩)
          · gi_wp2
            go_roundw
            case rel => exact ⟨k + 1 + (0), pre', hrel, by congr 1 <;> omega, hp', hJ3, hk3⟩
            case measure => simp [intOf]; omega
          · gi_wp2
            refine bodyPost_ret (results_none rfl _ _ _) rfl ?_
            exact ⟨⟨_, rfl⟩, .inr ⟨pre', hp', hJx3⟩⟩
        · have hbW : Below wr.heap.size wr (wr.alloc (.cells #[.int .i64 x0, .int .i64 x1, .int .i64 x2] 51)).drew := ((Below.refl _ wr).alloc (Nat.le_refl _) _).drew
          obtain ⟨fn, tmps, assign, body, hy, hR⟩ := HFin.out _ (x2.toNat) (off + (k + 1) * 3) (cap - (k + 1)) hbW ⟨by rw [if_neg hck], by omega, by omega⟩
          have hw1 : IntKind.i64.wrap (1 + ((x2.toNat : Nat) : Int)) = 1 + ((x2.toNat : Nat) : Int) := IntWalk.i64_in _ (by omega)
          have hw2 : IntKind.i64.wrap ((k : Int) + (1 + ((x2.toNat : Nat) : Int))) = (k : Int) + (1 + ((x2.toNat : Nat) : Int)) := IntWalk.i64_in _ (by omega)
          have hrel : k + 1 + (x2.toNat) ≤ N := by omega
          have hval : (k : Int) + (1 + ((x2.toNat : Nat) : Int)) = ((k + 1 + (x2.toNat) : Nat) : Int) := by omega
          gi_wp2
          gi_region_o
          gi_wp2
          refine hR.mono ?_
          rintro e W3 (⟨rfl, ⟨pre', hp', hJ3⟩, hk3⟩ | ⟨rfl, pre', hp', hJx3⟩)
          · gi_wp2
            go_roundw
            case rel => exact ⟨k + 1 + (x2.toNat), pre', hrel, by congr 1 <;> omega, hp', hJ3, hk3⟩
            case measure => simp [intOf]; omega
          · gi_wp2
            refine bodyPost_ret (results_none rfl _ _ _) rfl ?_
            exact ⟨⟨_, rfl⟩, .inr ⟨pre', hp', hJx3⟩⟩
        · have hbW : Below wr.heap.size wr (wr.alloc (.cells #[.int .i64 x0, .int .i64 x1, .int .i64 x2] 51)).drew := ((Below.refl _ wr).alloc (Nat.le_refl _) _).drew
          obtain ⟨fn, tmps, assign, body, hy, hR⟩ := HFin.out _ (N - (k + 1)) (off + (k + 1) * 3) (cap - (k + 1)) hbW ⟨by rw [if_neg hck], by omega, by omega⟩
          have hw1 : IntKind.i64.wrap (1 + ((N - (k + 1) : Nat) : Int)) = 1 + ((N - (k + 1) : Nat) : Int) := IntWalk.i64_in _ (by omega)
          have hw2 : IntKind.i64.wrap ((k : Int) + (1 + ((N - (k + 1) : Nat) : Int))) = (k : Int) + (1 + ((N - (k + 1) : Nat) : Int)) := IntWalk.i64_in _ (by omega)
          have hrel : k + 1 + (N - (k + 1)) ≤ N := by omega
          have hval : (k : Int) + (1 + ((N - (k + 1) : Nat) : Int)) = ((k + 1 + (N - (k + 1)) : Nat) : Int) := by omega
          gi_wp2
          gi_region_o
          gi_wp2
          refine hR.mono ?_
          rintro e W3 (⟨rfl, ⟨pre', hp', hJ3⟩, hk3⟩ | ⟨rfl, pre', hp', hJx3⟩)
          · gi_wp2
            go_roundw
            case rel => exact ⟨k + 1 + (N - (k + 1)), pre', hrel, by congr 1 <;> omega, hp', hJ3, hk3⟩
            case measure => simp [intOf]; omega
          · gi_wp2
            refine bodyPost_ret (results_none rfl _ _ _) rfl ?_
            exact ⟨⟨_, rfl⟩, .inr ⟨pre', hp', hJx3⟩⟩
    · obtain rfl : k = N := by omega
      gi_wp2
      go_end0
      refine ⟨⟨_, rfl⟩, .inl ⟨pre, ?_, HJs.out⟩⟩
      have := HPre.out
      rw [outs_ge (by rw [← HN.out]; omega), List.append_nil] at this
      exact this

set_option maxRecDepth 100000 in
set_option maxHeartbeats 2000000 in
/-- .. at no pieces: no round. -/
theorem outer0 (n : Nat) (l Bs cap : Nat) (ao : Option Addr) (J : List (Fin 0) → World → Prop) (W : World) (hBs : W.cell? ⟨Bs, 0, none⟩ = some (.slice ao 0 cap)) (h0 : J [] W) :
    CallsIn Fence.wide n Tryd.prog 76 #[.func (.yield l) #[] #[], .pointer (some ⟨Bs, 0, none⟩)] W fun e W' => (∃ v, e = .returned v) ∧ J [] W' := by
  have hro : Fence.wide.round = none := rfl
  refine callsIn_of_wp Tryd.func76 rfl trivial ?_ hro
  simp only [Tryd.ntmps76, List.size_toArray, List.length_cons, List.length_nil, Nat.reduceAdd, Nat.reduceSub, Array.replicate_succ, Array.replicate_zero, List.push_toArray, List.append_toArray, List.nil_append, List.cons_append]
  gi_wp2
  gi_loopw [3] (fun i wr => i = .int .i64 0 ∧ wr.cell? ⟨Bs, 0, none⟩ = some (.slice ao 0 cap) ∧ J [] wr) (fun _ _ => 0)
  case atStart => exact ⟨rfl, hBs, h0⟩
  case round =>
    obtain ⟨rfl, hB1, hJs⟩ := hrel
    gi_wp2
    go_end0
    exact ⟨⟨_, rfl⟩, hJs⟩

/-- The iterator over whatever list: what a round is handed reads as a piece and what it contains. -/
theorem outer_stops (n : Nat) (hn : 1 ≤ n) (xs : List V) (v : Value) (Bs n₀ : Nat) (w0 : World) (h : OpsC w0 n₀ v xs) (hlen : xs.length ≤ 1048576) (hn0 : n₀ ≤ w0.heap.size) (hBs : Bs < w0.heap.size) (cB : w0.cell? ⟨Bs, 0, none⟩ = some v) :
    ∃ iv : Fin xs.length → Value, (∀ x, OpsC w0 n₀ (iv x) (inside xs x.val)) ∧
      SeqStopsK Fence.wide n Tryd.prog 76 #[.pointer (some ⟨Bs, 0, none⟩)] (fun x => #[(xs.getD x.val oz).val, iv x]) (KQ n₀ Bs) (fun ys => ys.map (fun i => i.val) = outs xs 0) (fun pre => ∃ t, pre.map (fun i => i.val) ++ t = outs xs 0) xs.length w0 := by
  rcases h with ⟨rfl, ao, cap, rfl, _⟩ | ⟨hp, b, off, cap, rfl, hcap, hcm, hb, hc⟩
  · refine ⟨fun x => x.elim0, fun x => x.elim0, fun l J Jx W hW hJ _ hY h0 => ?_⟩
    exact (outer0 n l Bs cap ao J W ((hW.cell (p := ⟨Bs, 0, none⟩) hBs).trans cB) h0).mono fun e W' ⟨he, hj⟩ => ⟨he, .inl ⟨[], (by rw [outs_ge (by simp)]; rfl : ([] : List (Fin 0)).map (fun i => i.val) = outs [] 0), hj⟩⟩
  · exact ⟨fun x => insV xs b off cap x.val, fun x => insV_ops hb hcap hcm hc x.val x.isLt, fun l J Jx W hW hJ _ hY h0 => outer1 n hn xs b off cap Bs n₀ w0 hb hn0 hBs hlen hcap hcm cB hc l J Jx _ hJ hY W (KQ.ofBelow hW hn0 hBs) h0⟩

/-- outerPieces(list): it is boxed. -/
theorem outerP (v : Value) (w : World) (hv : ∃ ao len cap, v = .slice ao len cap) :
    Calls Tryd.prog 53 #[v] w fun e w' => e = .returned (.func (.func 76) #[] #[.pointer (some ⟨w.heap.size, 0, none⟩)]) ∧ w' = w.alloc (.cells #[v] 26) := by
  obtain ⟨ao, len, cap, rfl⟩ := hv
  go_enter Tryd.func53, Tryd.ntmps53
  go_wp2
  go_ret
  exact ⟨rfl, rfl⟩
end Go.Proofs.YtiacfejileeieabDoor.pc
