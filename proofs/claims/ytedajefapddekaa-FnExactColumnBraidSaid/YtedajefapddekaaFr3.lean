/-
  The reduced word of a word: contracts of slices.Chunk, of the product over its parts, and of reducedWord.
-/
import Derived.Test.YtedajefapddekaaFr2
import Derived.RangeFuncNested
import Derived.RangeFuncBound
import Derived.RangeFuncCalls
import Derived.RangeFuncLeaves
import Derived.Shelf.Abstract
import Derived.Shelf.RegionOpen
import Derived.OwnWalkIn
import Derived.TacticsInMore
import Derived.LoopNIn
import Derived.LoopIn
import Derived.RegionIn
import Derived.Maps.AppendAt
namespace Go.Proofs.Ytedajefapddekaa.fr
open Go.RowKit Go.Proofs.Ytedajefapddekaa.sl Go.Proofs.Ytedajefapddekaa.pm Go.Proofs.Ytedajefapddekaa.bw Go.Proofs.Ytedajefapddekaa.br Go.Proofs.Ytedajefapddekaa.fv Go.Proofs.Ytedajefapddekaa.fn
set_option linter.unusedVariables false
attribute [local go_sem] Oper.semAt_some

/-! ### a letter more -/
theorem push_one {st : List Int} {y : Int} {c : Nat} (h : Canc st [y] c) : pushL st [y] c = bw.push st y := by
  have hy := h.ly
  simp only [List.length_cons, List.length_nil] at hy
  by_cases h0 : st.length = 0
  · have hst : st = [] := List.length_eq_zero_iff.1 h0
    have hc : c = 0 := by have := h.lx; omega
    subst hst hc
    simp [pushL, bw.push]
  · obtain ⟨n, hn⟩ : ∃ n, st.length = n + 1 := ⟨st.length - 1, by omega⟩
    rcases Nat.lt_or_ge c 1 with hc | hc
    · obtain rfl : c = 0 := by omega
      have hs := h.stop (by omega) (by simp)
      rw [hn] at hs
      simp only [Nat.add_sub_cancel, Nat.sub_zero, List.getD_cons_zero] at hs
      rw [push_app st y n hn hs]
      simp [pushL]
    · obtain rfl : c = 1 := by omega
      have ha := h.all 0 (by omega)
      rw [hn] at ha
      simp only [Nat.add_sub_cancel, Nat.sub_zero, List.getD_cons_zero] at ha
      rw [push_pop st y n hn ha]
      simp [pushL, hn]
/-- The stack behind some letters of a word. -/
def stk {n : Nat} (xs : List Int) (pre : List (Fin n)) : List Int := redL (pre.map fun i => xs.getD i.val 0)
theorem stk_nil {n : Nat} (xs : List Int) : stk (n := n) xs [] = [] := rfl
theorem stk_snoc {n : Nat} (xs : List Int) (pre : List (Fin n)) (i : Fin n) : stk xs (pre ++ [i]) = bw.push (stk xs pre) (xs.getD i.val 0) := by
  simp [stk, redL]
theorem stk_len {n : Nat} (xs : List Int) (pre : List (Fin n)) : (stk xs pre).length ≤ pre.length := by
  have := redL_len (pre.map fun i => xs.getD i.val 0)
  simpa [stk] using this
theorem stk_all {xs : List Int} {n : Nat} (hn : n = xs.length) (pre : List (Fin n)) (h : pre.map (fun i => i.val) = List.range n) : stk xs pre = redL xs := by
  have e : (pre.map fun i => xs.getD i.val 0) = xs := by
    have h1 : (pre.map fun i => xs.getD i.val 0) = (pre.map fun i => i.val).map fun j => xs.getD j 0 := by rw [List.map_map]; rfl
    rw [h1, h, hn]
    refine list_eq_of (by simp) fun j hj => ?_
    simp only [List.length_map, List.length_range] at hj
    simp [List.getD, hj]
  rw [stk, e]

/-! ### slices.Chunk -/
/-- What a round is handed: a part of one letter. -/
def enc (b off n : Nat) (i : Fin n) : Array Value := #[.slice (some ⟨b, off + i.val, none⟩) 1 1]

set_option maxRecDepth 100000 in
set_option maxHeartbeats 2000000 in
theorem chunk1 (F : Fence) (n : Nat) (hF : F.fn 131) (hro : F.round = none) (hn : 1 ≤ n) (l Bs Bn n₀ b off len cap : Nat) (hlen : len ≤ 1000000) (hcap : len ≤ cap ∧ cap ≤ 9223372036854775807) (h1 : Bs < n₀) (h2 : Bn < n₀) (J Jx : List (Fin len) → World → Prop) (hJd : ∀ pre W, J pre W → J pre W.drew)
    (hY : ∀ pre x W, J pre W → pre.length < len → YieldAt F (n - 1) Try.prog l (enc b off len x) W fun e W' =>
      (e = .returned (.bool true) ∧ J (pre ++ [x]) W' ∧ Below n₀ W W') ∨ (e = .returned (.bool false) ∧ Jx (pre ++ [x]) W'))
    (W : World) (hBs : W.cell? ⟨Bs, 0, none⟩ = some (.slice (some ⟨b, off, none⟩) len cap)) (hBn : W.cell? ⟨Bn, 0, none⟩ = some (.int .i64 1)) (h0 : J [] W) :
    CallsIn F n Try.prog 131 #[.func (.yield l) #[] #[], .pointer (some ⟨Bs, 0, none⟩), .pointer (some ⟨Bn, 0, none⟩)] W fun e W' => (∃ v, e = .returned v) ∧
      ((∃ ys : List (Fin len), ys.map (fun i => i.val) = List.range len ∧ J ys W') ∨ (∃ pre : List (Fin len), True ∧ Jx pre W')) := by
  refine callsIn_of_wp Try.func131 rfl hF ?_ hro
  simp only [Try.ntmps131, List.size_toArray, List.length_cons, List.length_nil, Nat.reduceAdd, Nat.reduceSub, Array.replicate_succ, Array.replicate_zero, List.push_toArray, List.append_toArray, List.nil_append, List.cons_append]
  gi_wp2
  gi_loopw [4] (fun i wr => ∃ (k : Nat) (pre : List (Fin len)), k ≤ len ∧ i = .int .i64 k ∧ pre.map (fun i => i.val) = List.range k ∧ J pre wr ∧ Below n₀ W wr)
    (fun i _ => len - (intOf i).toNat)
  case atStart => exact ⟨0, [], Nat.zero_le _, rfl, rfl, h0, Below.refl _ _⟩
  case round =>
    obtain ⟨k, pre, hk, rfl, hpre, hJs, hnx⟩ := hrel
    have hBs' : wr.cell? ⟨Bs, 0, none⟩ = some (.slice (some ⟨b, off, none⟩) len cap) := (hnx.cell (p := ⟨Bs, 0, none⟩) h1).trans hBs
    have hBn' : wr.cell? ⟨Bn, 0, none⟩ = some (.int .i64 1) := (hnx.cell (p := ⟨Bn, 0, none⟩) h2).trans hBn
    have hlp : pre.length = k := by have := congrArg List.length hpre; simpa using this
    by_cases hlt : k < len
    · obtain ⟨fn, tmps, assign, body, hy, hR⟩ := hY _ ⟨k, hlt⟩ wr.drew (hJd _ _ hJs) (by rw [hlp]; exact hlt)
      dsimp only [enc] at hy
      have hck : ¬ cap = k := by omega
      have hkI : (k : Int) ≤ (len : Int) := by omega
      have hk1 : ¬ (len : Int) - (k : Int) < 1 := by omega
      have hk2 : IntKind.i64.wrap ((k : Int) + 1) = (k : Int) + 1 := IntWalk.i64_in _ (by omega)
      have hmx : Try.prog.follows .mixedOrders = true := by kernel_rfl
      have hk3 : ¬ len - k < 1 := by omega
      have hk4 : ¬ len - k = 0 := by omega
      have hk5 : ¬ len ≤ k := by omega
      have hk6 : ¬ ((len - k : Nat) : Int) < 1 := by omega
      have hk0 : (0 : Int) ≤ (k : Int) := by omega
      gi_wp2
      gi_region_o
      all_goals gi_wp2
      all_goals
        refine hR.mono ?_
        rintro e W3 (⟨rfl, hJ3, hk3⟩ | ⟨rfl, hJx3⟩)
        · have hB3 : W3.cell? ⟨Bn, 0, none⟩ = some (.int .i64 1) := (hk3.cell (p := ⟨Bn, 0, none⟩) h2).trans hBn'
          have hnx3 : Below n₀ W W3 := hnx.drew.trans hk3
          gi_wp2
          go_roundw
          case rel => exact ⟨k + 1, pre ++ [⟨k, hlt⟩], by omega, by simp, by rw [List.map_append, hpre, List.range_succ]; rfl, hJ3, hnx3⟩
          case measure => simp [intOf]; omega
        · gi_wp2
          refine bodyPost_ret (results_none rfl _ _ _) rfl ?_
          exact ⟨⟨_, rfl⟩, .inr ⟨_, trivial, hJx3⟩⟩
    · obtain rfl : k = len := by omega
      gi_wp2
      go_end0
      exact ⟨⟨_, rfl⟩, .inl ⟨pre, hpre, hJs⟩⟩
end Go.Proofs.Ytedajefapddekaa.fr
