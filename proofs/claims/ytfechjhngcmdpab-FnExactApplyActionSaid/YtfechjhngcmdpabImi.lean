/-
  imageOf and imagesIn.
-/
import Derived.Test.YtfechjhngcmdpabSub
namespace Go.Proofs.Ytfechjhngcmdpab.rr
open Go.RowKit Go.Proofs.Ytfechjhngcmdpab.sl Go.Proofs.Ytfechjhngcmdpab.pm Go.Proofs.Ytfechjhngcmdpab.bw Go.Proofs.Ytfechjhngcmdpab.br Go.Proofs.Ytfechjhngcmdpab.fv Go.Proofs.Ytfechjhngcmdpab.fn Go.Proofs.Ytfechjhngcmdpab.fr Go.Proofs.Ytfechjhngcmdpab.ss Go.Proofs.Ytfechjhngcmdpab.ai Go.Proofs.Ytfechjhngcmdpab.ao Go.Proofs.Ytfechjhngcmdpab.pv Go.Proofs.Ytfechjhngcmdpab.ia Go.Proofs.Ytfechjhngcmdpab.aa
set_option linter.unusedVariables false
attribute [local go_sem] Oper.semAt_some

/-- The slice that a letter stands for. -/
def valOf (vals1 vals2 : List Value) (x : Int) : Value := if 0 < x then vals1.getD (x - 1).toNat (.bool false) else vals2.getD (-x - 1).toNat (.bool false)

set_option maxHeartbeats 1600000 in
theorem imageOf (rows : List (List Int)) (v1 v2 : Value) (vals1 vals2 : List Value) (lo : Nat) (w : World) (r1 : RR w lo v1 vals1 (posL rows)) (r2 : RR w lo v2 vals2 (negL rows)) (x : Int) (hx : x ≠ 0 ∧ -(rows.length : Int) ≤ x ∧ x ≤ (rows.length : Int)) (hn : rows.length ≤ 12) :
    Calls Try.prog 66 #[.agg #[v1, v2], .int .i64 x] w fun e w' => e = .returned (valOf vals1 vals2 x) ∧ w' = w.alloc (.cells #[v1, v2] 60) := by
  have l1 : (posL rows).length = rows.length := by simp [posL]
  have l2 : (negL rows).length = rows.length := by simp [negL]
  have hgp : (∃ g1 c1, v1 = .slice (some ⟨g1, 0, none⟩) rows.length c1) ∧ (∃ g2 c2, v2 = .slice (some ⟨g2, 0, none⟩) rows.length c2) := by
    refine ⟨?_, ?_⟩
    · rcases r1.row.2 with ⟨_, h⟩ | ⟨g, c, cur, h, _⟩
      · omega
      · exact ⟨g, c, by rw [h, l1]⟩
    · rcases r2.row.2 with ⟨_, h⟩ | ⟨g, c, cur, h, _⟩
      · omega
      · exact ⟨g, c, by rw [h, l2]⟩
  obtain ⟨⟨g1, c1, rfl⟩, ⟨g2, c2, rfl⟩⟩ := hgp
  have HC1 := hid (fun j hj => r1.cell j (by rw [l1]; exact hj))
  have HC2 := hid (fun j hj => r2.cell j (by rw [l2]; exact hj))
  clear r1 r2 l1 l2
  generalize rows.length = n at *
  by_cases hpos : 0 < x
  · obtain ⟨t, ht⟩ : ∃ t : Nat, t = (x - 1).toNat := ⟨_, rfl⟩
    have htn : t < n := by omega
    have hv : valOf vals1 vals2 x = vals1.getD t (.bool false) := by rw [valOf, if_pos hpos, ← ht]
    have hc := HC1.out t htn
    rw [hv]
    generalize vals1.getD t (.bool false) = y at *
    have hw1 : IntKind.i64.wrap (x - 1) = (t : Int) := by rw [IntWalk.i64_in _ (by omega)]; omega
    have htI : (t : Int) < (n : Int) := by omega
    have hng : ¬ x < 0 := by omega
    have hc' : ∀ o, (w.alloc o).cell? ⟨g1, t, none⟩ = some y := fun o => (((Below.refl w.heap.size w).alloc (Nat.le_refl _) o).cell (p := ⟨g1, t, none⟩) (World.block_lt_of_cell? w _ hc)).trans hc
    clear hv ht HC1 HC2
    go_enter Try.func66, Try.ntmps66
    go_wp2
    go_ret
    exact ⟨rfl, rfl⟩
  · obtain ⟨t, ht⟩ : ∃ t : Nat, t = (-x - 1).toNat := ⟨_, rfl⟩
    have htn : t < n := by omega
    have hv : valOf vals1 vals2 x = vals2.getD t (.bool false) := by rw [valOf, if_neg hpos, ← ht]
    have hc := HC2.out t htn
    rw [hv]
    generalize vals2.getD t (.bool false) = y at *
    have hw0 : IntKind.i64.wrap (-x) = -x := IntWalk.i64_in _ (by omega)
    have hw1 : IntKind.i64.wrap (-x - 1) = (t : Int) := by rw [IntWalk.i64_in _ (by omega)]; omega
    have htI : (t : Int) < (n : Int) := by omega
    have hng : x < 0 := by omega
    have hc' : ∀ o, (w.alloc o).cell? ⟨g2, t, none⟩ = some y := fun o => (((Below.refl w.heap.size w).alloc (Nat.le_refl _) o).cell (p := ⟨g2, t, none⟩) (World.block_lt_of_cell? w _ hc)).trans hc
    clear hv ht HC1 HC2
    go_enter Try.func66, Try.ntmps66
    go_wp2
    go_ret
    exact ⟨rfl, rfl⟩

/-- s.imagesIn(word): both are boxed. -/
theorem imagesIn (v1 v2 u : Value) (hu : ∃ ao len cap, u = .slice ao len cap) (h1 : ∃ ao len cap, v1 = .slice ao len cap) (h2 : ∃ ao len cap, v2 = .slice ao len cap) (w : World) :
    Calls Try.prog 36 #[.agg #[v1, v2], u] w fun e w' => e = .returned (.func (.func 65) #[] #[.pointer (some ⟨w.heap.size + 1, 0, none⟩), .pointer (some ⟨w.heap.size, 0, none⟩)]) ∧ w' = (w.alloc (.cells #[v1, v2] 60)).alloc (.cells #[u] 23) := by
  obtain ⟨_, _, _, rfl⟩ := hu
  obtain ⟨_, _, _, rfl⟩ := h1
  obtain ⟨_, _, _, rfl⟩ := h2
  go_enter Try.func36, Try.ntmps36
  go_wp2
  go_ret
  exact ⟨rfl, rfl⟩

def encI (vals1 vals2 : List Value) (word : List Int) (n : Nat) (i : Fin n) : Array Value := #[valOf vals1 vals2 (word.getD i.val 0)]

set_option maxRecDepth 100000 in
set_option maxHeartbeats 4000000 in
theorem images1 (n : Nat) (hn : 1 ≤ n) (rows : List (List Int)) (word : List Int) (v1 v2 : Value) (vals1 vals2 : List Value) (lo : Nat) (w0 : World) (r1 : RR w0 lo v1 vals1 (posL rows)) (r2 : RR w0 lo v2 vals2 (negL rows)) (hn12 : rows.length ≤ 12)
    (l Bs Bw b off len cap : Nat) (hlen : len = word.length) (hl2 : len ≤ 1000000) (hlt : ∀ k, k < len → word.getD k 0 ≠ 0 ∧ -(rows.length : Int) ≤ word.getD k 0 ∧ word.getD k 0 ≤ (rows.length : Int))
    (J Jx : List (Fin len) → World → Prop) (BJ : Nat) (hJa : AbidesFrom BJ J)
    (hY : ∀ pre x W, J pre W → pre.length < len → YieldAt Fence.wide (n - 1) Try.prog l (encI vals1 vals2 word len x) W fun e W' =>
      (e = .returned (.bool true) ∧ J (pre ++ [x]) W' ∧ Below w0.heap.size W W') ∨ (e = .returned (.bool false) ∧ Jx (pre ++ [x]) W'))
    (hb : b < w0.heap.size ∨ len = 0) (hBw : w0.cell? ⟨Bw, 0, none⟩ = some (.slice (some ⟨b, off, none⟩) len cap)) (hB1 : w0.cell? ⟨Bs, 0, none⟩ = some v1) (hB2 : w0.cell? ⟨Bs, 1, none⟩ = some v2) (hc : ∀ j, j < len → w0.cell? ⟨b, off + j, none⟩ = some (.int .i64 (word.getD j 0)))
    (W : World) (hW : Below w0.heap.size w0 W) (h0 : J [] W) :
    CallsIn Fence.wide n Try.prog 65 #[.func (.yield l) #[] #[], .pointer (some ⟨Bw, 0, none⟩), .pointer (some ⟨Bs, 0, none⟩)] W fun e W' => (∃ v, e = .returned v) ∧
      ((∃ ys : List (Fin len), ys.map (fun i => i.val) = List.range len ∧ J ys W') ∨ (∃ pre : List (Fin len), True ∧ Jx pre W')) := by
  have hro : Fence.wide.round = none := rfl
  have HLt := hid hlt
  have HC := hid hc
  have HR1 := hid r1
  have HR2 := hid r2
  have hbw := World.block_lt_of_cell? w0 _ hBw
  have hbs := World.block_lt_of_cell? w0 _ hB1
  have hWw : W.cell? ⟨Bw, 0, none⟩ = some (.slice (some ⟨b, off, none⟩) len cap) := (hW.cell (p := ⟨Bw, 0, none⟩) hbw).trans hBw
  obtain ⟨z1, p1, e1⟩ := rr_val r1
  obtain ⟨z2, p2, e2⟩ := rr_val r2
  generalize (posL rows).length = q1 at e1
  generalize (negL rows).length = q2 at e2
  have HW := hid hW
  clear hlt hc r1 r2 hlen hW
  refine callsIn_of_wp Try.func65 rfl trivial ?_ hro
  simp only [Try.ntmps65, List.size_toArray, List.length_cons, List.length_nil, Nat.reduceAdd, Nat.reduceSub, Array.replicate_succ, Array.replicate_zero, List.push_toArray, List.append_toArray, List.nil_append, List.cons_append]
  gi_wp2
  gi_loopw [8] (fun i wr => ∃ (k : Nat) (pre : List (Fin len)), k ≤ len ∧ i = .int .i64 k ∧ pre.map (fun i => i.val) = List.range k ∧ J pre wr ∧ Below w0.heap.size w0 wr)
    (fun i _ => len - (intOf i).toNat)
  case atStart => exact ⟨0, [], Nat.zero_le _, rfl, rfl, h0, HW.out⟩
  case round =>
    obtain ⟨k, pre, hk, rfl, hpre, hJs, hnx⟩ := hrel
    have hlp : pre.length = k := by have := congrArg List.length hpre; simpa using this
    by_cases hlt : k < len
    · have hck : wr.cell? ⟨b, off + k, none⟩ = some (.int .i64 (word.getD k 0)) := (hnx.cell (p := ⟨b, off + k, none⟩) (by show b < _; omega)).trans (HC.out k hlt)
      have hs1 : wr.cell? ⟨Bs, 0, none⟩ = some v1 := (hnx.cell (p := ⟨Bs, 0, none⟩) hbs).trans hB1
      have hs2 : wr.cell? ⟨Bs, 1, none⟩ = some v2 := (hnx.cell (p := ⟨Bs, 1, none⟩) hbs).trans hB2
      have hg := grown_below hnx (Nat.le_refl _)
      have HIm := hid (imageOf rows v1 v2 vals1 vals2 lo wr (HR1.out.kept hg (safe_none _ _)) (HR2.out.kept hg (safe_none _ _)) (word.getD k 0) (HLt.out k hlt) hn12)
      have hJ1 : J pre (wr.alloc (.cells #[v1, v2] 60)) := hJa pre wr _ none hJs ⟨rfl, rfl, rfl, by simp, fun k hk _ => Below.heap_alloc _ _ _ hk⟩ (fun r e => by cases e)
      have hnx1 : Below w0.heap.size w0 (wr.alloc (.cells #[v1, v2] 60)) := hnx.alloc hnx.size _
      obtain ⟨fn, tmps, assign, body, hy, hR⟩ := hY _ ⟨k, hlt⟩ (wr.alloc (.cells #[v1, v2] 60)) hJ1 (by rw [hlp]; exact hlt)
      dsimp only [encI] at hy
      generalize valOf vals1 vals2 (word.getD k 0) = y at *
      generalize word.getD k 0 = x at *
      subst e1
      subst e2
      clear hg
      gi_wp2_with (refine ⟨trivial, ?_⟩; gi_at_call 66; refine (callsIn_wide.2 HIm.out).mono ?_; rintro e w1 ⟨rfl, rfl⟩)
      refine hR.mono ?_
      rintro e W3 (⟨rfl, hJ3, hk3⟩ | ⟨rfl, hJx3⟩)
      · have hnx3 : Below w0.heap.size w0 W3 := hnx1.trans hk3
        gi_wp2
        go_roundw
        case rel => exact ⟨k + 1, pre ++ [⟨k, hlt⟩], by omega, by simp, by rw [List.map_append, hpre, List.range_succ]; rfl, hJ3, hnx3⟩
        case measure => simp [intOf]; omega
      · gi_wp2
        refine bodyPost_ret (results_none rfl _ _ _) rfl ?_
        exact ⟨⟨_, rfl⟩, .inr ⟨_, trivial, hJx3⟩⟩
    · obtain rfl : k = len := by omega
      gi_wp2
      go_end0
      exact ⟨⟨_, rfl⟩, .inl ⟨pre, hpre, hJs⟩⟩
end Go.Proofs.Ytfechjhngcmdpab.rr
