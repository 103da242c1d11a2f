/-
  The product of reduced words that a slice holds: mathematics, slices.Values, productOf.
-/
import Derived.Test.YtkpilmcaeemfmaaFr6
import Derived.Test.YtkpilmcaeemfmaaAo
namespace Go.Proofs.Ytkpilmcaeemfmaa.pv
open Go.RowKit Go.Proofs.Ytkpilmcaeemfmaa.sl Go.Proofs.Ytkpilmcaeemfmaa.pm Go.Proofs.Ytkpilmcaeemfmaa.bw Go.Proofs.Ytkpilmcaeemfmaa.br Go.Proofs.Ytkpilmcaeemfmaa.fv Go.Proofs.Ytkpilmcaeemfmaa.fn Go.Proofs.Ytkpilmcaeemfmaa.fr Go.Proofs.Ytkpilmcaeemfmaa.ss Go.Proofs.Ytkpilmcaeemfmaa.ai
set_option linter.unusedVariables false
attribute [local go_sem] Oper.semAt_some

/-! ### a reduced word more -/
theorem pto_zero (st ys : List Int) : pTo st ys 0 = st := rfl
theorem pto_pop {xs ys : List Int} {c : Nat} (h : Canc xs ys c) : ∀ i, i ≤ c → pTo xs ys i = xs.take (xs.length - i) := by
  intro i
  induction i with
  | zero => intro _; rw [pto_zero, Nat.sub_zero, List.take_length]
  | succ i ih =>
    intro hi
    have h1 := h.lx
    have h2 := h.ly
    rw [pTo_succ xs ys i (by omega), ih (by omega)]
    have ha := h.all i (by omega)
    have hl : (xs.take (xs.length - i)).length = xs.length - i - 1 + 1 := by rw [List.length_take]; omega
    rw [push_pop _ _ (xs.length - i - 1) hl (by
      rw [show xs.length - i - 1 = xs.length - 1 - i by omega]
      rw [← ha]
      simp only [List.getD, List.getElem?_take]
      rw [if_pos (by omega)])]
    rw [List.take_take]
    congr 1
    omega
theorem pto_app {xs ys : List Int} {c : Nat} (h : Canc xs ys c) (hr : Reduced ys) : ∀ d, c + d ≤ ys.length → pTo xs ys (c + d) = xs.take (xs.length - c) ++ (ys.take (c + d)).drop c := by
  intro d
  induction d with
  | zero =>
    intro hd
    rw [Nat.add_zero, pto_pop h c (Nat.le_refl _)]
    have : (ys.take c).drop c = [] := by rw [List.drop_eq_nil_iff, List.length_take]; omega
    rw [this, List.append_nil]
  | succ d ih =>
    intro hd
    have h1 := h.lx
    rw [show c + (d + 1) = c + d + 1 by omega, pTo_succ xs ys (c + d) (by omega), ih (by omega)]
    have e : ys.take (c + d + 1) = ys.take (c + d) ++ [ys.getD (c + d) 0] := take_snoc ys (c + d) (by omega)
    have e2 : (ys.take (c + d + 1)).drop c = (ys.take (c + d)).drop c ++ [ys.getD (c + d) 0] := by
      rw [e, List.drop_append_of_le_length (by rw [List.length_take]; omega)]
    rw [e2, ← List.append_assoc]
    generalize hst : xs.take (xs.length - c) ++ (ys.take (c + d)).drop c = st
    have hlen : st.length = xs.length - c + d := by rw [← hst]; simp; omega
    by_cases h0 : st.length = 0
    · have : st = [] := List.length_eq_zero_iff.1 h0
      rw [this]; rfl
    · refine push_app st _ (st.length - 1) (by omega) ?_
      by_cases hd0 : d = 0
      · subst hd0
        have hs := h.stop (by omega) (by omega)
        have : st.getD (st.length - 1) 0 = xs.getD (xs.length - 1 - c) 0 := by
          rw [hlen, ← hst]
          simp only [List.getD, Nat.add_zero]
          rw [List.getElem?_append_left (by rw [List.length_take]; omega), List.getElem?_take, if_pos (by omega), show xs.length - c - 1 = xs.length - 1 - c by omega]
        rw [this, Nat.add_zero]
        exact hs
      · have hs := hr (c + d - 1) (by omega)
        have : st.getD (st.length - 1) 0 = ys.getD (c + d - 1) 0 := by
          rw [hlen, ← hst]
          simp only [List.getD]
          rw [List.getElem?_append_right (by rw [List.length_take]; omega), List.length_take, List.getElem?_drop, List.getElem?_take, if_pos (by omega)]
          congr 2
          omega
        rw [this]
        rw [show c + d - 1 + 1 = c + d by omega] at hs
        exact hs
theorem push_fold {xs ys : List Int} {c : Nat} (h : Canc xs ys c) (hr : Reduced ys) : pushL xs ys c = ys.foldl bw.push xs := by
  have h2 := h.ly
  rw [← pTo_all, show ys.length = c + (ys.length - c) by omega, pto_app h hr (ys.length - c) (by omega), show c + (ys.length - c) = ys.length by omega, List.take_length]
  rfl
theorem red_of {r : List Int} (h : Reduced r) : redL r = r := by
  have hc : Canc ([] : List Int) r 0 := ⟨Nat.le_refl _, Nat.zero_le _, fun i hi => by omega, fun h => by simp at h⟩
  have := push_fold hc h
  simpa [pushL, redL] using this.symm

/-- The stack behind some rows. -/
def stkR {n : Nat} (rows : List (List Int)) (pre : List (Fin n)) : List Int := redL (pre.map fun i => rows.getD i.val []).flatten
theorem stkR_nil {n : Nat} (rows : List (List Int)) : stkR (n := n) rows [] = [] := rfl
theorem stkR_snoc {n : Nat} (rows : List (List Int)) (pre : List (Fin n)) (i : Fin n) : stkR rows (pre ++ [i]) = (rows.getD i.val []).foldl bw.push (stkR rows pre) := by
  simp [stkR, redL, List.foldl_append]
theorem flat_len (L : List (List Int)) (m : Nat) (h : ∀ r ∈ L, r.length ≤ m) : L.flatten.length ≤ L.length * m := by
  induction L with
  | nil => simp
  | cons a L ih =>
    have h1 := h a (by simp)
    have h2 := ih (fun r hr => h r (by simp [hr]))
    simp only [List.flatten_cons, List.length_append, List.length_cons, Nat.succ_mul]
    omega
theorem rows_mem (rows : List (List Int)) (k : Nat) (h : k < rows.length) : rows.getD k [] = rows[k] := by simp [List.getD, List.getElem?_eq_getElem h]
theorem stkR_len {n : Nat} (rows : List (List Int)) (hn : n = rows.length) (m : Nat) (h : ∀ k, k < rows.length → (rows.getD k []).length ≤ m) (pre : List (Fin n)) : (stkR rows pre).length ≤ pre.length * m := by
  have h1 := redL_len (pre.map fun i => rows.getD i.val []).flatten
  have h2 := flat_len (pre.map fun i => rows.getD i.val []) m (fun r hr => by
    rw [List.mem_map] at hr
    obtain ⟨i, _, rfl⟩ := hr
    exact h i.val (by rw [← hn]; exact i.isLt))
  rw [List.length_map] at h2
  exact Nat.le_trans h1 h2
theorem stkR_all {rows : List (List Int)} {n : Nat} (hn : n = rows.length) (pre : List (Fin n)) (h : pre.map (fun i => i.val) = List.range n) : stkR rows pre = redL rows.flatten := by
  have e : (pre.map fun i => rows.getD i.val []) = rows := by
    have h1 : (pre.map fun i => rows.getD i.val []) = (pre.map fun i => i.val).map fun j => rows.getD j [] := by rw [List.map_map]; rfl
    rw [h1, h, hn]
    apply List.ext_getElem (by simp)
    intro i h1 h2
    simp [List.getD, h2]
  rw [stkR, e]

/-! ### slices.Values -/
def encV (V : Nat → Value) (n : Nat) (i : Fin n) : Array Value := #[V i.val]

set_option maxRecDepth 100000 in
set_option maxHeartbeats 2000000 in
theorem vals1 (F : Fence) (n : Nat) (hF : F.fn 161) (hro : F.round = none) (hn : 1 ≤ n) (l Bs n₀ b off len cap : Nat) (V : Nat → Value) (hlen : len ≤ 1000000) (h1 : b < n₀) (J Jx : List (Fin len) → World → Prop)
    (hY : ∀ pre x W, J pre W → pre.length < len → YieldAt F (n - 1) Try.prog l (encV V len x) W fun e W' =>
      (e = .returned (.bool true) ∧ J (pre ++ [x]) W' ∧ Below n₀ W W') ∨ (e = .returned (.bool false) ∧ Jx (pre ++ [x]) W'))
    (W : World) (hBs : W.cell? ⟨Bs, 0, none⟩ = some (.slice (some ⟨b, off, none⟩) len cap)) (hc : ∀ j, j < len → W.cell? ⟨b, off + j, none⟩ = some (V j)) (h0 : J [] W) :
    CallsIn F n Try.prog 161 #[.func (.yield l) #[] #[], .pointer (some ⟨Bs, 0, none⟩)] W fun e W' => (∃ v, e = .returned v) ∧
      ((∃ ys : List (Fin len), ys.map (fun i => i.val) = List.range len ∧ J ys W') ∨ (∃ pre : List (Fin len), True ∧ Jx pre W')) := by
  refine callsIn_of_wp Try.func161 rfl hF ?_ hro
  simp only [Try.ntmps161, List.size_toArray, List.length_cons, List.length_nil, Nat.reduceAdd, Nat.reduceSub, Array.replicate_succ, Array.replicate_zero, List.push_toArray, List.append_toArray, List.nil_append, List.cons_append]
  gi_wp2
  gi_loopw [7] (fun i wr => ∃ (k : Nat) (pre : List (Fin len)), k ≤ len ∧ i = .int .i64 k ∧ pre.map (fun i => i.val) = List.range k ∧ J pre wr ∧ Below n₀ W wr)
    (fun i _ => len - (intOf i).toNat)
  case atStart => exact ⟨0, [], Nat.zero_le _, rfl, rfl, h0, Below.refl _ _⟩
  case round =>
    obtain ⟨k, pre, hk, rfl, hpre, hJs, hnx⟩ := hrel
    have hlp : pre.length = k := by have := congrArg List.length hpre; simpa using this
    by_cases hlt : k < len
    · have hck : wr.cell? ⟨b, off + k, none⟩ = some (V k) := (hnx.cell (p := ⟨b, off + k, none⟩) h1).trans (hc k hlt)
      obtain ⟨fn, tmps, assign, body, hy, hR⟩ := hY _ ⟨k, hlt⟩ wr hJs (by rw [hlp]; exact hlt)
      dsimp only [encV] at hy
      gi_wp2
      refine hR.mono ?_
      rintro e W3 (⟨rfl, hJ3, hk3⟩ | ⟨rfl, hJx3⟩)
      · have hnx3 : Below n₀ W W3 := hnx.trans hk3
        gi_wp2
        go_roundw
        case rel => exact ⟨k + 1, pre ++ [⟨k, hlt⟩], by omega, by simp, by rw [List.map_append, hpre, List.range_succ]; rfl, hJ3, hnx3⟩
        case measure => simp [intOf]; omega
      · gi_wp2
        refine bodyPost_ret (results_none rfl _ _ _) rfl ?_
        exact ⟨⟨_, rfl⟩, .inr ⟨_, trivial, hJx3⟩⟩
    · obtain rfl : k = len := by omega
      gi_wp2
      go_end0
      exact ⟨⟨_, rfl⟩, .inl ⟨pre, hpre, hJs⟩⟩

theorem vals_stops (F : Fence) (n : Nat) (hF : F.fn 161) (hro : F.round = none) (hn : 1 ≤ n) (Bs n₀ b off len cap : Nat) (V : Nat → Value) (hlen : len ≤ 1000000) (h1 : b < n₀)
    (w : World) (hz1 : Bs < w.heap.size) (hz2 : b < w.heap.size) (hBs : w.cell? ⟨Bs, 0, none⟩ = some (.slice (some ⟨b, off, none⟩) len cap)) (hc : ∀ j, j < len → w.cell? ⟨b, off + j, none⟩ = some (V j)) :
    SeqStopsK F n Try.prog 161 #[.pointer (some ⟨Bs, 0, none⟩)] (encV V len) (Below n₀) (fun ys => ys.map (fun i => i.val) = List.range len) (fun _ => True) len w := fun l J Jx W hW hJ _ hY h0 =>
  vals1 F n hF hro hn l Bs n₀ b off len cap V hlen h1 J Jx hY W ((hW.cell (p := ⟨Bs, 0, none⟩) hz1).trans hBs) (fun j hj => (hW.cell (p := ⟨b, off + j, none⟩) hz2).trans (hc j hj)) h0

set_option maxRecDepth 100000 in
set_option maxHeartbeats 2000000 in
/-- .. at no rows: no round. -/
theorem vals0 (F : Fence) (n : Nat) (hF : F.fn 161) (hro : F.round = none) (l Bs cap : Nat) (ao : Option Addr) (J : List (Fin 0) → World → Prop) (W : World) (hBs : W.cell? ⟨Bs, 0, none⟩ = some (.slice ao 0 cap)) (h0 : J [] W) :
    CallsIn F n Try.prog 161 #[.func (.yield l) #[] #[], .pointer (some ⟨Bs, 0, none⟩)] W fun e W' => (∃ v, e = .returned v) ∧ J [] W' := by
  refine callsIn_of_wp Try.func161 rfl hF ?_ hro
  simp only [Try.ntmps161, List.size_toArray, List.length_cons, List.length_nil, Nat.reduceAdd, Nat.reduceSub, Array.replicate_succ, Array.replicate_zero, List.push_toArray, List.append_toArray, List.nil_append, List.cons_append]
  gi_wp2
  gi_loopw [7] (fun i wr => i = .int .i64 0 ∧ J [] wr) (fun _ _ => 0)
  case atStart => exact ⟨rfl, h0⟩
  case round =>
    obtain ⟨rfl, hJs⟩ := hrel
    gi_wp2
    go_end0
    exact ⟨⟨_, rfl⟩, hJs⟩
theorem vals0_stops (F : Fence) (n : Nat) (hF : F.fn 161) (hro : F.round = none) (Bs n₀ cap : Nat) (ao : Option Addr) (V : Nat → Value) (w : World) (hz1 : Bs < w.heap.size) (hBs : w.cell? ⟨Bs, 0, none⟩ = some (.slice ao 0 cap)) :
    SeqStopsK F n Try.prog 161 #[.pointer (some ⟨Bs, 0, none⟩)] (encV V 0) (Below n₀) (fun ys => ys.map (fun i => i.val) = List.range 0) (fun _ => True) 0 w := fun l J Jx W hW hJ _ hY h0 =>
  (vals0 F n hF hro l Bs cap ao J W ((hW.cell (p := ⟨Bs, 0, none⟩) hz1).trans hBs) h0).mono fun e W' ⟨he, hj⟩ => ⟨he, .inl ⟨[], rfl, hj⟩⟩

/-- slices.Values(s): it is boxed. -/
theorem values (ao : Option Addr) (len cap : Nat) (w : World) :
    Calls Try.prog 91 #[.slice ao len cap] w fun e w' => e = .returned (.func (.func 161) #[] #[.pointer (some ⟨w.heap.size, 0, none⟩)]) ∧ w' = w.alloc (.cells #[.slice ao len cap] 28) := by
  go_enter Try.func91, Try.ntmps91
  go_wp2
  go_ret
  exact ⟨rfl, rfl⟩

/-- The stack between two rounds. -/
def StR {n : Nat} (rows : List (List Int)) (w : World) (pre : List (Fin n)) (W : World) : Prop := (∃ v, Boxed W w.heap.size 101 v ∧ W.ownsRow w.heap.size 2 1 v (stkR rows pre).length ((stkR rows pre).map (Value.int .i64)) ∧ True) ∧ Below w.heap.size w W

set_option maxRecDepth 100000 in
set_option maxHeartbeats 4000000 in
theorem productV (rows : List (List Int)) (n Bs B : Nat) (V : Nat → Value) (hn : n = rows.length) (w : World) (hB : B ≤ w.heap.size)
    (hseq : ∀ W : World, Below w.heap.size w W → w.heap.size ≤ W.heap.size → SeqStopsK Fence.wide (3 - 1) Try.prog 161 #[.pointer (some ⟨Bs, 0, none⟩)] (encV V n) (Below w.heap.size) (fun ys => ys.map (fun i => i.val) = List.range n) (fun _ => True) n W)
    (hr : ∀ j, j < n → (∃ b off dap, V j = .slice (some ⟨b, off, none⟩) (rows.getD j []).length dap ∧ (rows.getD j []).length ≤ dap ∧ dap ≤ 9223372036854775807) ∧ Ints w B (V j) (rows.getD j []) ∧ (rows.getD j []).length ≤ 20000 ∧ Small (rows.getD j []) ∧ Reduced (rows.getD j [])) (hlen : n ≤ 12) :
    Calls Try.prog 90 #[.func (.func 161) #[] #[.pointer (some ⟨Bs, 0, none⟩)]] w fun e W' => ∃ v, e = .returned v ∧ sl.Own W' w.heap.size W'.heap.size v (redL rows.flatten) ∧ Below w.heap.size w W' := by
  have hsl := stkR_len rows hn 20000 (fun k hk => (hr k (by rw [hn]; exact hk)).2.2.1)
  refine (callsIn_wide (n := 3)).1 ?_
  have hro : Fence.wide.round = none := rfl
  refine callsIn_of_wp_marks Try.func90 rfl trivial ?_ hro
  simp only [Try.ntmps90, List.size_toArray, List.length_cons, List.length_nil, Nat.reduceAdd, Nat.reduceSub, Array.replicate_succ, Array.replicate_zero, List.push_toArray, List.append_toArray, List.nil_append, List.cons_append]
  gi_wp2
  have bO := Boxed.new w 101 (.slice none 0 0)
  have hB0 : Below w.heap.size w (w.alloc (.cells #[.slice none 0 0] 101)) := (Below.refl _ w).alloc (Nat.le_refl _) _
  refine wpIn_rangeFunc_ownG hro (by omega) (gf := 161) (lb := #[.pointer (some ⟨Bs, 0, none⟩)]) rfl trivial (enters_of Try.func161 (by kernel_rfl) rfl)
    (hseq _ hB0 (by simp)) belowK_t (belowK_b (by simp)) (Below.refl _ _) (fun _ => rfl)
    (StR rows w)
    (fun _ _ _ => False)
    (OwnFrom.and (Own.from (holdsRow_own w.heap.size w.heap.size 101 2 1 (fun pre => (stkR rows pre).length) (fun pre => (stkR rows pre).map (Value.int .i64)) (fun _ _ => True)) _) (ownFrom_below (Nat.le_refl _) (by simp)))
    (fun _ _ _ _ _ hs _ _ => hs)
    ⟨⟨_, bO, World.ownsRow_nil _ _ _ _, trivial⟩, hB0⟩
    (fun x => { tmps := #[.func (.func 161) #[] #[.pointer (some ⟨Bs, 0, none⟩)], undef, .slice none 0 0, .pointer (some ⟨w.heap.size, 0, none⟩), V x.val, .func (.func 161) #[] #[.pointer (some ⟨Bs, 0, none⟩)], V x.val, undef, undef, undef], defers := [] }) ?assign ?body ?done ?stop
  case assign =>
    intro l x W K hK
    simp only [encV]
    gi_wp2
    exact hK
  case body =>
    rintro l pre x W ⟨⟨v, hv, hrow, _⟩, hBl⟩ hlt
    obtain ⟨⟨b, off, dap, hV, hd1, hd2⟩, hI, hl2, hs, hre⟩ := hr x.val x.isLt
    have hst := hsl pre
    have hst2 : pre.length * 20000 ≤ 240000 := by
      have : pre.length ≤ 12 := by omega
      omega
    have hsize := hBl.size
    have hIx := hI.chg (Chg.ofBelow (lo := 0) hBl) (.inr (Nat.zero_le _))
    rw [hV] at hIx
    have hP := push (stkR rows pre) (rows.getD x.val []) v w.heap.size w.heap.size B b off dap W hv hrow hsize (Nat.le_refl _) hIx (by omega) ⟨hd1, hd2⟩ (by omega) (by omega) hs
    rw [← hV] at hP
    have HP := hid hP
    have HRe := hid hre
    clear hP hIx hI hs hre hV
    have hd : 1 ≤ 3 - 1 - 1 := by omega
    gi_wp2_with (refine ⟨trivial, ?_⟩; gi_at_call 78; refine (CallsIn.inRound l (callsIn_wide.2 HP.out)).mono ?_; rintro e w' ⟨⟨r, rfl⟩, v', c, hcc, hbx, hrw, hko, hbe⟩)
    rw [push_fold hcc HRe.out, ← stkR_snoc] at hrw
    exact ⟨hko.from _, hbe, ⟨⟨v', hbx, hrw, trivial⟩, hBl.trans hbe⟩⟩
  case done =>
    rintro D ys W hD hys ⟨⟨v, hv, hrow, _⟩, hBl⟩ hK
    have hc' := hv.cell
    have hb2 := hBl.trans (belowK_b (w := w) (Nat.le_refl _) W D _ (.deferred none) (by simp at hD; omega) hK rfl rfl)
    have hr2 := ownsRow_putObj hrow (.deferred none) hK rfl
    rw [stkR_all hn ys hys] at hr2
    gi_wp2
    refine ⟨by simp, .inl ⟨_, _, rfl, run_takeDeferred hK, ?_⟩⟩
    exact ⟨_, results_tmp rfl _ _ _, v, rfl, sl.Own.mk' hr2, hb2⟩
  case stop =>
    rintro D c pre W _ _ h _
    exact h.elim
end Go.Proofs.Ytkpilmcaeemfmaa.pv
