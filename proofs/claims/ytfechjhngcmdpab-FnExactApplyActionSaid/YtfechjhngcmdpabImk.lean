/-
  The iterator of imagesIn, where the stack's box lies below its data.
-/
import Derived.Test.YtfechjhngcmdpabPk
namespace Go.Proofs.Ytfechjhngcmdpab.rr
open Go.RowKit Go.Proofs.Ytfechjhngcmdpab.sl Go.Proofs.Ytfechjhngcmdpab.pm Go.Proofs.Ytfechjhngcmdpab.bw Go.Proofs.Ytfechjhngcmdpab.br Go.Proofs.Ytfechjhngcmdpab.fv Go.Proofs.Ytfechjhngcmdpab.fn Go.Proofs.Ytfechjhngcmdpab.fr Go.Proofs.Ytfechjhngcmdpab.ss Go.Proofs.Ytfechjhngcmdpab.ai Go.Proofs.Ytfechjhngcmdpab.ao Go.Proofs.Ytfechjhngcmdpab.pv Go.Proofs.Ytfechjhngcmdpab.ia Go.Proofs.Ytfechjhngcmdpab.aa
set_option linter.unusedVariables false
attribute [local go_sem] Oper.semAt_some

set_option maxRecDepth 100000 in
set_option maxHeartbeats 4000000 in
theorem images1K (n : Nat) (hn : 1 ≤ n) (rows : List (List Int)) (word : List Int) (v1 v2 : Value) (vals1 vals2 : List Value) (lo P : Nat) (hP : P < lo) (w0 : World) (r1 : RR w0 lo v1 vals1 (posL rows)) (r2 : RR w0 lo v2 vals2 (negL rows)) (hn12 : rows.length ≤ 12)
    (l Bs Bw b off len cap : Nat) (hlen : len = word.length) (hl2 : len ≤ 1000000) (hlt : ∀ k, k < len → word.getD k 0 ≠ 0 ∧ -(rows.length : Int) ≤ word.getD k 0 ∧ word.getD k 0 ≤ (rows.length : Int))
    (J Jx : List (Fin len) → World → Prop) (BJ : Nat) (hJa : AbidesFrom BJ J)
    (hY : ∀ pre x W, J pre W → pre.length < len → YieldAt Fence.wide (n - 1) Try.prog l (encI vals1 vals2 word len x) W fun e W' =>
      (e = .returned (.bool true) ∧ J (pre ++ [x]) W' ∧ KB w0.heap.size P W W') ∨ (e = .returned (.bool false) ∧ Jx (pre ++ [x]) W'))
    (hb : (b < w0.heap.size ∧ b ≠ P) ∨ len = 0) (hnw : Bw ≠ P) (hns : Bs ≠ P) (hBw : w0.cell? ⟨Bw, 0, none⟩ = some (.slice (some ⟨b, off, none⟩) len cap)) (hB1 : w0.cell? ⟨Bs, 0, none⟩ = some v1) (hB2 : w0.cell? ⟨Bs, 1, none⟩ = some v2) (hc : ∀ j, j < len → w0.cell? ⟨b, off + j, none⟩ = some (.int .i64 (word.getD j 0)))
    (W : World) (hW : KB w0.heap.size P w0 W) (h0 : J [] W) :
    CallsIn Fence.wide n Try.prog 65 #[.func (.yield l) #[] #[], .pointer (some ⟨Bw, 0, none⟩), .pointer (some ⟨Bs, 0, none⟩)] W fun e W' => (∃ v, e = .returned v) ∧
      ((∃ ys : List (Fin len), ys.map (fun i => i.val) = List.range len ∧ J ys W') ∨ (∃ pre : List (Fin len), pre.map (fun i => i.val) = List.range pre.length ∧ Jx pre W')) := by
  have hro : Fence.wide.round = none := rfl
  have HLt := hid hlt
  have HC := hid hc
  have HR1 := hid r1
  have HR2 := hid r2
  have hbw := World.block_lt_of_cell? w0 _ hBw
  have hbs := World.block_lt_of_cell? w0 _ hB1
  have hWw : W.cell? ⟨Bw, 0, none⟩ = some (.slice (some ⟨b, off, none⟩) len cap) := (hW.cell (p := ⟨Bw, 0, none⟩) hbw hnw).trans hBw
  obtain ⟨z1, p1, e1⟩ := rr_val r1
  obtain ⟨z2, p2, e2⟩ := rr_val r2
  generalize (posL rows).length = q1 at e1
  generalize (negL rows).length = q2 at e2
  have HW := hid hW
  clear hlt hc r1 r2 hlen hW
  refine callsIn_of_wp Try.func65 rfl trivial ?_ hro
  simp only [Try.ntmps65, List.size_toArray, List.length_cons, List.length_nil, Nat.reduceAdd, Nat.reduceSub, Array.replicate_succ, Array.replicate_zero, List.push_toArray, List.append_toArray, List.nil_append, List.cons_append]
  gi_wp2
  gi_loopw [8] (fun i wr => ∃ (k : Nat) (pre : List (Fin len)), k ≤ len ∧ i = .int .i64 k ∧ pre.map (fun i => i.val) = List.range k ∧ J pre wr ∧ KB w0.heap.size P w0 wr)
    (fun i _ => len - (intOf i).toNat)
  case atStart => exact ⟨0, [], Nat.zero_le _, rfl, rfl, h0, HW.out⟩
  case round =>
    obtain ⟨k, pre, hk, rfl, hpre, hJs, hnx⟩ := hrel
    have hlp : pre.length = k := by have := congrArg List.length hpre; simpa using this
    by_cases hlt : k < len
    · have hck : wr.cell? ⟨b, off + k, none⟩ = some (.int .i64 (word.getD k 0)) := (hnx.cell (p := ⟨b, off + k, none⟩) (by show b < _; omega) (by show b ≠ P; omega)).trans (HC.out k hlt)
      have hs1 : wr.cell? ⟨Bs, 0, none⟩ = some v1 := (hnx.cell (p := ⟨Bs, 0, none⟩) hbs hns).trans hB1
      have hs2 : wr.cell? ⟨Bs, 1, none⟩ = some v2 := (hnx.cell (p := ⟨Bs, 1, none⟩) hbs hns).trans hB2
      have hg := hnx.grown
      have HIm := hid (imageOf rows v1 v2 vals1 vals2 lo wr (HR1.out.kept hg (HR1.out.ge P hP)) (HR2.out.kept hg (HR2.out.ge P hP)) (word.getD k 0) (HLt.out k hlt) hn12)
      have hJ1 : J pre (wr.alloc (.cells #[v1, v2] 60)) := hJa pre wr _ none hJs ⟨rfl, rfl, rfl, by simp, fun k hk _ => Below.heap_alloc _ _ _ hk⟩ (fun r e => by cases e)
      have hnx1 : KB w0.heap.size P w0 (wr.alloc (.cells #[v1, v2] 60)) := hnx.alloc hnx.size _
      obtain ⟨fn, tmps, assign, body, hy, hR⟩ := hY _ ⟨k, hlt⟩ (wr.alloc (.cells #[v1, v2] 60)) hJ1 (by rw [hlp]; exact hlt)
      dsimp only [encI] at hy
      generalize valOf vals1 vals2 (word.getD k 0) = y at *
      generalize word.getD k 0 = x at *
      subst e1
      subst e2
      clear hg
      gi_wp2_with (refine ⟨trivial, ?_⟩; gi_at_call 66; refine (callsIn_wide.2 HIm.out).mono ?_; rintro e w1 ⟨rfl, rfl⟩)
      refine hR.mono ?_
      rintro e W3 (⟨rfl, hJ3, hk3⟩ | ⟨rfl, hJx3⟩)
      · have hnx3 : KB w0.heap.size P w0 W3 := hnx1.trans hk3
        gi_wp2
        go_roundw
        case rel => exact ⟨k + 1, pre ++ [⟨k, hlt⟩], by omega, by simp, by rw [List.map_append, hpre, List.range_succ]; rfl, hJ3, hnx3⟩
        case measure => simp [intOf]; omega
      · gi_wp2
        refine bodyPost_ret (results_none rfl _ _ _) rfl ?_
        exact ⟨⟨_, rfl⟩, .inr ⟨_, by rw [List.map_append, hpre, List.length_append, hlp, List.length_cons, List.length_nil, List.range_succ]; rfl, hJx3⟩⟩
    · obtain rfl : k = len := by omega
      gi_wp2
      go_end0
      exact ⟨⟨_, rfl⟩, .inl ⟨pre, hpre, hJs⟩⟩

theorem imagesK_stops (n : Nat) (hn : 1 ≤ n) (rows : List (List Int)) (word : List Int) (v1 v2 : Value) (vals1 vals2 : List Value) (lo P : Nat) (hP : P < lo) (w0 : World) (r1 : RR w0 lo v1 vals1 (posL rows)) (r2 : RR w0 lo v2 vals2 (negL rows)) (hn12 : rows.length ≤ 12)
    (Bs Bw b off len cap : Nat) (hlen : len = word.length) (hl2 : len ≤ 1000000) (hlt : ∀ k, k < len → word.getD k 0 ≠ 0 ∧ -(rows.length : Int) ≤ word.getD k 0 ∧ word.getD k 0 ≤ (rows.length : Int))
    (hb : (b < w0.heap.size ∧ b ≠ P) ∨ len = 0) (hnw : Bw ≠ P) (hns : Bs ≠ P) (hBw : w0.cell? ⟨Bw, 0, none⟩ = some (.slice (some ⟨b, off, none⟩) len cap)) (hB1 : w0.cell? ⟨Bs, 0, none⟩ = some v1) (hB2 : w0.cell? ⟨Bs, 1, none⟩ = some v2) (hc : ∀ j, j < len → w0.cell? ⟨b, off + j, none⟩ = some (.int .i64 (word.getD j 0))) :
    SeqStopsK Fence.wide n Try.prog 65 #[.pointer (some ⟨Bw, 0, none⟩), .pointer (some ⟨Bs, 0, none⟩)] (encI vals1 vals2 word len) (KB w0.heap.size P) (fun ys => ys.map (fun i => i.val) = List.range len) (fun pre => pre.map (fun i => i.val) = List.range pre.length) len w0 := fun l J Jx W hW hJ _ hY h0 =>
  images1K n hn rows word v1 v2 vals1 vals2 lo P hP w0 r1 r2 hn12 l Bs Bw b off len cap hlen hl2 hlt J Jx _ hJ hY hb hnw hns hBw hB1 hB2 hc W (KB.ofBelow hW) h0

/-- The stack behind some letters. -/
def stI {n : Nat} (rows : List (List Int)) (word : List Int) (pre : List (Fin n)) : List Int := redL ((pre.map fun i => imL rows (word.getD i.val 0)).flatten)
theorem stI_nil {n : Nat} (rows : List (List Int)) (word : List Int) : stI (n := n) rows word [] = [] := rfl
theorem stI_reduced {n : Nat} (rows : List (List Int)) (word : List Int) (pre : List (Fin n)) : Reduced (stI rows word pre) := red_reduced _
theorem stI_snoc {n : Nat} (rows : List (List Int)) (word : List Int) (pre : List (Fin n)) (i : Fin n) : (imR rows (word.getD i.val 0)).foldl bw.push (stI rows word pre) = stI rows word (pre ++ [i]) := by
  rw [imR, fold_red (stI_reduced rows word pre)]
  simp [stI, redL, List.foldl_append]
theorem stI_take {n : Nat} (rows : List (List Int)) (word : List Int) (hn : n = word.length) (pre : List (Fin n)) (h : pre.map (fun i => i.val) = List.range pre.length) (hl : pre.length ≤ n) (j : Nat) (hj : j ≤ pre.length) : stI rows word (pre.take j) = stA rows word j := by
  have e : ((pre.take j).map fun i => imL rows (word.getD i.val 0)) = (word.take j).map (imL rows) := by
    apply List.ext_getElem
    · simp; omega
    · intro i h1 h2
      simp only [List.length_map, List.length_take] at h1 h2
      have h3 : (pre[i]'(by omega)).val = i := by
        have h4 : (pre.map (fun i => i.val))[i]'(by rw [List.length_map]; omega) = (List.range pre.length)[i]'(by rw [List.length_range]; omega) := by
          congr 1
        simpa using h4
      have h5 : word[i]?.getD 0 = word[i]'(by omega) := by rw [List.getElem?_eq_getElem (by omega)]; rfl
      simp only [List.getElem_map, List.getElem_take, h3, List.getD, h5]
  rw [stI, e]; rfl
theorem stI_fits {n : Nat} (rows : List (List Int)) (word : List Int) (hn : n = word.length) (ys : List (Fin n)) (h : ys.map (fun i => i.val) = List.range n) (hf : ∀ j, j ≤ ys.length → (stI rows word (ys.take j)).length ≤ 20000) : ayB rows word = true ∧ stI rows word ys = ayL rows word := by
  have hl : ys.length = n := by have := congrArg List.length h; simpa using this
  have h' : ys.map (fun i => i.val) = List.range ys.length := by rw [hl]; exact h
  have hy : ayB rows word = true := ay_good fun k hk => by
    have := hf (k + 1) (by omega)
    rwa [stI_take rows word hn ys h' (by omega) (k + 1) (by omega)] at this
  refine ⟨hy, ?_⟩
  have := stI_take rows word hn ys h' (by omega) ys.length (Nat.le_refl _)
  rw [List.take_length] at this
  rw [this, ayL_yes hy, hl, hn]
theorem stI_full {n : Nat} (rows : List (List Int)) (word : List Int) (hn : n = word.length) (pre : List (Fin n)) (h : pre.map (fun i => i.val) = List.range pre.length) (hl : pre.length ≤ n) (hf : ¬ (stI rows word pre).length ≤ 20000) : ayB rows word = false := by
  have h1 := stI_take rows word hn pre h hl pre.length (Nat.le_refl _)
  rw [List.take_length] at h1
  rw [h1] at hf
  have h0 : pre.length ≠ 0 := fun e => by rw [e, stA_zero] at hf; simp at hf
  refine ay_bad (pre.length - 1) (by omega) ?_
  rw [show pre.length - 1 + 1 = pre.length by omega]
  exact hf
theorem pos_at (rows : List (List Int)) (j : Nat) (h : j < rows.length) : (posL rows).getD j [] = redL (rows.getD j []) := by simp [posL, List.getD, h]
theorem neg_at' (rows : List (List Int)) (j : Nat) (h : j < rows.length) : (negL rows).getD j [] = neg (redL (rows.getD j [])) := by simp [negL, List.getD, h]
/-- What a letter's slice holds. -/
theorem valOf_own {rows : List (List Int)} {v1 v2 : Value} {vals1 vals2 : List Value} {lo : Nat} {w : World} (r1 : RR w lo v1 vals1 (posL rows)) (r2 : RR w lo v2 vals2 (negL rows)) (x : Int) (hx : x ≠ 0 ∧ -(rows.length : Int) ≤ x ∧ x ≤ (rows.length : Int)) : sl.Own w lo w.heap.size (valOf vals1 vals2 x) (imR rows x) := by
  by_cases hp : 0 < x
  · have hj : (x - 1).toNat < rows.length := by omega
    have := r1.els (x - 1).toNat (by simp [posL]; omega)
    rw [valOf, if_pos hp, imR_pos rows x hp]
    rwa [pos_at rows _ hj] at this
  · have hj : (-x - 1).toNat < rows.length := by omega
    have := r2.els (-x - 1).toNat (by simp [negL]; omega)
    rw [valOf, if_neg hp, imR_neg rows x hp]
    rwa [neg_at' rows _ hj] at this
theorem imR_small {rows : List (List Int)} (him : imB rows = true) (x : Int) (hx : x ≠ 0 ∧ -(rows.length : Int) ≤ x ∧ x ≤ (rows.length : Int)) : (imR rows x).length ≤ 20000 ∧ fr.Small (imR rows x) ∧ Reduced (imR rows x) := by
  refine ⟨?_, ?_, red_reduced _⟩
  · by_cases hp : 0 < x
    · have h1 := im_rows him (x - 1).toNat (by omega)
      have h2 := redL_len (rows.getD (x - 1).toNat [])
      rw [imR_pos rows x hp]; omega
    · have h1 := im_rows him (-x - 1).toNat (by omega)
      have h2 := redL_len (rows.getD (-x - 1).toNat [])
      rw [imR_neg rows x hp, neg_len]; omega
  · by_cases hp : 0 < x
    · rw [imR_pos rows x hp]; exact small_red (im_rows him (x - 1).toNat (by omega)).2
    · rw [imR_neg rows x hp]; exact small_neg (small_red (im_rows him (-x - 1).toNat (by omega)).2)
end Go.Proofs.Ytfechjhngcmdpab.rr
