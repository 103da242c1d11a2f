/-
  Slices of strings in memory: what a call reads (Strs), what it owns (SOwn); contracts of the laws' helpers eqStringS, markStringS, heldStringS, markText.
-/
import Derived.Test.YtbonccflocogbaaAp
import Derived.Laws.BytesArg
import Derived.Lib.QuietBelow
namespace Go.Proofs.Ytbonccflocogbaa.sg
open Go.RowKit Go.Sort Go.Proofs.Ytbonccflocogbaa.sl
set_option linter.unusedVariables false
set_option linter.unusedSimpArgs false

theorem infoSt : (Try.prog.info? 9).map (fun i => (i.zero, i.size, i.bytes)) = some (some (.string ByteArray.empty), 1, 16) := by kernel_rfl

/-- The value reads as the list; its block lies below B. -/
def Strs (w : World) (B : Nat) (v : Value) (xs : List ByteArray) : Prop :=
  (xs = [] ∧ ∃ ao cap, v = .slice ao 0 cap) ∨
  (0 < xs.length ∧ ∃ b off cap, v = .slice (some ⟨b, off, none⟩) xs.length cap ∧ b < B ∧ ∀ j, j < xs.length → w.cell? ⟨b, off + j, none⟩ = some (.string (xs.getD j ByteArray.empty)))
/-- The value is a slice of the call's own, in a block from lo on and below hi. -/
def SOwn (w : World) (lo hi : Nat) (v : Value) (xs : List ByteArray) : Prop :=
  w.ownsRow lo 9 1 v xs.length (xs.map Value.string) ∧ (∀ g, v.ownBlock = some g → g < hi) ∧ hi ≤ w.heap.size
theorem SOwn.chg {w w' : World} {lo hi l h : Nat} {v : Value} {xs : List ByteArray} (o : SOwn w lo hi v xs) (c : Chg l h w w') (h1 : hi ≤ l ∨ h ≤ lo ∨ h ≤ l) : SOwn w' lo hi v xs := by
  obtain ⟨hown, hlt, hhi⟩ := o
  refine ⟨⟨hown.1, ?_⟩, hlt, Nat.le_trans hhi c.size⟩
  rcases hown.2 with hn | ⟨g, cap, cur, rfl, hb, hg, rest⟩
  · exact .inl hn
  · have hgh := hlt g rfl
    refine .inr ⟨g, cap, cur, rfl, hb, ?_, rest⟩
    rw [c.block g (by omega) (by omega)]
    exact hg
theorem SOwn.below {w w' : World} {lo hi : Nat} {v : Value} {xs : List ByteArray} (o : SOwn w lo hi v xs) (b : Below w.heap.size w w') : SOwn w' lo hi v xs :=
  o.chg (Chg.ofBelow (lo := 0) b) (.inr (.inr (Nat.zero_le _)))
theorem SOwn.hi {w : World} {lo hi hi' : Nat} {v : Value} {xs : List ByteArray} (o : SOwn w lo hi v xs) (h : hi ≤ hi') (h2 : hi' ≤ w.heap.size) : SOwn w lo hi' v xs :=
  ⟨o.1, fun g hg => Nat.lt_of_lt_of_le (o.2.1 g hg) h, h2⟩
theorem SOwn.strs {w : World} {lo hi : Nat} {v : Value} {xs : List ByteArray} (o : SOwn w lo hi v xs) : Strs w hi v xs := by
  obtain ⟨hown, hlt, hhi⟩ := o
  have hown0 := hown
  rcases hown.2 with ⟨hv, hn⟩ | ⟨g, cap, cur, hv, hb, hg, hc, _⟩
  · exact .inl ⟨List.length_eq_zero_iff.1 hn, none, 0, hv⟩
  · subst hv
    by_cases hx : xs = []
    · subst hx; exact .inl ⟨rfl, _, _, rfl⟩
    · have hp : 0 < xs.length := List.length_pos_iff.2 hx
      refine .inr ⟨hp, g, 0, cap, rfl, hlt g rfl, fun j hj => ?_⟩
      rw [Nat.zero_add, hown0.cellAt j (by omega)]
      simp [List.getD, List.getElem?_eq_getElem hj]
theorem SOwn.mk' {w : World} {lo : Nat} {v : Value} {xs : List ByteArray} (h : w.ownsRow lo 9 1 v xs.length (xs.map Value.string)) : SOwn w lo w.heap.size v xs :=
  ⟨h, fun g hg => (h.lt g hg).2, Nat.le_refl _⟩
theorem SOwn.lo {w : World} {lo lo' hi : Nat} {v : Value} {xs : List ByteArray} (o : SOwn w lo hi v xs) (h : lo' ≤ lo) : SOwn w lo' hi v xs := by
  obtain ⟨hown, hlt, hhi⟩ := o
  refine ⟨⟨hown.1, ?_⟩, hlt, hhi⟩
  rcases hown.2 with hn | ⟨g, cap, cur, hv, hb, r⟩
  · exact .inl hn
  · exact .inr ⟨g, cap, cur, hv, Nat.le_trans h hb, r⟩
theorem SOwn.val {w : World} {lo hi : Nat} {v : Value} {xs : List ByteArray} (o : SOwn w lo hi v xs) : ∃ ao cap, v = .slice ao xs.length cap := by
  rcases o.1.2 with ⟨h1, h2⟩ | ⟨g, c, cur, h1, _⟩
  · exact ⟨none, 0, by rw [h1, h2]⟩
  · exact ⟨_, c, h1⟩
theorem strs_val {w : World} {B : Nat} {v : Value} {xs : List ByteArray} (h : Strs w B v xs) : ∃ ao cap, v = .slice ao xs.length cap := by
  rcases h with ⟨rfl, ao, cap, rfl⟩ | ⟨hp, b, off, cap, rfl, _⟩ <;> exact ⟨_, _, rfl⟩

set_option maxRecDepth 20000 in
theorem eqSt (xs : List ByteArray) (v u : Value) (B C : Nat) (w : World) (ha : Strs w B v xs) (hb : Strs w C u xs) (hn : xs.length ≤ 1099511627776) :
    Calls Try.prog 6 #[v, u] w fun e w' => e = .returned (.bool true) ∧ Below w.heap.size w w' := by
  by_cases hp : xs = []
  · subst hp
    obtain ⟨ao, cap, rfl⟩ := strs_val ha
    obtain ⟨ao', cap', rfl⟩ := strs_val hb
    clear ha hb
    go_enter Try.func6, Try.ntmps6
    go_wp2
    refine wp_loop_rounds 1 ?_
    rw [rounds_succ]
    go_wp2
    go_ret
    exact ⟨rfl, Below.refl _ _⟩
  · rcases ha with ⟨h, _⟩ | ⟨hp1, b, off, cap, rfl, hbb, hc⟩
    · exact absurd h hp
    rcases hb with ⟨h, _⟩ | ⟨hp2, b', off', cap', rfl, hbb', hc'⟩
    · exact absurd h hp
    have HC := hid hc
    have HC' := hid hc'
    clear hc hc' hp hp2
    obtain ⟨n, hnn⟩ : ∃ n, n = xs.length := ⟨_, rfl⟩
    rw [← hnn] at hp1 hn HC HC' ⊢
    clear hnn
    go_enter Try.func6, Try.ntmps6
    go_wp2
    go_loopw [5] (fun i wr => ∃ k : Nat, k ≤ n ∧ i = .int .i64 k ∧ Below w.heap.size w wr) (fun i _ => n - (intOf i).toNat)
    case atStart => exact ⟨0, Nat.zero_le _, rfl, Below.refl _ _⟩
    case round =>
      obtain ⟨k, hk, rfl, hbel⟩ := hrel
      have HB := hid hbel
      clear hbel
      by_cases hlt : k < n
      · have c0 := HC.out k hlt
        have h1 := (HB.out.cell (p := ⟨b, off + k, none⟩) (World.block_lt_of_cell? w _ c0)).trans c0
        have c1 := HC'.out k hlt
        have h2 := (HB.out.cell (p := ⟨b', off' + k, none⟩) (World.block_lt_of_cell? w _ c1)).trans c1
        generalize xs.getD k ByteArray.empty = x at *
        clear c0 c1
        go_wp2
        go_quiet (fail)
        go_wp2
        go_roundw
        case rel => exact ⟨k + 1, by omega, by go_num, bdrewN HB.out _⟩
        case measure => simp [intOf]; omega
      · obtain rfl : k = n := by omega
        go_wp2
        go_ret
        exact ⟨rfl, HB.out⟩

/-- append(rows, x): one string. -/
theorem wp_appS {ops : Array Oper} {rest : List Oper} {o : Oper} {a : Act} {Q : Exit → Act → World → Prop} {w : World} (hgd : o.guard = none) (s x : Operand)
    (hop : o.op = .call { callee := .builtin .append, args := #[s, x], argTypes := #[22, 22] })
    (lo hi : Nat) (v : Value) (xs : List ByteArray) (x0 : ByteArray) (ho : SOwn w lo hi v xs) (hs : a.eval s = v) (hx : a.eval x = .slice (some ⟨w.heap.size, 0, none⟩) 1 1) (hlo : lo ≤ w.heap.size) (hn : xs.length ≤ 1099511627776)
    (hK : ∀ v' w', SOwn w' lo w'.heap.size v' (xs ++ [x0]) → Chg lo hi w w' → w.heap.size < w'.heap.size → wpList Try.prog ops Q rest (a.put o.dst v') w') : wpList Try.prog ops Q (o :: rest) a (w.alloc (.cells #[.string x0] 9)) := by
  obtain ⟨i0, hi', hz0, hz1, hz2⟩ := info_parts infoSt
  refine wpList_append_own _ hgd s x 22 hop lo 9 i0 (.string ByteArray.empty) 1 16 Try.underlying22 hi' hz0 hz1 hz2 rfl (by decide) v xs.length (xs.map Value.string) hs (ho.1.alloc _) ⟨w.heap.size, 0, none⟩ 1 1 [.string x0] hx rfl ?_ ?_ ?_ ?_ ?_ ?_
  · intro j u hj
    match j, hj with
    | 0, hj =>
      simp only [List.getElem?_cons_zero, Option.some.injEq] at hj
      subst hj
      rw [Addr.add_lit, World.cell?_alloc_at _ _ _ _ rfl]; rfl
  · intro u hu; simp at hu; subst hu; rfl
  · unfold maxLen; omega
  · omega
  · simp; omega
  · intro v' w' h1 h2 _
    have hsz : w.heap.size + 1 ≤ w'.heap.size := by have := h2.size; simpa using this
    refine hK v' w' (SOwn.mk' (by simpa using h1)) ⟨h2.os, h2.tape, h2.output, by omega, fun k hk hk' => ?_⟩ (by omega)
    rw [h2.block k (by simp; omega) (by intro e; have h3 := ho.2.1 k e.symm; have h4 := (ho.1.lt k e.symm).1; exact hk' ⟨h4, h3⟩)]
    exact Below.heap_alloc _ _ _ hk
theorem SOwn.built (w : World) : SOwn (w.alloc (.cells #[] 9)) w.heap.size (w.alloc (.cells #[] 9)).heap.size (.slice (some ⟨w.heap.size, 0, none⟩) 0 0) [] :=
  SOwn.mk' (World.ownsRow_made w #[] 0 (Nat.le_refl _) (by unfold maxLen; omega) (by simp))

/-- A mark's digits ahead of a text. -/
def mtGo : Nat → Nat → ByteArray → ByteArray
  | 0, _, out => out
  | n + 1, k, out => if k = 0 then out else mtGo n (k / 10) (strOfNums [48 + (k : Int) % 10] ++ out)
theorem mtGo_fix : ∀ (n m k : Nat) (out : ByteArray), k < n → k < m → mtGo n k out = mtGo m k out
  | 0, _, k, out, h, _ => by omega
  | n + 1, 0, k, out, _, h => by omega
  | n + 1, m + 1, k, out, h1, h2 => by
    unfold mtGo
    by_cases h : k = 0
    · rw [if_pos h, if_pos h]
    · rw [if_neg h, if_neg h]
      exact mtGo_fix n m (k / 10) _ (by omega) (by omega)
theorem mtGo_step (k : Nat) (out : ByteArray) (h : ¬ k = 0) : mtGo (k + 1) k out = mtGo (k / 10 + 1) (k / 10) (strOfNums [48 + (k : Int) % 10] ++ out) := by
  have e : mtGo (k + 1) k out = mtGo k (k / 10) (strOfNums [48 + (k : Int) % 10] ++ out) := by rw [mtGo]; exact if_neg h
  rw [e]
  exact mtGo_fix _ _ _ _ (by omega) (by omega)
theorem mtGo_zero (n : Nat) (out : ByteArray) : mtGo (n + 1) 0 out = out := by rw [mtGo]; exact if_pos rfl
def mt (k : Nat) : ByteArray := ByteArray.mk #[109] ++ mtGo (k + 1) k ByteArray.empty
set_option maxRecDepth 20000 in
theorem mtC (k0 : Nat) (hk : 0 < k0) (hb : k0 ≤ 1099511627776) (w : World) :
    Calls Try.prog 12 #[.int .i64 (k0 : Int)] w fun e w' => e = .returned (.string (mt k0)) ∧ Below w.heap.size w w' := by
  have HM : Hid (mt k0 = ByteArray.mk #[109] ++ mtGo (k0 + 1) k0 ByteArray.empty) := hid rfl
  have hk0 : ¬ (k0 : Int) ≤ 0 := by omega
  go_enter Try.func12, Try.ntmps12
  go_wp2
  go_loopw [0, 3] (fun q o wr => ∃ (k : Nat) (out : ByteArray), k ≤ k0 ∧ q = .int .i64 (k : Int) ∧ o = .string out ∧ out.size + k ≤ k0 ∧ mtGo (k + 1) k out = mtGo (k0 + 1) k0 ByteArray.empty ∧ Below w.heap.size w wr) (fun q _ _ => (intOf q).toNat)
  case atStart => exact ⟨k0, ByteArray.empty, Nat.le_refl _, rfl, rfl, by simp, rfl, Below.refl _ _⟩
  case round =>
    obtain ⟨k, out, hkk, rfl, rfl, hos, hst, hbel⟩ := hrel
    have HSt := hid hst
    have HB := hid hbel
    clear hst hbel
    by_cases hlt : 0 < k
    · have hki : (0 : Int) < (k : Int) := by omega
      have hcv := run_convert_bytes_arg (P := Try.prog) (wr.alloc (.cells #[.int .u8 (48 + (k : Int) % 10)] 5)) 34 5 Try.underlying34 Try.underlying5 wr.heap.size 0 1 1 [48 + (k : Int) % 10] rfl (fun i hi => by
        match i, hi with
        | 0, _ => exact World.cell?_alloc_at _ _ _ _ rfl) 9 Try.underlying9
      have HS2 : Hid (mtGo (k / 10 + 1) (k / 10) (strOfNums [48 + (k : Int) % 10] ++ out) = mtGo (k0 + 1) k0 ByteArray.empty) := hid (by
        rw [← HSt.out]
        exact (mtGo_step k out (by omega)).symm)
      have hdg : (strOfNums [48 + (k : Int) % 10]).size = 1 := by simp [strOfNums, ByteArray.size]
      generalize strOfNums [48 + (k : Int) % 10] = dg at *
      have hsum : dg.size + out.size ≤ 2199023255552 := by omega
      have hsz : (dg ++ out).size = 1 + out.size := by rw [ByteArray.size_append, hdg]
      clear hdg
      go_wp2
      go_roundw
      case rel => exact ⟨k / 10, dg ++ out, by omega, by congr 1, rfl, by rw [hsz]; omega, HS2.out, HB.out.alloc HB.out.size _⟩
      case measure => simp [intOf]; omega
    · have hkd : decide (0 < k) = false := decide_eq_false hlt
      have HE : Hid (mtGo (k0 + 1) k0 ByteArray.empty = out) := hid (by rw [← HSt.out, show k = 0 by omega]; exact mtGo_zero _ _)
      clear hlt
      go_wp2
      go_ret
      exact ⟨by rw [HM.out, HE.out]; rfl, HB.out⟩

def marksT (k n : Nat) : List ByteArray := (List.range n).map fun j => mt (k + j)
theorem marksT_len (k n : Nat) : (marksT k n).length = n := by simp [marksT]
theorem marksT_at (k n j : Nat) (h : j < n) : (marksT k n).getD j ByteArray.empty = mt (k + j) := by simp [marksT, List.getD, h]
def markedT (xs : List ByteArray) (k j : Nat) : List ByteArray := marksT k j ++ xs.drop j
theorem markedT_zero (xs : List ByteArray) (k : Nat) : markedT xs k 0 = xs := by simp [markedT, marksT]
theorem markedT_all (xs : List ByteArray) (k : Nat) : markedT xs k xs.length = marksT k xs.length := by simp [markedT]
theorem markedT_len (xs : List ByteArray) (k j : Nat) (h : j ≤ xs.length) : (markedT xs k j).length = xs.length := by simp [markedT, marksT_len]; omega
theorem markedT_set (xs : List ByteArray) (k j : Nat) (h : j < xs.length) : (markedT xs k j).set j (mt (k + j)) = markedT xs k (j + 1) := by
  unfold markedT
  rw [List.set_append_right _ _ (by simp [marksT_len])]
  have e1 : j - (marksT k j).length = 0 := by simp [marksT_len]
  have e3 : marksT k (j + 1) = marksT k j ++ [mt (k + j)] := by simp [marksT, List.range_succ]
  rw [e1, e3, List.drop_eq_getElem_cons h, List.set_cons_zero, List.append_assoc]
  rfl
set_option maxRecDepth 20000 in
theorem markSt (xs : List ByteArray) (v : Value) (lo hi : Nat) (k0 : Nat) (w : World) (ho : SOwn w lo hi v xs) (hn : xs.length ≤ 1073741824) (hk0 : 0 < k0) (hk1 : k0 ≤ 1048576) :
    Calls Try.prog 7 #[v, .int .i64 (k0 : Int)] w fun e w' => e = .returned (.int .i64 ((k0 : Int) + (xs.length : Int))) ∧ SOwn w' lo hi v (marksT k0 xs.length) ∧ Chg lo hi w w' := by
  obtain ⟨hown, hlt, hhi⟩ := ho
  by_cases hp : xs = []
  · subst hp
    obtain ⟨ao, cap, rfl⟩ : ∃ ao cap, v = .slice ao 0 cap := by
      rcases hown.2 with ⟨rfl, _⟩ | ⟨g, cap, cur, rfl, _⟩ <;> exact ⟨_, _, rfl⟩
    go_enter Try.func7, Try.ntmps7
    go_wp2
    refine wp_loop_rounds 1 ?_
    rw [rounds_succ]
    go_wp2
    go_ret
    exact ⟨by simp, ⟨hown, hlt, hhi⟩, ⟨rfl, rfl, rfl, Nat.le_refl _, fun _ _ _ => rfl⟩⟩
  · have hp' : 0 < xs.length := List.length_pos_iff.2 hp
    obtain ⟨g, cap, rfl⟩ : ∃ g cap, v = .slice (some ⟨g, 0, none⟩) xs.length cap := by
      rcases hown.2 with ⟨_, h0⟩ | ⟨g, cap, cur, rfl, _⟩
      · omega
      · exact ⟨_, _, rfl⟩
    have hglo := (hown.lt g rfl).1
    have hghi := hlt g rfl
    have HO0 : Hid (SOwn w lo hi (.slice (some ⟨g, 0, none⟩) xs.length cap) (markedT xs k0 0)) := hid (by rw [markedT_zero]; exact ⟨hown, hlt, hhi⟩)
    have HSt := hid (markedT_set xs k0)
    have HLn := hid (markedT_len xs k0)
    have HAll := hid (markedT_all xs k0)
    have hstore : ∀ (W : World) (j : Nat) (y : ByteArray) (L : List ByteArray), SOwn W lo hi (.slice (some ⟨g, 0, none⟩) xs.length cap) L → L.length = xs.length → SOwn (W.setCell ⟨g, j, none⟩ (.string y)) lo hi (.slice (some ⟨g, 0, none⟩) xs.length cap) (L.set j y) ∧ Chg lo hi W (W.setCell ⟨g, j, none⟩ (.string y)) := by
      intro W j y L o hL
      obtain ⟨h1, h2, h3⟩ := o
      rw [hL] at h1
      have hst := h1.stored j (.string y)
      rw [← List.map_set] at hst
      refine ⟨⟨by rw [List.length_set, hL]; exact hst.1, h2, by simpa using h3⟩, hst.2.os, hst.2.tape, hst.2.output, hst.2.size, fun q hq hq' => hst.2.block q hq (by intro e; cases e; exact hq' ⟨hglo, hghi⟩)⟩
    have HStore := hid hstore
    clear hstore
    have hcells : ∀ (W : World) (j : Nat) (L : List ByteArray), SOwn W lo hi (.slice (some ⟨g, 0, none⟩) xs.length cap) L → L.length = xs.length → j < xs.length → W.cell? ⟨g, j, none⟩ = some (.string (L.getD j ByteArray.empty)) ∧ W.frozen? ⟨g, j, none⟩ = false := by
      intro W j L o hL hj
      have h1 := o.1
      rw [hL] at h1
      refine ⟨?_, h1.frozenAt j⟩
      rw [h1.cellAt j (by omega)]
      simp [List.getD, List.getElem?_eq_getElem (show j < L.length by omega)]
    have HCells := hid hcells
    clear hcells
    obtain ⟨n, hnn⟩ : ∃ n, n = xs.length := ⟨_, rfl⟩
    rw [← hnn] at hp' hn HO0 HStore HCells HSt HLn HAll ⊢
    clear hnn hp hlt hown hhi
    go_enter Try.func7, Try.ntmps7
    go_wp2
    go_loopw [1, 5] (fun q i wr => ∃ k : Nat, k ≤ n ∧ i = .int .i64 k ∧ q = .int .i64 ((k0 : Int) + k) ∧ SOwn wr lo hi (.slice (some ⟨g, 0, none⟩) n cap) (markedT xs k0 k) ∧ Chg lo hi w wr) (fun _ i _ => n - (intOf i).toNat)
    case atStart => exact ⟨0, Nat.zero_le _, rfl, by simp, HO0.out, ⟨rfl, rfl, rfl, Nat.le_refl _, fun _ _ _ => rfl⟩⟩
    case round =>
      obtain ⟨k, hk, rfl, rfl, ho, hc⟩ := hrel
      have HO := hid ho
      have HCg := hid hc
      clear ho hc HO0
      by_cases hltk : k < n
      · have HMt := hid (mtC (k0 + k) (by omega) (by omega) wr)
        have e0 : (((k0 + k : Nat) : Int)) = (k0 : Int) + (k : Int) := by omega
        rw [e0] at HMt
        have HSk := hid (HSt.out k hltk)
        have HLk := hid (HLn.out k (by omega))
        generalize mt (k0 + k) = y at *
        clear e0
        go_wp2_with fail
        refine HMt.out.mono ?_
        rintro e w2 ⟨rfl, b2⟩
        have HO2 := hid (HO.out.below b2)
        have HC2 : Hid (Chg lo hi w w2) := hid (HCg.out.trans ⟨b2.os, b2.tape, b2.output, b2.size, fun q hq _ => b2.block q hq⟩)
        obtain ⟨hcl, hfr⟩ := HCells.out w2 k _ HO2.out HLk.out hltk
        obtain ⟨ho3, hc3⟩ := HStore.out w2 k y _ HO2.out HLk.out
        rw [HSk.out] at ho3
        have HO3 := hid ho3
        have HC3 := hid (HC2.out.trans hc3)
        clear b2 ho3 hc3
        go_wp2
        go_roundw
        case rel => exact ⟨k + 1, by omega, by go_num, by go_num, HO3.out, HC3.out⟩
        case measure => simp [intOf]; omega
      · obtain rfl : k = n := by omega
        go_wp2
        go_ret
        exact ⟨rfl, by rw [← HAll.out]; exact HO.out, HCg.out⟩
set_option maxRecDepth 20000 in
theorem heldSt (n : Nat) (v : Value) (B : Nat) (k0 : Nat) (w : World) (ha : Strs w B v (marksT k0 n)) (hn : n ≤ 1073741824) (hk0 : 0 < k0) (hk1 : k0 ≤ 1048576) :
    Calls Try.prog 8 #[v, .int .i64 (k0 : Int)] w fun e w' => e = .returned (.int .i64 ((k0 : Int) + (n : Int))) ∧ Below w.heap.size w w' := by
  rcases ha with ⟨h0, ao, cap, rfl⟩ | ⟨hp, b, off, cap, rfl, hb', hc⟩
  · obtain rfl : n = 0 := by have := congrArg List.length h0; simpa [marksT_len] using this
    go_enter Try.func8, Try.ntmps8
    go_wp2
    refine wp_loop_rounds 1 ?_
    rw [rounds_succ]
    go_wp2
    go_ret
    exact ⟨by simp, Below.refl _ _⟩
  · rw [marksT_len] at hp hc ⊢
    have HC : Hid (∀ j, j < n → w.cell? ⟨b, off + j, none⟩ = some (.string (mt (k0 + j)))) := hid fun j hj => by rw [hc j hj, marksT_at k0 n j hj]
    clear hc
    have mixed : Try.prog.follows .mixedOrders = true := by kernel_rfl
    go_enter Try.func8, Try.ntmps8
    go_wp2
    go_loopw [1, 5] (fun q i wr => ∃ k : Nat, k ≤ n ∧ i = .int .i64 k ∧ q = .int .i64 ((k0 : Int) + k) ∧ Below w.heap.size w wr) (fun _ i _ => n - (intOf i).toNat)
    case atStart => exact ⟨0, Nat.zero_le _, rfl, by simp, Below.refl _ _⟩
    case round =>
      obtain ⟨k, hk, rfl, rfl, hbel⟩ := hrel
      have HB := hid hbel
      clear hbel
      by_cases hltk : k < n
      · have c0 := HC.out k hltk
        have HMt := hid (fun W => mtC (k0 + k) (by omega) (by omega) W)
        have e0 : (((k0 + k : Nat) : Int)) = (k0 : Int) + (k : Int) := by omega
        rw [e0] at HMt
        have c1 := fun d os => cell_regrown ((HB.out.cell (p := ⟨b, off + k, none⟩) (World.block_lt_of_cell? w _ c0)).trans c0) d os
        generalize mt (k0 + k) = y at *
        clear e0 c0
        go_wp2_with fail
        refine wp_region_quiet_below mixed (by kernel_rfl) ?_
        repeat (go_big_quiet_step ((go_at_call 12; exact Calls.regrown_of (HMt.out _))))
        refine wpQuiet_nil ?_
        intro _ hw'
        obtain ⟨⟨nq, osq⟩, hw''⟩ := hw'
        subst hw''
        clear c1 HMt
        have HB2 := hid (HB.out.trans ((below_regrown wr nq osq).mono HB.out.size))
        generalize grow (redrawn wr nq) osq = W2 at *
        go_wp2
        go_roundw
        case rel => exact ⟨k + 1, by omega, by go_num, by go_num, HB2.out⟩
        case measure => simp [intOf]; omega
      · obtain rfl : k = n := by omega
        go_wp2
        go_ret
        exact ⟨rfl, HB.out⟩
end Go.Proofs.Ytbonccflocogbaa.sg
