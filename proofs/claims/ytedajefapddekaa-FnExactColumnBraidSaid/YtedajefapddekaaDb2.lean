/-
  DoubleBraid: blockWords of the program.
-/
import Derived.Test.YtedajefapddekaaDb1
import Derived.Laws.EntriesVeiled
namespace Go.Proofs.Ytedajefapddekaa.db
open Go.RowKit Go.Proofs.Ytedajefapddekaa.sl Go.Proofs.Ytedajefapddekaa.pm Go.Proofs.Ytedajefapddekaa.fn Go.Proofs.Ytedajefapddekaa.br Go.Proofs.Ytedajefapddekaa.bw Go.Proofs.Ytedajefapddekaa.wk
set_option linter.unusedVariables false

theorem sr_chg {W W' : World} {lo l h : Nat} {v : Value} {vals : List Value} {L : List (List Int)} (s : SR W lo v vals L) (c : Chg l h W W') (hh : h ≤ lo) : SR W' lo v vals L := by
  obtain ⟨Lo, Hi, he⟩ := s.els
  refine ⟨s.len, ⟨s.row.1, ?_⟩, Lo, Hi, fun j hj => ?_⟩
  · rcases s.row.2 with h1 | ⟨g, cap, cur, hv, hb, hg, hr⟩
    · exact .inl h1
    · have hlt := (s.row.lt g (by rw [hv]; rfl)).2
      exact .inr ⟨g, cap, cur, hv, hb, by rw [c.block g hlt (by omega)]; exact hg, hr⟩
  · obtain ⟨a1, a2, a3⟩ := he j hj
    exact ⟨a1.chg c (by omega), a2, a3⟩
/-- One row more; the world has changed below. -/
theorem sr_app {Wr W1 W2 W' : World} {lo l h : Nat} {v v' y : Value} {vals : List Value} {L : List (List Int)} {r : List Int} (s : SR Wr lo v vals L) (c : Chg l h Wr W1) (hh : h ≤ lo) (oy : sl.Own W1 Wr.heap.size W1.heap.size y r) (b2 : Below W1.heap.size W1 W2) (hlo : lo ≤ Wr.heap.size)
    (hr : W'.ownsRow lo 30 1 v' (L.length + 1) (vals ++ [y])) (hg : W2.grownBy W' v.ownBlock) (h5 : v'.ownBlock = v.ownBlock ∨ v'.ownBlock = some W2.heap.size) : SR W' lo v' (vals ++ [y]) (L ++ [r]) := by
  have hs1 := c.size
  have hs2 := b2.size
  have oy2 : sl.Own W2 Wr.heap.size W1.heap.size y r := oy.chg (Chg.ofBelow (lo := 0) b2) (.inr (.inr (Nat.zero_le _)))
  obtain ⟨Lo, Hi, he⟩ := s.els
  have hlt : ∀ k, v.ownBlock = some k → k < Wr.heap.size := fun k hk => (s.row.lt k hk).2
  refine ⟨by simp [s.len], by simpa using hr, fun j => if j < L.length then Lo j else Wr.heap.size, fun j => if j < L.length then Hi j else W1.heap.size, fun j hj => ?_⟩
  simp only [List.length_append, List.length_cons, List.length_nil, Nat.zero_add] at hj
  by_cases hl : j < L.length
  · have hl' : j < vals.length := by rw [s.len]; exact hl
    have e1 : (vals ++ [y]).getD j (.bool false) = vals.getD j (.bool false) := by simp [List.getD, List.getElem?_append_left hl']
    have e2 : (L ++ [r]).getD j [] = L.getD j [] := by simp [List.getD, List.getElem?_append_left hl]
    obtain ⟨a1, a2, a3, a4⟩ := he j hl
    have hh1 := a1.2.2
    have o2 : sl.Own W2 (Lo j) (Hi j) (vals.getD j (.bool false)) (L.getD j []) := (a1.chg c (by omega)).chg (Chg.ofBelow (lo := 0) b2) (.inr (.inr (Nat.zero_le _)))
    rw [e1, e2]
    simp only [if_pos hl]
    refine ⟨own_by o2 hg a3, a2, fun g e => ?_, fun i hi => ?_⟩
    · rcases h5 with h5 | h5
      · exact a3 g (by rw [← h5]; exact e)
      · rw [h5] at e
        simp only [Option.some.injEq] at e
        omega
    · rw [if_pos (show i < L.length by omega)]
      rw [if_pos (show i < L.length by omega)]
      exact a4 i hi
  · obtain rfl : j = L.length := by omega
    have e1 : (vals ++ [y]).getD L.length (.bool false) = y := by rw [← s.len]; simp [List.getD]
    have e2 : (L ++ [r]).getD L.length [] = r := by simp [List.getD]
    rw [e1, e2]
    simp only [if_neg (Nat.lt_irrefl _)]
    refine ⟨own_by oy2 hg fun k hk => .inl (hlt k hk), hlo, fun g e => ?_, fun i hi => ?_⟩
    · rcases h5 with h5 | h5
      · exact .inl (hlt g (by rw [← h5]; exact e))
      · rw [h5] at e
        simp only [Option.some.injEq] at e
        omega
    · simp only [if_pos hi]
      have := (he i hi).1.2.2
      omega
theorem wp_appRC {ops : Array Oper} {rest : List Oper} {o : Oper} {a : Act} {Q : Exit → Act → World → Prop} {Wr W1 : World} (hgd : o.guard = none) (s x : Operand)
    (hop : o.op = .call { callee := .builtin .append, args := #[s, x], argTypes := #[88, 88] })
    (lo l hh : Nat) (v y : Value) (vals : List Value) (L : List (List Int)) (r : List Int) (h : SR Wr lo v vals L) (c : Chg l hh Wr W1) (hhl : hh ≤ lo) (oy : sl.Own W1 Wr.heap.size W1.heap.size y r) (hy1 : y.oneCell' = true) (hs : a.eval s = v) (hx : a.eval x = .slice (some ⟨W1.heap.size, 0, none⟩) 1 1) (hlo : lo ≤ Wr.heap.size) (hn : L.length ≤ 1048576)
    (hK : ∀ v' w', SR w' lo v' (vals ++ [y]) (L ++ [r]) → Below lo W1 w' → wpList Try.prog ops Q rest (a.put o.dst v') w') : wpList Try.prog ops Q (o :: rest) a (W1.alloc (.cells #[y] 30)) := by
  obtain ⟨i0, hi', hz0, hz1, hz2⟩ := info_parts ss.infoS
  have b2 : Below W1.heap.size W1 (W1.alloc (.cells #[y] 30)) := (Below.refl _ _).alloc (Nat.le_refl _) _
  have hs1 := c.size
  have ho := ((sr_chg h c hhl).below b2).row
  obtain ⟨v', w', hr, h2, h3, h4, h5⟩ := run_append_own_at (P := Try.prog) (W1.alloc (.cells #[y] 30)) lo 88 o.type 30 i0 (.slice none 0 0) 1 24 Try.underlying88 hi' hz0 hz1 hz2 rfl (by decide) v L.length vals ho ⟨W1.heap.size, 0, none⟩ 1 1 [y] (by simp)
    (fun j u hj => by
      match j, hj with
      | 0, hj =>
        simp only [List.getElem?_cons_zero, Option.some.injEq] at hj
        subst hj
        rw [Addr.add_lit, World.cell?_alloc_at _ _ _ _ rfl]; rfl)
    (fun u hu => by simp at hu; subst hu; exact hy1) (by unfold maxLen; omega) (by omega) (by simp; omega)
  refine wpList_plain hgd fun K hKK => ?_
  unfold Oper.wp execOp
  simp only [hop, resolve, invoke, builtin, Sem.run_bind, Sem.run_pure, Result.andThen_ok, List.map_toArray, List.map_cons, List.map_nil, hs, hx, hr]
  refine hKK _ _ (hK v' w' (sr_app h c hhl oy b2 hlo h2 h3 h5) ⟨h3.os, h3.tape, h3.output, Nat.le_trans b2.size h3.size, fun k hk => ?_⟩)
  rw [h3.block k (by have := b2.size; omega) (by intro e; have := (h.row.lt k e.symm).1; omega)]
  exact b2.block k (by omega)
theorem sr_pos {w : World} {lo : Nat} {v : Value} {vals : List Value} {L : List (List Int)} (h : SR w lo v vals L) (hL : 0 < L.length) : ∃ g c, v = .slice (some ⟨g, 0, none⟩) L.length c ∧ g < w.heap.size := by
  rcases h.row.2 with ⟨_, h0⟩ | ⟨g, c, cur, h1, h2, h3, _⟩
  · omega
  · exact ⟨g, c, h1, (Array.getElem?_eq_some_iff.1 h3).1⟩
theorem sr_wds {w : World} {lo g c : Nat} {vals : List Value} {L : List (List Int)} (h : SR w lo (.slice (some ⟨g, 0, none⟩) L.length c) vals L) : Wds w w.heap.size g L := by
  intro j hj
  obtain ⟨Lo, Hi, he⟩ := h.els
  have o := (he j hj).1
  obtain ⟨ao, cap, hv⟩ := br.own_val o
  have h1 := h.row.cells (g := g) rfl j (vals.getD j (.bool false)) (by
    have hj' : j < vals.length := by rw [h.len]; exact hj
    simp [List.getD, List.getElem?_eq_getElem hj'])
  rw [Addr.add_lit] at h1
  simp only [Nat.zero_add] at h1
  rw [hv] at h1 o
  exact ⟨ao, cap, by simpa using h1, o.ints.mono o.2.2, nilok_own o⟩
def rowsL (sizes word : List Int) (k : Nat) : List (List Int) := (List.range k).map fun j => dbL sizes word j
theorem rows_succ (sizes word : List Int) (k : Nat) : rowsL sizes word (k + 1) = rowsL sizes word k ++ [dbL sizes word k] := by simp [rowsL, List.range_succ]
theorem rows_len (sizes word : List Int) (k : Nat) : (rowsL sizes word k).length = k := by simp [rowsL]
theorem rows_flat (sizes word : List Int) (k : Nat) : (rowsL sizes word k).flatten = dbW sizes word k := rfl

/-- Where a letter stands: its place. -/
theorem ab_place {s : Nat} {x : Int} (h : x ≠ 0 ∧ 1 - (s : Int) ≤ x ∧ x ≤ (s : Int) - 1) : ∃ q : Nat, ab x = (q : Int) + 1 ∧ q + 1 < s ∧ (ab x - 1).toNat = q := by
  obtain ⟨h0, h1, h2⟩ := h
  have : 1 ≤ ab x ∧ ab x ≤ (s : Int) - 1 := by unfold ab; split <;> omega
  exact ⟨(ab x - 1).toNat, by omega, by omega, rfl⟩

set_option maxRecDepth 100000 in
set_option maxHeartbeats 4000000 in
theorem blockWordsC (word sizes : List Int) (vl vs : Value) (Bl Bs : Nat) (w : World) (hl : Ints w Bl vl word) (hs : Ints w Bs vs sizes) (hBl : Bl ≤ w.heap.size) (hBs : Bs ≤ w.heap.size) (hnil : NilOk vs) (hok : ∀ j, j < word.length → word.getD j 0 ≠ 0 ∧ 1 - (sizes.length : Int) ≤ word.getD j 0 ∧ word.getD j 0 ≤ (sizes.length : Int) - 1) (hn : word.length ≤ 40) (hm : sizes.length ≤ 12) (hsm : Sm sizes) :
    Calls Try.prog 72 #[vl, vs] w fun e w' => ∃ g c, e = .returned (.slice (some ⟨g, 0, none⟩) word.length c) ∧ (∃ vals, SR w' w.heap.size (.slice (some ⟨g, 0, none⟩) word.length c) vals (rowsL sizes word word.length)) ∧ g < w'.heap.size ∧ Below w.heap.size w w' := by
  obtain ⟨i0, hi, hz0, hz1, hz2⟩ := info_parts ss.infoS
  have HCl := hid (clone sizes vs Bs w hs hnil (by omega))
  obtain ⟨aol, capl, hvl⟩ := ints_slice hl
  have HL := hid hl
  have HOk := hid hok
  have HSm := hid hsm
  have HRs := hid (fun k => rows_succ sizes word k)
  have HLn := hid (dbN_len sizes word)
  have HNs := hid (dbN_succ sizes word)
  have HNa := hid (fun k hk => (dbN_all (P := fun y => 0 ≤ y ∧ y ≤ 4) ⟨by omega, by omega⟩ sizes word hsm k hk : Sm (dbN sizes word k)))
  obtain ⟨n, hnn⟩ : ∃ n, n = word.length := ⟨_, rfl⟩
  have HN := hid hnn
  rw [← hnn] at hvl hn HLn HNs HNa HOk ⊢
  subst hvl
  clear hl hs hok hsm hnn
  go_enter Try.func72, Try.ntmps72
  go_wp2_with fail
  refine HCl.out.mono ?_
  rintro e W1 ⟨v1, rfl, o1, b1⟩
  obtain ⟨ao1, cap1, hv1⟩ := br.own_val o1
  have HO1 := hid o1
  have HB1 := hid b1
  have hz1' := b1.size
  obtain ⟨m, hmm⟩ : ∃ m, m = sizes.length := ⟨_, rfl⟩
  have HM := hid hmm
  rw [← hmm] at hv1 hm HLn HOk
  subst hv1
  clear o1 b1 hmm HCl
  have bX : Below W1.heap.size W1 (W1.alloc (.cells #[.slice ao1 m cap1] 30)) := (Below.refl _ _).alloc (Nat.le_refl _) _
  have HXc : Hid ((W1.alloc (.cells #[.slice ao1 m cap1] 30)).cell? ⟨W1.heap.size, 0, none⟩ = some (.slice ao1 m cap1)) := hid (World.cell?_alloc_at _ _ _ _ rfl)
  have HXo := hid (HO1.out.chg (Chg.ofBelow (lo := 0) bX) (.inr (.inr (Nat.zero_le _))))
  have HXb := hid (HB1.out.trans (bX.mono hz1'))
  have hXz : (W1.alloc (.cells #[.slice ao1 m cap1] 30)).heap.size = W1.heap.size + 1 := by simp
  clear bX
  go_wp2_with (at_make; refine wpList_make_own _ rfl _ _ 88 rfl (W1.heap.size + 1) 30 i0 (.slice none 0 0) 1 Try.underlying88 hi hz0 hz1 .i64 .i64 _ n rfl rfl (by omega) (by rw [hz2]; omega) (by unfold maxLen; omega) (by omega) ?_; intro W2 hown2 hgrow2; have HS2 := hid hown2; have HG2 := hid hgrow2; clear hown2 hgrow2)
  have b2 : Below (W1.alloc (.cells #[.slice ao1 m cap1] 30)).heap.size (W1.alloc (.cells #[.slice ao1 m cap1] 30)) W2 := (Below.refl _ _).grown HG2.out (Nat.le_refl _) (fun k hk => by cases hk)
  have HB2 := hid (HXb.out.trans (b2.mono (by omega)))
  have HO2 := hid (HXo.out.chg (Chg.ofBelow (lo := 0) b2) (.inr (.inr (Nat.zero_le _))))
  have HC2 := hid ((b2.cell (p := ⟨W1.heap.size, 0, none⟩) (by show W1.heap.size < _; omega)).trans HXc.out)
  have hz2' := b2.size
  have hg2 : W1.heap.size + 1 < W2.heap.size := by have := (HS2.out.lt _ rfl).2; rw [← hXz]; exact this
  have HR2 : Hid (SR W2 (W1.heap.size + 1) (.slice (some ⟨W1.heap.size + 1, 0, none⟩) 0 n) [] (rowsL sizes word 0)) := hid ⟨rfl, by have := HS2.out; rw [hXz] at this; simpa [rowsL] using this, fun _ => 0, fun _ => 0, fun j hj => by simp [rowsL] at hj⟩
  clear b2 HXb HXo HXc HG2 HS2
  go_loopw [7, 18] (fun v i wr => ∃ (k : Nat) (vals : List Value), k ≤ n ∧ i = .int .i64 (k : Int) ∧ SR wr (W1.heap.size + 1) v vals (rowsL sizes word k) ∧ (k = 0 → ∃ g c, v = .slice (some ⟨g, 0, none⟩) 0 c ∧ g < wr.heap.size) ∧ sl.Own wr w.heap.size W1.heap.size (.slice ao1 m cap1) (dbN sizes word k) ∧ wr.cell? ⟨W1.heap.size, 0, none⟩ = some (.slice ao1 m cap1) ∧ Below w.heap.size w wr ∧ W1.heap.size + 1 ≤ wr.heap.size) (fun _ i _ => n - (intOf i).toNat)
  case atStart =>
    exact ⟨0, [], Nat.zero_le _, rfl, HR2.out, fun _ => ⟨_, _, rfl, hg2⟩, by rw [dbN_zero]; exact HO2.out, HC2.out, HB2.out, by omega⟩
  case round =>
    obtain ⟨k, vals, hk, rfl, hsr, h0, hob, hcb, hbr, hsz⟩ := hrel
    have HSr := hid hsr
    have HBr := hid hbr
    have hzr := hbr.size
    have HCb := hid hcb
    have HOb := hid hob
    have H0 := hid h0
    clear hsr hob hbr hcb h0 HB2 HO2 HC2 HR2
    by_cases hlt : k < n
    · rcases HL.out with ⟨hnil, _⟩ | ⟨hp, b, off, cap, hv, hb, hc⟩
      · exfalso
        have := HN.out
        rw [hnil] at this
        simp at this
        omega
      · simp only [Value.slice.injEq] at hv
        obtain ⟨rfl, hnw, rfl⟩ := hv
        have hcx := (HBr.out.cell (p := ⟨b, off + k, none⟩) (by show b < _; omega)).trans (hc k (by rw [← HN.out]; exact hlt))
        have hx := HOk.out k hlt
        obtain ⟨q, hq1, hq2, hq3⟩ := ab_place hx
        have hlen := HLn.out k (by omega)
        have HDb : Hid (dbL sizes word k = swO (sg (word.getD k 0)) (sumL ((dbN sizes word k).take q)) ((dbN sizes word k).getD q 0).toNat ((dbN sizes word k).getD (q + 1) 0).toNat) := hid (by unfold dbL; rw [hq3])
        have HDn : Hid (dbN sizes word (k + 1) = swapAt (dbN sizes word k) q) := hid (by rw [HNs.out k hlt, hq3])
        generalize word.getD k 0 = x at *
        have HCr := hid (crossC (dbN sizes word k) x q W1.heap.size m cap1 w.heap.size W1.heap.size ao1 wr (by omega) hq1 HCb.out HOb.out (.inr (Nat.le_refl _)) (by omega) (by omega) (HNa.out k (by omega)))
        have HLr := hid (rows_len sizes word k)
        clear hc hp hb hx hq1 hq2 hq3 hlen hnw
        go_wp2_with (first | (go_at_call 107; refine HCr.out.mono ?_; rintro e w3 ⟨v3, rfl, o3, ob3, ch3⟩; rw [← HDb.out] at o3; rw [← HDn.out] at ob3; have HO3 := hid o3; have HOb3 := hid ob3; have HC3 := hid ch3; have hz3 := ch3.size; obtain ⟨ao3, cap3, hv3⟩ := br.own_val o3; generalize (dbL sizes word k).length = l3 at hv3; subst hv3; clear o3 ob3 ch3) | (at_builtin; refine wp_appRC rfl _ _ rfl (W1.heap.size + 1) w.heap.size W1.heap.size _ _ vals (rowsL sizes word k) (dbL sizes word k) HSr.out HC3.out (by omega) HO3.out rfl rfl rfl (by omega) (by rw [HLr.out]; omega) ?_; intro v5 w5 hs5 hb5; have HS5 := hid hs5; have HB5 := hid hb5; have hz5 := hb5.size; clear hs5 hb5))
        go_roundw
        case rel =>
          have h5 := HB5.out
          have hc5 : Chg (W1.heap.size + 1) w3.heap.size w3 w5 := ⟨h5.os, h5.tape, h5.output, h5.size, fun j hj hj' => h5.block j (by omega)⟩
          exact ⟨k + 1, _, by omega, by go_num, by rw [HRs.out k]; exact HS5.out, fun h => absurd h (by omega), HOb3.out.chg hc5 (.inl (by omega)), (HB5.out.cell (p := ⟨W1.heap.size, 0, none⟩) (by show W1.heap.size < _; omega)).trans ((World.cell?_of_block (w := wr) (w' := w3) (a := ⟨W1.heap.size, 0, none⟩) (HC3.out.block W1.heap.size (by omega) (by omega))).trans HCb.out), (HBr.out.trans (HC3.out.below (Nat.le_refl _) hzr)).trans (HB5.out.mono (by omega)), by omega⟩
        case measure => simp [intOf]; omega
    · obtain rfl : k = n := by omega
      have hform : ∃ g c, u7 = .slice (some ⟨g, 0, none⟩) k c ∧ g < wr.heap.size := by
        by_cases h : k = 0
        · obtain ⟨g, c, h1, h2⟩ := H0.out h
          exact ⟨g, c, by rw [h1, h], h2⟩
        · obtain ⟨g, c, h1, h2⟩ := sr_pos HSr.out (by rw [rows_len]; omega)
          rw [rows_len] at h1
          exact ⟨g, c, h1, h2⟩
      obtain ⟨g, c, rfl, hg⟩ := hform
      go_wp2
      go_ret
      exact ⟨g, c, rfl, ⟨vals, HSr.out.low (by omega)⟩, hg, HBr.out⟩
end Go.Proofs.Ytedajefapddekaa.db
