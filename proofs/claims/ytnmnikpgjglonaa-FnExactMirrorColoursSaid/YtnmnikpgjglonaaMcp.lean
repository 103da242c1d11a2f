/-
  MirrorColours of the program.
-/
import Derived.Test.YtnmnikpgjglonaaMc0
import Derived.Test.YtnmnikpgjglonaaSr
import Derived.Test.YtnmnikpgjglonaaIv
import Derived.Test.YtnmnikpgjglonaaRed
import Derived.Deep.RegionHeld3
import Derived.Deep.CutRange
import Derived.Deep.RegionLaw
import Derived.OwnWalk
namespace Go.Proofs.Ytnmnikpgjglonaa.cu
open Go.RowKit Go.Proofs.Ytnmnikpgjglonaa.sl Go.Proofs.Ytnmnikpgjglonaa.br Go.Proofs.Ytnmnikpgjglonaa.ss Go.Proofs.Ytnmnikpgjglonaa.nb
set_option linter.unusedVariables false
set_option linter.unusedSimpArgs false
set_option maxRecDepth 100000

/-- Rows that are built by append, apart from a block. -/
structure SG (W : World) (lo gb : Nat) (v : Value) (vals : List Value) (L : List (List Int)) : Prop where
  len : vals.length = L.length
  row : W.ownsRow lo 33 1 v L.length vals
  els : ∃ Lo Hi : Nat → Nat, ∀ j, j < L.length → sl.Own W (Lo j) (Hi j) (vals.getD j (.bool false)) (L.getD j []) ∧ lo ≤ Lo j ∧ (∀ g, v.ownBlock = some g → g < Lo j ∨ Hi j ≤ g) ∧ (∀ i, i < j → Hi i ≤ Lo j ∨ Hi j ≤ Lo i) ∧ (gb < Lo j ∨ Hi j ≤ gb)
theorem SG.sr {W : World} {lo gb : Nat} {v : Value} {vals : List Value} {L : List (List Int)} (h : SG W lo gb v vals L) : wk.SR W lo v vals L := by
  obtain ⟨Lo, Hi, he⟩ := h.els
  exact ⟨h.len, h.row, Lo, Hi, fun j hj => ⟨(he j hj).1, (he j hj).2.1, (he j hj).2.2.1, (he j hj).2.2.2.1⟩⟩
theorem SG.below {W W' : World} {lo gb : Nat} {v : Value} {vals : List Value} {L : List (List Int)} (h : SG W lo gb v vals L) (b : Below W.heap.size W W') : SG W' lo gb v vals L := by
  obtain ⟨Lo, Hi, he⟩ := h.els
  refine ⟨h.len, World.ownsRow.kept h.row (wk.grN b) (by cases v.ownBlock <;> simp), Lo, Hi, fun j hj => ?_⟩
  obtain ⟨h1, h2⟩ := he j hj
  exact ⟨h1.chg (Chg.ofBelow (lo := 0) b) (.inr (.inr (Nat.zero_le _))), h2⟩
theorem SG.ofRow {W : World} {lo gb : Nat} {v : Value} (h : W.ownsRow lo 33 1 v 0 []) : SG W lo gb v [] [] :=
  ⟨rfl, h, fun _ => 0, fun _ => 0, fun j hj => by simp at hj⟩
theorem SG.set {W : World} {lo gb : Nat} {v : Value} {vals : List Value} {L : List (List Int)} (h : SG W lo gb v vals L) (hv : ∀ b, v.ownBlock = some b → b ≠ gb) (o : Nat) (u : Value) : SG (W.setCell ⟨gb, o, none⟩ u) lo gb v vals L := by
  obtain ⟨Lo, Hi, he⟩ := h.els
  have ch := chg_set W gb o u
  have hg : W.grownBy (W.setCell ⟨gb, o, none⟩ u) (some gb) := ⟨ch.os, ch.tape, ch.output, ch.size, fun k hk hne => ch.block k hk (fun hh => hne (by congr 1; omega))⟩
  refine ⟨h.len, World.ownsRow.kept h.row hg ?_, Lo, Hi, fun j hj => ?_⟩
  · cases hv' : v.ownBlock with
    | none => exact .inl rfl
    | some g =>
      right
      intro e
      simp only [Option.some.injEq] at e
      exact hv g hv' e
  · obtain ⟨h1, h2, h3, h4, h5⟩ := he j hj
    exact ⟨own_other h1 gb o u (by omega), h2, h3, h4, h5⟩
theorem SG.app {Wr W1 W2 W' : World} {lo gb : Nat} {v v' y : Value} {vals : List Value} {L : List (List Int)} {r : List Int} (h : SG Wr lo gb v vals L) (hgb : gb < Wr.heap.size) (b : Below Wr.heap.size Wr W1) (oy : sl.Own W1 Wr.heap.size W1.heap.size y r) (b2 : Below W1.heap.size W1 W2) (hlo : lo ≤ Wr.heap.size)
    (hr : W'.ownsRow lo 33 1 v' (L.length + 1) (vals ++ [y])) (hg : W2.grownBy W' v.ownBlock) (h5 : v'.ownBlock = v.ownBlock ∨ v'.ownBlock = some W2.heap.size) : SG W' lo gb v' (vals ++ [y]) (L ++ [r]) := by
  have hs1 := b.size
  have hs2 := b2.size
  have h2 := (h.below b).below b2
  have oy2 : sl.Own W2 Wr.heap.size W1.heap.size y r := oy.chg (Chg.ofBelow (lo := 0) b2) (.inr (.inr (Nat.zero_le _)))
  obtain ⟨Lo, Hi, he⟩ := h.els
  have hlt : ∀ k, v.ownBlock = some k → k < Wr.heap.size := fun k hk => (h.row.lt k hk).2
  refine ⟨by simp [h.len], by simpa using hr, fun j => if j < L.length then Lo j else Wr.heap.size, fun j => if j < L.length then Hi j else W1.heap.size, fun j hj => ?_⟩
  simp only [List.length_append, List.length_cons, List.length_nil, Nat.zero_add] at hj
  by_cases hl : j < L.length
  · have hl' : j < vals.length := by rw [h.len]; exact hl
    have e1 : (vals ++ [y]).getD j (.bool false) = vals.getD j (.bool false) := by simp [List.getD, List.getElem?_append_left hl']
    have e2 : (L ++ [r]).getD j [] = L.getD j [] := by simp [List.getD, List.getElem?_append_left hl]
    obtain ⟨a1, a2, a3, a4, a5⟩ := he j hl
    have hh := a1.2.2
    have o2 : sl.Own W2 (Lo j) (Hi j) (vals.getD j (.bool false)) (L.getD j []) := (a1.chg (Chg.ofBelow (lo := 0) b) (.inr (.inr (Nat.zero_le _)))).chg (Chg.ofBelow (lo := 0) b2) (.inr (.inr (Nat.zero_le _)))
    rw [e1, e2]
    simp only [if_pos hl]
    refine ⟨wk.own_by o2 hg a3, a2, fun g e => ?_, fun i hi => ?_, ?_⟩
    · rcases h5 with h5 | h5
      · exact a3 g (by rw [← h5]; exact e)
      · rw [h5] at e
        simp only [Option.some.injEq] at e
        omega
    · rw [if_pos (show i < L.length by omega)]
      rw [if_pos (show i < L.length by omega)]
      exact a4 i hi
    · exact a5
  · obtain rfl : j = L.length := by omega
    have e1 : (vals ++ [y]).getD L.length (.bool false) = y := by rw [← h.len]; simp [List.getD]
    have e2 : (L ++ [r]).getD L.length [] = r := by simp [List.getD]
    rw [e1, e2]
    simp only [if_neg (Nat.lt_irrefl _)]
    refine ⟨wk.own_by oy2 hg fun k hk => .inl (hlt k hk), hlo, fun g e => ?_, fun i hi => ?_, ?_⟩
    · rcases h5 with h5 | h5
      · exact .inl (hlt g (by rw [← h5]; exact e))
      · rw [h5] at e
        simp only [Option.some.injEq] at e
        omega
    · simp only [if_pos hi]
      have := (he i hi).1.2.2
      omega
    · exact .inl hgb

theorem implBackI (xs : List Int) (v : Value) (B : Nat) (w : World) (ha : Ints w B v xs) (hnil : fn.NilOk v) (hn : xs.length ≤ 1048576) :
    Calls Try.prog 58 #[v] w fun e w' => ∃ v', e = .returned v' ∧ sl.Own w' w.heap.size w'.heap.size v' xs.reverse ∧ Below w.heap.size w w' := by
  have HC := hid (fn.clone xs v B w ha hnil hn)
  obtain ⟨ao, cap, hv⟩ := ints_val ha
  clear ha hnil
  have hn2 := hn
  obtain ⟨n, hnn⟩ : ∃ n, n = xs.length := ⟨_, rfl⟩
  rw [← hnn] at hv
  have HN := hid hnn
  clear hnn hn
  subst hv
  go_enter Try.func58, Try.ntmps58
  go_wp2_with fail
  refine HC.out.mono ?_
  rintro e w1 ⟨v1, rfl, o1, b1⟩
  have B1 := hid b1
  have HR1 := hid (br.reverse xs v1 _ _ w1 o1 (by omega))
  obtain ⟨ao1, cap1, hv1⟩ := own_val o1
  rw [← HN.out] at hv1
  clear b1 o1
  subst hv1
  go_wp2_with fail
  refine HR1.out.mono ?_
  rintro e w2 ⟨rfl, k2, c2⟩
  have K2 := hid (k2.hi c2.size (Nat.le_refl _))
  have B2 := hid (B1.out.trans (c2.below (Nat.le_refl _) B1.out.size))
  clear k2 c2
  go_wp2
  go_ret
  exact ⟨_, rfl, K2.out, B2.out⟩

/-- The box of the answer under way, and its rows so far. -/
structure MX (w1 W : World) (c : Int) (g : Nat) (z : Value) (vals : List Value) (L : List (List Int)) : Prop where
  g0 : w1.heap.size ≤ g
  g1 : g < W.heap.size
  c0 : W.cell? ⟨g, 0, none⟩ = some (.int .i64 c)
  c1 : W.cell? ⟨g, 1, none⟩ = some z
  fz : W.frozen? ⟨g, 1, none⟩ = false
  sr : SG W w1.heap.size g z vals L
  ap : ∀ b, z.ownBlock = some b → b ≠ g
  bl : Below w1.heap.size w1 W
theorem MX.drew {w1 W : World} {c : Int} {g : Nat} {z : Value} {vals : List Value} {L : List (List Int)} (h : MX w1 W c g z vals L) : MX w1 W.drew c g z vals L :=
  ⟨h.g0, h.g1, h.c0, h.c1, h.fz, h.sr.below (Below.refl _ _).drew, h.ap, h.bl.drew⟩
theorem mx_a (w1 : World) (c : Int) (n : Nat) (Z : Array Value) (hz : Z.size = n * 1) (hn : n ≤ 1048576) : MX w1 ((w1.alloc (.cells Z 33)).alloc (.cells #[.int .i64 c, .slice (some ⟨w1.heap.size, 0, none⟩) 0 n] 27)) c (w1.heap.size + 1) (.slice (some ⟨w1.heap.size, 0, none⟩) 0 n) [] [] := by
  have b1 : Below w1.heap.size w1 (w1.alloc (.cells Z 33)) := (Below.refl _ _).alloc (Nat.le_refl _) _
  have b2 : Below (w1.alloc (.cells Z 33)).heap.size (w1.alloc (.cells Z 33)) ((w1.alloc (.cells Z 33)).alloc (.cells #[.int .i64 c, .slice (some ⟨w1.heap.size, 0, none⟩) 0 n] 27)) := (Below.refl _ _).alloc (Nat.le_refl _) _
  have s1 : SG (w1.alloc (.cells Z 33)) w1.heap.size (w1.heap.size + 1) (.slice (some ⟨w1.heap.size, 0, none⟩) 0 n) [] [] := SG.ofRow (World.ownsRow_made w1 Z n (Nat.le_refl _) (by unfold maxLen; omega) hz)
  refine ⟨by omega, by first | (simp; done) | (simp; omega), ?_, ?_, ?_, s1.below b2, fun b hb => ?_, b1.trans (b2.mono (by simp))⟩
  · go_simp
  · go_simp
  · go_simp
  · simp [Value.ownBlock] at hb; omega
theorem mx_b (w1 : World) (c : Int) (n : Nat) (Z : Array Value) (hz : Z.size = n * 1) (hn : n ≤ 1048576) : MX w1 ((w1.alloc (.cells #[.int .i64 c, .slice (some ⟨w1.heap.size + 1, 0, none⟩) 0 n] 27)).alloc (.cells Z 33)) c w1.heap.size (.slice (some ⟨w1.heap.size + 1, 0, none⟩) 0 n) [] [] := by
  have b1 : Below w1.heap.size w1 (w1.alloc (.cells #[.int .i64 c, .slice (some ⟨w1.heap.size + 1, 0, none⟩) 0 n] 27)) := (Below.refl _ _).alloc (Nat.le_refl _) _
  have hz1 : (w1.alloc (.cells #[.int .i64 c, .slice (some ⟨w1.heap.size + 1, 0, none⟩) 0 n] 27)).heap.size = w1.heap.size + 1 := by simp
  have b2 : Below w1.heap.size w1 ((w1.alloc (.cells #[.int .i64 c, .slice (some ⟨w1.heap.size + 1, 0, none⟩) 0 n] 27)).alloc (.cells Z 33)) := b1.alloc (by simp) _
  have s1 := SG.ofRow (gb := w1.heap.size) (World.ownsRow_made (base := w1.heap.size) (e := 33) (size := 1) (w1.alloc (.cells #[.int .i64 c, .slice (some ⟨w1.heap.size + 1, 0, none⟩) 0 n] 27)) Z n (by simp) (by unfold maxLen; omega) hz)
  rw [hz1] at s1
  refine ⟨by omega, by first | (simp; done) | (simp; omega), ?_, ?_, ?_, s1, fun b hb => ?_, b2⟩
  · go_simp
  · go_simp
  · go_simp
  · simp [Value.ownBlock] at hb; omega

/-- append(rows, x): one operation of a region. -/
theorem step_appR {ops : Array Oper} {o : Oper} {a : Act} {K : Act → World → Prop} {Q : Exit → Act → World → Prop} {E : Prop} {w : World} (hgd : o.guard = none) (s x : Operand)
    (hop : o.op = .call { callee := .builtin .append, args := #[s, x], argTypes := #[22, 22] })
    (lo : Nat) (v : Value) (n : Nat) (vals : List Value) (ho : w.ownsRow lo 33 1 v n vals) (hs : a.eval s = v) (ad : Addr) (c1 : Nat) (y : Value) (hx : a.eval x = .slice (some ad) 1 c1) (hc : w.cell? ad = some y) (hy1 : y.oneCell' = true) (hlo : lo ≤ w.heap.size) (hn : n ≤ 1048576)
    (hK : ∀ v' w', w'.ownsRow lo 33 1 v' (n + 1) (vals ++ [y]) → w.grownBy w' v.ownBlock → (v'.ownBlock = v.ownBlock ∨ v'.ownBlock = some w.heap.size) → K (a.put o.dst v') w') : if Region.wanted o (yielded ops a.tmps) = true then Oper.wp Try.prog o a w K Q else E := by
  have hw : Region.wanted o (yielded ops a.tmps) = true := by simp [Region.wanted, hgd]
  rw [if_pos hw]
  obtain ⟨i0, hi', hz0, hz1, hz2⟩ := info_parts infoS
  obtain ⟨v', w', hr, h2, h3, h4, h5⟩ := run_append_own_at (P := Try.prog) w lo 22 o.type 33 i0 (.slice none 0 0) 1 24 Try.underlying22 hi' hz0 hz1 hz2 rfl (by decide) v n vals ho ad 1 c1 [y] (by simp)
    (fun j u hj => by
      match j, hj with
      | 0, hj =>
        simp only [List.getElem?_cons_zero, Option.some.injEq] at hj
        subst hj
        have : ad.add 0 = ad := by cases ad; simp [Addr.add]
        rw [this]; exact hc)
    (fun u hu => by simp at hu; subst hu; exact hy1) (by unfold maxLen; omega) (by omega) hlo
  unfold Oper.wp execOp
  simp only [hop, resolve, invoke, builtin, Sem.run_bind, Sem.run_pure, Result.andThen_ok, List.map_toArray, List.map_cons, List.map_nil, hs, hx, hr]
  exact hK v' w' h2 h3 h5

theorem infoSl : (Try.prog.info? 33).map (fun i => (i.zero, i.size, i.bytes)) = some (some (.slice none 0 0), 1, 24) := by kernel_rfl
set_option maxHeartbeats 4000000 in
theorem implMI (c : Int) (rows : List (List Int)) (f : Value) (B : Nat) (w : World) (ha : RowsN w B f rows) (hB : B ≤ w.heap.size) (hq : nb.Small rows) :
    Calls Try.prog 33 #[.agg #[.int .i64 c, f]] w fun e w' => ∃ ao cap, e = .returned (.tuple #[.agg #[.int .i64 (miS c rows), .slice ao (miR c rows).length cap], .int .i64 (colC c rows)]) ∧ ss.ROwn w' w.heap.size w'.heap.size (.slice ao (miR c rows).length cap) (miR c rows) ∧ Below w.heap.size w w' := by
  have HB0 : Hid (Below w.heap.size w ((w.alloc (.cells #[.int .i64 c, f] 27)).alloc (.cells #[.int .i64 0, .slice none 0 0] 27))) := hid (((Below.refl _ w).alloc (Nat.le_refl _) _).alloc (by simp) _)
  have HV := hid (implVC c rows f B _ (ha.rows.below HB0.out) (Nat.le_trans hB HB0.out.size) hq)
  have HC : Hid (miS c rows = if colB c rows = true then c else 0) := hid rfl
  have HR : Hid (miR c rows = if colB c rows = true then rows.map List.reverse else []) := hid rfl
  have HK : Hid (colC c rows = if colB c rows = true then 0 else 1) := hid rfl
  have HCl := hid (fun h => @col_k c rows h)
  have HSm := hid hq
  have HA := hid ha
  obtain ⟨ao, cap, hv⟩ := rows_val ha.rows
  clear ha hq
  generalize miS c rows = C at *
  generalize miR c rows = R at *
  generalize colC c rows = K at *
  obtain ⟨q, hq⟩ : ∃ q, q = colB c rows := ⟨_, rfl⟩
  rw [← hq] at HV HC HR HK HCl
  clear hq
  have hz0 : ((w.alloc (.cells #[.int .i64 c, f] 27)).alloc (.cells #[.int .i64 0, .slice none 0 0] 27)).heap.size = w.heap.size + 2 := by simp
  have HX := hid (fun (w1 : World) (b1 : Below (w.heap.size + 2) ((w.alloc (.cells #[.int .i64 c, f] 27)).alloc (.cells #[.int .i64 0, .slice none 0 0] 27)) w1) => (show w1.cell? ⟨w.heap.size, 0, none⟩ = some (.int .i64 c) ∧ w1.cell? ⟨w.heap.size, 1, none⟩ = some f ∧ w1.cell? ⟨w.heap.size + 1, 0, none⟩ = some (.int .i64 0) ∧ w1.cell? ⟨w.heap.size + 1, 1, none⟩ = some (.slice none 0 0) ∧ w1.frozen? ⟨w.heap.size + 1, 0, none⟩ = false ∧ w1.frozen? ⟨w.heap.size + 1, 1, none⟩ = false from
    ⟨(b1.cell (p := ⟨w.heap.size, 0, none⟩) (by simp)).trans (by go_simp), (b1.cell (p := ⟨w.heap.size, 1, none⟩) (by simp)).trans (by go_simp), (b1.cell (p := ⟨w.heap.size + 1, 0, none⟩) (by simp)).trans (by go_simp), (b1.cell (p := ⟨w.heap.size + 1, 1, none⟩) (by simp)).trans (by go_simp), (b1.frozen (p := ⟨w.heap.size + 1, 0, none⟩) (by simp)).trans (by go_simp), (b1.frozen (p := ⟨w.heap.size + 1, 1, none⟩) (by simp)).trans (by go_simp)⟩))
  cases q with
  | false =>
    clear HCl HA HSm
    generalize rows.length = n at *
    subst hv
    go_enter Try.func33, Try.ntmps33
    go_wp2_with fail
    refine HV.out.mono ?_
    rintro e w1 ⟨rfl, b1⟩
    rw [hz0] at b1
    obtain ⟨c0, c1, d0, d1, e0, e1⟩ := HX.out w1 b1
    have HB1 := hid (HB0.out.trans (b1.mono (by omega)))
    clear b1
    go_wp2
    refine bodyPost_ret (v := .tuple #[.agg #[.int .i64 0, .slice none 0 0], .int .i64 1]) (by simp [results, Try.results33, go_sem, d0, d1]) rfl ⟨none, 0, ?_, ?_, ?_⟩
    · rw [HC.out, HR.out, HK.out]; rfl
    · rw [HR.out]; exact ⟨Nat.le_refl _, .inl ⟨rfl, _, _, rfl⟩⟩
    · exact (HB1.out.setCell (by simp) _).setCell (by simp) _
  | true =>
    have hcol := HCl.out (by trivial)
    have hl1 := hcol.n1
    have hl8 := hcol.n8
    have HC2 : Hid (C = c) := hid (by rw [HC.out]; rfl)
    have HK2 : Hid (K = 0) := hid (by rw [HK.out]; rfl)
    have HR2 : Hid (R = rows.map List.reverse) := hid (by rw [HR.out]; rfl)
    have HLn : Hid (∀ j, j < rows.length → (rows.getD j []).length ≤ 8) := hid (fun j hj => by have h1 := hcol.len j hj; have h2 := hcol.c8; omega)
    clear HC HR HK HCl hcol
    rcases HA.out with ⟨h0, _⟩ | ⟨hp, b, off, cap', V, hv', hb, hc⟩
    · rw [h0] at hl1; simp at hl1
    have HCc := hid hc
    have HTk := hid (rev_snoc rows)
    obtain ⟨n, hnn⟩ : ∃ n, n = rows.length := ⟨_, rfl⟩
    have HN := hid hnn
    rw [← hnn] at hv' hl1 hl8 HCc HTk HLn
    clear hnn hv hc HA HSm hp
    subst hv'
    obtain ⟨i0, hi, hy0, hy1, hy2⟩ := info_parts infoSl
    go_enter Try.func33, Try.ntmps33
    go_wp2_with fail
    refine HV.out.mono ?_
    rintro e w1 ⟨rfl, b1⟩
    rw [hz0] at b1
    obtain ⟨c0, c1, d0, d1, e0, e1⟩ := HX.out w1 b1
    have HB1 := hid (HB0.out.trans (b1.mono (by omega)))
    have hz1 : w.heap.size + 2 ≤ w1.heap.size := by have := b1.size; rw [hz0] at this; exact this
    have HBx := hid b1
    clear b1 HV d0 d1 e0 e1
    have hmk : ∀ W : World, (Instr.makeSlice 22 (.int .i64 0) (.int .i64 (n : Int))).run Try.prog W = .ok (.slice (some ⟨W.heap.size, 0, none⟩) 0 n) (W.alloc (.cells (madeCells (Value.slice none 0 0).cells (n * 1)) 33)) := fun W => by
      have h := run_makeSlice (P := Try.prog) W 22 33 i0 (.slice none 0 0) Try.underlying22 hi hy0 .i64 .i64 0 (n : Int) (Int.le_refl _) (by omega) (by rw [hy1]; simp; omega) (by rw [hy2]; omega) (by omega)
      simpa [hy1] using h
    have hmz : (madeCells (Value.slice none 0 0).cells (n * 1)).size = n * 1 := size_madeCells _ _
    generalize madeCells (Value.slice none 0 0).cells (n * 1) = Z at *
    go_upto_region 3 with fail
    go_cut [4] from 11 to 17 (fun s4 wx => ∃ (g : Nat) (z : Value), s4 = .pointer (some ⟨g, 0, none⟩) ∧ MX w1 wx c g z [] [])
    case first =>
      go_region_held3 (fun w' => w'.cell? ⟨w.heap.size, 0, none⟩ = some (.int .i64 c) ∧ w'.cell? ⟨w.heap.size, 1, none⟩ = some (.slice (some ⟨b, off, none⟩) n cap')) (go_keep) (fail)
      all_goals
        go_wp2_with fail
        go_meet
        first
          | exact ⟨_, _, rfl, (mx_a w1 c n Z hmz (by omega)).drew⟩
          | exact ⟨_, _, rfl, (mx_b w1 c n Z hmz (by omega)).drew⟩
          | exact ⟨_, _, rfl, mx_a w1 c n Z hmz (by omega)⟩
          | exact ⟨_, _, rfl, mx_b w1 c n Z hmz (by omega)⟩
    case rest =>
      obtain ⟨g, z0, rfl, hm⟩ := hcut
      generalize wc = W3 at *
      have HM3 := hid hm
      have c1' := (hm.bl.cell (p := ⟨w.heap.size, 1, none⟩) (by show w.heap.size < w1.heap.size; omega)).trans c1
      have hg0 := hm.g0
      clear hm hmk hmz c0 c1
      go_wp2
      clear c1'
      go_loopw [21] (fun i wr => ∃ (k : Nat) (z : Value) (vals : List Value) (L : List (List Int)), k ≤ n ∧ i = .int .i64 k ∧ MX w1 wr c g z vals L ∧ L = (rows.map List.reverse).take k) (fun i _ => n - (intOf i).toNat)
      case atStart => exact ⟨0, _, [], [], Nat.zero_le _, rfl, HM3.out, rfl⟩
      case round =>
        obtain ⟨k, z, vals, L, hk, rfl, hmx, hL⟩ := hrel
        have HMX := hid hmx
        have HL := hid hL
        have hzr := hmx.bl.size
        have hgr := hmx.g1
        clear hmx hL HM3
        have HBw : Hid (Below w.heap.size w wr) := hid (HB1.out.trans (HMX.out.bl.mono (by omega)))
        by_cases hlt : k < n
        · obtain ⟨hcv, hI, hNl⟩ := HCc.out k hlt
          have hcv2 := (HBw.out.cell (p := ⟨b, off + k, none⟩) (World.block_lt_of_cell? w _ hcv)).trans hcv
          have hsk := HLn.out k hlt
          have HBk := hid (fun W (bb : Below wr.heap.size wr W) => implBackI (rows.getD k []) (V k) B W (hI.chg (Chg.ofBelow (lo := 0) (HBw.out.trans (bb.mono HBw.out.size))) (.inr (Nat.zero_le _))) hNl (by omega))
          have HT2 := hid (HTk.out k hlt)
          have hLl : L.length ≤ 1048576 := by have := congrArg List.length HL.out; simp at this; omega
          have m1 := HMX.out.c1
          have m0 := HMX.out.c0
          have q1 := HMX.out.fz
          obtain ⟨a9, c9, hv9⟩ := ints_val hI
          obtain ⟨az, cz, hvz⟩ := HMX.out.sr.sr.val
          have hk0 : (0 : Int) ≤ (k : Int) := by omega
          have hkn : (k : Int) < (n : Int) := by omega
          generalize rows.getD k [] = xs at *
          generalize V k = u at *
          clear hcv hI hNl hsk
          generalize xs.length = m9 at *
          subst hv9
          have HRow := hid (fun W (bb : Below wr.heap.size wr W) => (HMX.out.sr.below bb).row)
          obtain ⟨ll, hll⟩ : ∃ l, l = L.length := ⟨_, rfl⟩
          rw [← hll] at hvz HRow hLl
          have HLl := hid hll
          clear hll
          subst hvz
          go_wp2
          go_region_law (first
            | (refine step_appR rfl _ _ rfl w1.heap.size (.slice az ll cz) ll vals HRw2.out rfl ⟨w2.heap.size, 0, none⟩ 1 (.slice a2 m2l c2) rfl hc2 rfl (by rw [hz2]; omega) (by omega) ?_
               intro v9 w9 hr9 hg9 h59
               have HS9 := HMX.out.sr.app hgr HB2.out HO2.out ((Below.refl _ _).alloc (Nat.le_refl _) _) hzr (by rw [← HLl.out]; exact hr9) hg9 h59
               obtain ⟨a9', c9', hv9'⟩ := HS9.sr.val
               have hb9 : w9.heap[g]? = w2.heap[g]? := (hg9.block g (by rw [hz2]; omega) (fun e => HMX.out.ap g (by first | exact e | exact e.symm) rfl)).trans (Below.heap_alloc w2 _ g (by omega))
               have t1 : w9.cell? ⟨g, 1, none⟩ = some (.slice az ll cz) := (World.cell?_of_block (a := ⟨g, 1, none⟩) hb9).trans m2
               have t2 : w9.frozen? ⟨g, 1, none⟩ = false := (World.frozen?_of_block (a := ⟨g, 1, none⟩) hb9).trans q2
               have t0 : w9.cell? ⟨g, 0, none⟩ = some (.int .i64 c) := (World.cell?_of_block (a := ⟨g, 0, none⟩) hb9).trans m20
               have hz9 : w2.heap.size + 1 ≤ w9.heap.size := by have := hg9.size; rw [hz2] at this; exact this
               have HB9 : Hid (Below w1.heap.size w1 w9) := hid (((HMX.out.bl.trans (HB2.out.mono hzr)).alloc (by omega) _).grown hg9 (by rw [hz2]; omega) (fun j e => by have := (HMX.out.sr.row.lt j e).1; omega))
               have hap : ∀ b, v9.ownBlock = some b → b ≠ g := fun b hb e => by
                 rcases h59 with h | h
                 · rw [h] at hb; exact HMX.out.ap b hb e
                 · rw [h] at hb; rw [hz2] at hb; simp only [Option.some.injEq] at hb; omega
               have HM9 : Hid (MX w1 (w9.setCell ⟨g, 1, none⟩ v9) c g v9 (vals ++ [.slice a2 m2l c2]) (L ++ [xs.reverse])) := hid ⟨HMX.out.g0, by simp; omega, by rw [ss.other_at (by omega)]; exact t0, ss.same_at t1, by rw [World.frozen?_setCell]; exact t2, HS9.set hap _ _, hap, HB9.out.setCell HMX.out.g0 _⟩
               obtain ⟨q9, hq9⟩ : ∃ q, q = (L ++ [xs.reverse]).length := ⟨_, rfl⟩
               rw [← hq9] at hv9'
               clear hq9 hb9 t0 hap HS9 hr9 hg9 h59
               subst hv9')
            | (go_simp
               go_at_call 58
               refine (HBk.out _ (bdrewN (Below.refl _ _) _)).mono ?_
               rintro e w2 ⟨v2, rfl, o2, b2⟩
               have bb2 : Below wr.heap.size wr w2 := (bdrewN (Below.refl _ _) _).trans b2
               have m2 := (bb2.cell (p := ⟨g, 1, none⟩) hgr).trans m1
               have m20 := (bb2.cell (p := ⟨g, 0, none⟩) hgr).trans m0
               have q2 := (bb2.frozen (p := ⟨g, 1, none⟩) hgr).trans q1
               have HO2 := hid (show sl.Own w2 wr.heap.size w2.heap.size v2 xs.reverse from o2)
               have HB2 := hid bb2
               have hs2 := bb2.size
               obtain ⟨a2, c2, hv2⟩ := own_val o2
               generalize xs.reverse.length = m2l at hv2
               subst hv2
               have bA := (Below.refl w2.heap.size w2).alloc (Nat.le_refl _) (.cells #[.slice a2 m2l c2] 33)
               have mA := (bA.cell (p := ⟨g, 1, none⟩) (by show g < w2.heap.size; omega)).trans m2
               have HRw2 := hid (HRow.out _ (bb2.trans (bA.mono hs2)))
               have hc2 : (w2.alloc (.cells #[.slice a2 m2l c2] 33)).cell? ⟨w2.heap.size, 0, none⟩ = some (.slice a2 m2l c2) := World.cell?_alloc_at _ _ _ _ rfl
               have hz2 : (w2.alloc (.cells #[.slice a2 m2l c2] 33)).heap.size = w2.heap.size + 1 := by simp
               clear o2 b2 bb2 bA))
          all_goals
            go_wp2
            go_roundw
            case rel => exact ⟨k + 1, _, _, _, by omega, by go_num, HM9.out, by rw [HL.out]; exact HT2.out⟩
            case measure => simp [intOf]; omega
        · obtain rfl : k = n := by omega
          have HEq : Hid (L = R) := hid (by rw [HL.out, HR2.out, HN.out, List.take_of_length_le (by simp)])
          obtain ⟨a9, c9, hv9⟩ := HMX.out.sr.sr.val
          have HOw := hid (HMX.out.sr.sr.rown)
          rw [HEq.out] at HOw hv9
          obtain ⟨c0', c1', d0, d1, e0, e1⟩ := HX.out wr (HBx.out.trans (HMX.out.bl.mono hz1))
          have m0 := HMX.out.c0
          have m1 := HMX.out.c1
          obtain ⟨r9, hr9⟩ : ∃ r, r = R.length := ⟨_, rfl⟩
          rw [← hr9] at hv9
          have HR9 := hid hr9
          clear hr9 HX c0' c1'
          subst hv9
          go_wp2
          refine bodyPost_ret (v := .tuple #[.agg #[.int .i64 c, .slice a9 r9 c9], .int .i64 0]) (by simp [results, Try.results33, go_sem, d0, d1]) rfl ⟨a9, c9, by rw [HC2.out, HK2.out, HR9.out], ?_, ?_⟩
          · rw [← HR9.out]
            have h2 := nb.rown_other (nb.rown_other HOw.out (w.heap.size + 1) 0 (.int .i64 c) (by omega)) (w.heap.size + 1) 1 (.slice a9 r9 c9) (by omega)
            have h3 := h2.lo (lo' := w.heap.size) (by omega)
            simpa using h3
          · exact (HBw.out.setCell (by simp) _).setCell (by simp) _
end Go.Proofs.Ytnmnikpgjglonaa.cu
