/-
  ColoursText of the program: rows of bytes, joined.
-/
import Derived.Test.YtnmnikpgjglonaaKx0
import Derived.Test.YtnmnikpgjglonaaShelfBj
import Derived.Laws.BytesArg
import Derived.OwnWalk
import Derived.Maps.AppendAt
namespace Go.Proofs.Ytnmnikpgjglonaa.cu
open Go.RowKit Go.Proofs.Ytnmnikpgjglonaa.sl Go.Proofs.Ytnmnikpgjglonaa.br Go.Proofs.Ytnmnikpgjglonaa.ss Go.Proofs.Ytnmnikpgjglonaa.nb
set_option linter.unusedVariables false
set_option linter.unusedSimpArgs false
set_option maxRecDepth 100000

theorem wp_app8 {ops : Array Oper} {rest : List Oper} {o : Oper} {a : Act} {Q : Exit → Act → World → Prop} {w : World} (hgd : o.guard = none) (s x : Operand)
    (hop : o.op = .call { callee := .builtin .append, args := #[s, x], argTypes := #[58, 58] })
    (lo : Nat) (v : Value) (bs : List UInt8) (b : UInt8) (x0 : Int) (hx0 : x0 = (b.toNat : Int)) (ho : dc.BOwn w lo v bs) (hs : a.eval s = v) (hx : a.eval x = .slice (some ⟨w.heap.size, 0, none⟩) 1 1) (hlo : lo ≤ w.heap.size) (hn : bs.length ≤ 1099511627776)
    (hK : ∀ v' w', dc.BOwn w' lo v' (bs ++ [b]) → Below lo w w' → wpList Try.prog ops Q rest (a.put o.dst v') w') : wpList Try.prog ops Q (o :: rest) a (w.alloc (.cells #[.int .u8 x0] 5)) := by
  obtain ⟨i0, hi', hz0, hz1, hz2⟩ := info_parts dc.info8
  subst hx0
  obtain ⟨hown, g, cap, hv⟩ := ho
  refine wpList_append_own _ hgd s x 58 hop lo 5 i0 (.int .u8 0) 1 1 Try.underlying58 hi' hz0 hz1 hz2 rfl (by decide) v bs.length (dc.u8s bs) hs (hown.alloc _) ⟨w.heap.size, 0, none⟩ 1 1 [.int .u8 (b.toNat : Int)] hx rfl ?_ ?_ ?_ ?_ ?_ ?_
  · intro j u hj
    match j, hj with
    | 0, hj =>
      simp only [List.getElem?_cons_zero, Option.some.injEq] at hj
      subst hj
      rw [Addr.add_lit, World.cell?_alloc_at _ _ _ _ rfl]; rfl
  · intro u hu; simp at hu; subst hu; rfl
  · unfold maxLen; omega
  · omega
  · simp; omega
  · intro v' w' h1 h2 _
    have hsz : w.heap.size + 1 ≤ w'.heap.size := by have := h2.size; simpa using this
    have h1' : w'.ownsRow lo 5 1 v' (bs ++ [b]).length (dc.u8s (bs ++ [b])) := by simpa [dc.u8s] using h1
    refine hK v' w' ⟨h1', ?_⟩ ⟨h2.os, h2.tape, h2.output, by omega, fun k hk => ?_⟩
    · rcases h1'.2 with ⟨_, h0⟩ | ⟨g', cap', cur, hv', _⟩
      · simp at h0
      · exact ⟨g', cap', hv'⟩
    · rw [h2.block k (by simp; omega) (by intro e; have h4 := (hown.lt k e.symm).1; omega)]
      exact Below.heap_alloc _ _ _ (by omega)

theorem dg_nat {x : Int} (h : 1 ≤ x ∧ x ≤ 4) : 48 + x = ((dg x).toNat : Int) := by
  have : x = 1 ∨ x = 2 ∨ x = 3 ∨ x = 4 := by omega
  rcases this with rfl | rfl | rfl | rfl <;> rfl

/-- A line: bytes in a block of the call's own. -/
def LnOk (lo : Nat) (w' : World) (v : Value) (l : List UInt8) : Prop :=
  ∃ g cap, v = .slice (some ⟨g, 0, none⟩) l.length cap ∧ lo ≤ g ∧ g < w'.heap.size ∧ ∀ (i : Nat) x, l[i]? = some x → w'.cell? ⟨g, i, none⟩ = some (.int .u8 (x.toNat : Int))
theorem ln_of {lo : Nat} {w : World} {v : Value} {l : List UInt8} (h : dc.BOwn w lo v l) : LnOk lo w v l := by
  obtain ⟨h1, g, cap, hv⟩ := h
  subst hv
  have hlt := h1.lt g rfl
  refine ⟨g, cap, rfl, hlt.1, hlt.2, fun i x hx => ?_⟩
  have hi : i < l.length := (List.getElem?_eq_some_iff.1 hx).1
  have := dc.BOwn.cell (w := w) (lo := lo) (g := g) (cap := cap) (n := l.length) (bs := l) ⟨h1, g, cap, rfl⟩ i hi
  rw [this, (List.getElem?_eq_some_iff.1 hx).2]

set_option maxHeartbeats 2000000 in
theorem implLine (xs : List Int) (V : Value) (B : Nat) (w : World) (ha : Ints w B V xs) (hB : B ≤ w.heap.size) (hp : 0 < xs.length) (hn : xs.length ≤ 8) (hr : ∀ q, q < xs.length → 1 ≤ xs.getD q 0 ∧ xs.getD q 0 ≤ 4) :
    Calls Try.prog 46 #[V] w fun e w' => ∃ v', e = .returned v' ∧ LnOk w.heap.size w' v' (lnL xs) ∧ Below w.heap.size w w' := by
  obtain ⟨i0, hi, hz0, hz1, hz2⟩ := info_parts dc.info8
  rcases ha with ⟨h0, _⟩ | ⟨_, b, off, cap, rfl, hb, hc⟩
  · rw [h0] at hp; simp at hp
  have HC := hid hc
  have HR := hid hr
  have HSt := hid (map_step xs)
  have HL : Hid (lnL xs = (xs.take xs.length).map dg ++ [10]) := hid (by rw [List.take_length]; rfl)
  obtain ⟨n, hnn⟩ : ∃ n, n = xs.length := ⟨_, rfl⟩
  rw [← hnn] at hp hn HC HR HSt HL ⊢
  clear hnn hc hr
  have hw1 : IntKind.i64.wrap ((n : Int) + 1) = (n : Int) + 1 := IntWalk.i64_in _ (by omega)
  go_enter Try.func46, Try.ntmps46
  go_wp2_with (at_make; go_loud (refine wpList_make_own _ rfl _ _ 58 rfl w.heap.size 5 i0 (.int .u8 0) 1 Try.underlying58 hi hz0 hz1 .i64 .i64 _ (n + 1) rfl rfl (by omega) (by rw [hz2]; omega) (by unfold maxLen; omega) (Nat.le_refl _) ?_; intro W3 hown3 hgrow3; have HO3 : Hid (dc.BOwn W3 w.heap.size (.slice (some ⟨w.heap.size, 0, none⟩) 0 (n + 1)) []) := hid ⟨hown3, _, _, rfl⟩; have HB3 : Hid (Below w.heap.size w W3) := hid ⟨hgrow3.os, hgrow3.tape, hgrow3.output, hgrow3.size, fun q hq => hgrow3.block q hq (by simp)⟩; clear hown3 hgrow3))
  go_loopw [3, 12] (fun v i wr => ∃ k : Nat, k ≤ n ∧ i = .int .i64 k ∧ dc.BOwn wr w.heap.size v ((xs.take k).map dg) ∧ Below w.heap.size w wr) (fun _ i _ => n - (intOf i).toNat)
  case atStart => exact ⟨0, Nat.zero_le _, rfl, by simpa using HO3.out, HB3.out⟩
  case round =>
    obtain ⟨k, hk, rfl, ho, hbel⟩ := hrel
    have HO := hid ho
    have HB := hid hbel
    have hz := hbel.size
    clear ho hbel HO3 HB3
    by_cases hlt : k < n
    · have hck := HC.out k hlt
      have hx := (HB.out.cell (p := ⟨b, off + k, none⟩) (World.block_lt_of_cell? w _ hck)).trans hck
      have hxr := HR.out k hlt
      have HS := hid (HSt.out k hlt)
      generalize xs.getD k 0 = x at *
      have hw3 : IntKind.u8.wrap x = x := IntWalk.u8_in _ (by omega)
      have hw4 : IntKind.u8.wrap (48 + x) = 48 + x := IntWalk.u8_in _ (by omega)
      have HD := hid (dg_nat hxr)
      have hll : ((xs.take k).map dg).length ≤ 1099511627776 := by simp; omega
      clear hck
      go_wp2_with (at_builtin; go_loud (refine wp_app8 rfl _ _ rfl w.heap.size _ ((xs.take k).map dg) (dg x) _ HD.out HO.out rfl rfl hz hll ?_; intro v9 w9 ho9 hb9; have HO9 := hid ho9; have HB9 := hid (HB.out.trans hb9); clear ho9 hb9))
      go_roundw
      case rel => exact ⟨k + 1, by omega, by go_num, by rw [HS.out]; exact HO9.out, HB9.out⟩
      case measure => simp [intOf]; omega
    · obtain rfl : k = n := by omega
      have hll : ((xs.take k).map dg).length ≤ 1099511627776 := by simp; omega
      go_wp2_with (at_builtin; go_loud (refine wp_app8 rfl _ _ rfl w.heap.size _ ((xs.take k).map dg) 10 _ rfl HO.out rfl rfl hz hll ?_; intro v9 w9 ho9 hb9; have HO9 := hid ho9; have HB9 := hid (HB.out.trans hb9); clear ho9 hb9))
      go_ret
      exact ⟨_, rfl, ln_of (by rw [HL.out]; exact HO9.out), HB9.out⟩

/-- Lines that are built by append. -/
structure LB (W : World) (lo : Nat) (v : Value) (vals : List Value) (ls : List (List UInt8)) : Prop where
  len : vals.length = ls.length
  row : W.ownsRow lo 58 1 v ls.length vals
  els : ∀ j, j < ls.length → ∃ g cap, vals.getD j (.bool false) = .slice (some ⟨g, 0, none⟩) (ls.getD j []).length cap ∧ g < W.heap.size ∧ v.ownBlock ≠ some g ∧ ∀ (i : Nat) x, (ls.getD j [])[i]? = some x → W.cell? ⟨g, i, none⟩ = some (.int .u8 (x.toNat : Int))
theorem lgrN {W W' : World} (b : Below W.heap.size W W') : W.grownBy W' none := ⟨b.os, b.tape, b.output, b.size, fun k hk _ => b.block k hk⟩
theorem LB.below {W W' : World} {lo : Nat} {v : Value} {vals : List Value} {ls : List (List UInt8)} (h : LB W lo v vals ls) (b : Below W.heap.size W W') : LB W' lo v vals ls := by
  refine ⟨h.len, World.ownsRow.kept h.row (lgrN b) (by cases v.ownBlock <;> simp), fun j hj => ?_⟩
  obtain ⟨g, cap, h1, h2, h3, h4⟩ := h.els j hj
  exact ⟨g, cap, h1, Nat.lt_of_lt_of_le h2 b.size, h3, fun i x hx => (b.cell (p := ⟨g, i, none⟩) h2).trans (h4 i x hx)⟩
theorem LB.ofRow {W : World} {lo : Nat} {v : Value} (h : W.ownsRow lo 58 1 v 0 []) : LB W lo v [] [] := ⟨rfl, h, fun j hj => by simp at hj⟩
theorem LB.val {W : World} {lo : Nat} {v : Value} {vals : List Value} {ls : List (List UInt8)} (h : LB W lo v vals ls) : ∃ ao cap, v = .slice ao ls.length cap := by
  rcases h.row.2 with ⟨h1, h2⟩ | ⟨g, c, cur, h1, _⟩
  · exact ⟨none, 0, by rw [h1, h2]⟩
  · exact ⟨_, c, h1⟩
theorem infoL : (Try.prog.info? 58).map (fun i => (i.zero, i.size, i.bytes)) = some (some (.slice none 0 0), 1, 24) := by kernel_rfl
theorem wp_appL {ops : Array Oper} {rest : List Oper} {o : Oper} {a : Act} {Q : Exit → Act → World → Prop} {Wr W1 : World} (hgd : o.guard = none) (s x : Operand)
    (hop : o.op = .call { callee := .builtin .append, args := #[s, x], argTypes := #[57, 57] })
    (lo : Nat) (v y : Value) (vals : List Value) (ls : List (List UInt8)) (l : List UInt8) (h : LB Wr lo v vals ls) (b : Below Wr.heap.size Wr W1) (oy : LnOk Wr.heap.size W1 y l) (hs : a.eval s = v) (hx : a.eval x = .slice (some ⟨W1.heap.size, 0, none⟩) 1 1) (hlo : lo ≤ Wr.heap.size) (hn : ls.length ≤ 1048576)
    (hK : ∀ v' w', LB w' lo v' (vals ++ [y]) (ls ++ [l]) → Below lo W1 w' → wpList Try.prog ops Q rest (a.put o.dst v') w') : wpList Try.prog ops Q (o :: rest) a (W1.alloc (.cells #[y] 58)) := by
  obtain ⟨i0, hi', hz0, hz1, hz2⟩ := info_parts infoL
  have b2 : Below W1.heap.size W1 (W1.alloc (.cells #[y] 58)) := (Below.refl _ _).alloc (Nat.le_refl _) _
  have hs1 := b.size
  have h2 := (h.below b).below b2
  obtain ⟨gy, cy, hy, hy1, hy2, hy3⟩ := oy
  have hyo : y.oneCell' = true := by rw [hy]; rfl
  obtain ⟨v', w', hr, e2, e3, e4, e5⟩ := run_append_own_at (P := Try.prog) (W1.alloc (.cells #[y] 58)) lo 57 o.type 58 i0 (.slice none 0 0) 1 24 Try.underlying57 hi' hz0 hz1 hz2 rfl (by decide) v ls.length vals h2.row ⟨W1.heap.size, 0, none⟩ 1 1 [y] (by simp)
    (fun j u hj => by
      match j, hj with
      | 0, hj =>
        simp only [List.getElem?_cons_zero, Option.some.injEq] at hj
        subst hj
        rw [Addr.add_lit, World.cell?_alloc_at _ _ _ _ rfl]; rfl)
    (fun u hu => by simp at hu; subst hu; exact hyo) (by unfold maxLen; omega) (by omega) (by simp; omega)
  have hlt : ∀ g, v.ownBlock = some g → lo ≤ g ∧ g < Wr.heap.size := fun g hg => h.row.lt g hg
  have hz3 : (W1.alloc (.cells #[y] 58)).heap.size = W1.heap.size + 1 := by simp
  have hz4 := e3.size
  rw [hz3] at hz4
  refine wpList_plain hgd fun K hKK => ?_
  unfold Oper.wp execOp
  simp only [hop, resolve, invoke, builtin, Sem.run_bind, Sem.run_pure, Result.andThen_ok, List.map_toArray, List.map_cons, List.map_nil, hs, hx, hr]
  refine hKK _ _ (hK v' w' ⟨by simp [h.len], by simpa using e2, fun j hj => ?_⟩ ⟨e3.os.trans b2.os, e3.tape.trans b2.tape, e3.output.trans b2.output, by omega, fun q hq => ?_⟩)
  · simp only [List.length_append, List.length_cons, List.length_nil, Nat.zero_add] at hj
    by_cases hl : j < ls.length
    · have hl' : j < vals.length := by rw [h.len]; exact hl
      have q1 : (vals ++ [y]).getD j (.bool false) = vals.getD j (.bool false) := by simp [List.getD, List.getElem?_append_left hl']
      have q2 : (ls ++ [l]).getD j [] = ls.getD j [] := by simp [List.getD, List.getElem?_append_left hl]
      rw [q1, q2]
      obtain ⟨g, cap, h1, h2', h3, h4⟩ := h2.els j hl
      obtain ⟨g0, cap0, h10, h20, _, _⟩ := h.els j hl
      have hgg : g = g0 := by rw [h1] at h10; simp at h10; exact h10.1
      refine ⟨g, cap, h1, by omega, ?_, fun i x hx => ?_⟩
      · rcases e5 with e5 | e5
        · rw [e5]; exact h3
        · rw [e5, hz3]; intro e; simp only [Option.some.injEq] at e; omega
      · rw [World.cell?_of_block (w := W1.alloc (.cells #[y] 58)) (w' := w') (a := ⟨g, i, none⟩) (e3.block g (by rw [hz3]; omega) (by intro e; exact h3 e.symm))]
        exact h4 i x hx
    · obtain rfl : j = ls.length := by omega
      have q1 : (vals ++ [y]).getD ls.length (.bool false) = y := by rw [← h.len]; simp [List.getD]
      have q2 : (ls ++ [l]).getD ls.length [] = l := by simp [List.getD]
      rw [q1, q2]
      have hne : v.ownBlock ≠ some gy := by intro e; have := (hlt gy e).2; omega
      refine ⟨gy, cy, hy, by omega, ?_, fun i x hx => ?_⟩
      · rcases e5 with e5 | e5
        · rw [e5]; exact hne
        · rw [e5, hz3]; intro e; simp only [Option.some.injEq] at e; omega
      · rw [World.cell?_of_block (w := W1.alloc (.cells #[y] 58)) (w' := w') (a := ⟨gy, i, none⟩) (e3.block gy (by rw [hz3]; omega) (by intro e; exact hne e.symm))]
        exact (b2.cell (p := ⟨gy, i, none⟩) hy2).trans (hy3 i x hx)
  · rw [e3.block q (by rw [hz3]; omega) (by intro e; have := (hlt q e.symm).1; omega)]
    exact b2.block q (by omega)

theorem join_nil_sep (ls : List (List UInt8)) : Lib.join ls [] = ls.flatten := by
  cases ls with
  | nil => rfl
  | cons x r => rw [Lib.join_cons]; simp [Lib.joinTail]
theorem strOf_bz (xs : List Int) : strOfNums xs = bz (Lib.bytesOf xs) := rfl

/-- bytes.Join of such lines, and what the bytes are as a string. -/
theorem joinL {W : World} {lo g n c : Nat} {vals : List Value} {ls : List (List UInt8)} (h : LB W lo (.slice (some ⟨g, 0, none⟩) n c) vals ls) (hn : n = ls.length) (hp : 0 < n) (hn8 : n ≤ 8) (hl : ∀ j, j < ls.length → 0 < (ls.getD j []).length ∧ (ls.getD j []).length ≤ 100) (hs : Lib.lens ls ≤ 1000) (hnc : n ≤ c) :
    Calls Try.prog 47 #[.slice (some ⟨g, 0, none⟩) n c, .slice none 0 0] W fun e w' => ∃ v', e = .returned v' ∧ Lib.FreshBytes W.heap.size w' v' ls.flatten ∧ Below W.heap.size W w' := by
  have hcell : ∀ j, j < n → W.cell? ⟨g, j, none⟩ = some (vals.getD j (.bool false)) := fun j hj => by
    have hj' : j < vals.length := by rw [h.len, ← hn]; exact hj
    have h1 := h.row.cells (g := g) rfl j (vals.getD j (.bool false)) (by simp [List.getD, List.getElem?_eq_getElem hj'])
    rw [Addr.add_lit] at h1
    simpa using h1
  by_cases h1 : n = 1
  · subst h1
    obtain ⟨l, rfl⟩ : ∃ l, ls = [l] := List.length_eq_one_iff.1 hn.symm
    obtain ⟨g0, c0, e1, e2, e3, e4⟩ := h.els 0 (by simp)
    have hl0 := hl 0 (by simp)
    have q : ([l] : List (List UInt8)).getD 0 [] = l := rfl
    rw [q] at e1 e4 hl0
    have hc0 := hcell 0 (by omega)
    rw [e1] at hc0
    have hJ := Try.bytes_Join_one g 0 c ⟨g0, 0, none⟩ c0 l (.slice none 0 0) W hc0 (fun i x hx => by rw [Addr.add_lit, Nat.zero_add]; exact e4 i x hx) hl0.1 (by omega)
    rw [show [l].flatten = l from by simp]
    exact hJ
  · have hP : Lib.PartsAt W ⟨g, 0, none⟩ vals ls := by
      refine ⟨h.len, fun i v hv => ?_, fun i v l hv hl' => ?_⟩
      · have hi : i < vals.length := (List.getElem?_eq_some_iff.1 hv).1
        rw [Addr.add_lit, Nat.zero_add, hcell i (by rw [hn, ← h.len]; exact hi)]
        simp [List.getD, hv]
      · have hi : i < ls.length := (List.getElem?_eq_some_iff.1 hl').1
        obtain ⟨g0, c0, e1, e2, e3, e4⟩ := h.els i hi
        have q1 : vals.getD i (.bool false) = v := by simp [List.getD, hv]
        have q2 : ls.getD i [] = l := by simp [List.getD, hl']
        rw [q1, q2] at e1
        rw [q2] at e4
        exact ⟨some ⟨g0, 0, none⟩, c0, e1, (fun hh => by cases hh), fun a ha i x hx => by cases ha; rw [Addr.add_lit, Nat.zero_add]; exact e4 i x hx⟩
    have hS : Lib.HoldsBytes W (.slice none 0 0) [] := ⟨none, 0, rfl, fun _ => rfl, fun a ha => by cases ha⟩
    have hJ := Try.bytes_Join_many g 0 n c vals ls (.slice none 0 0) [] W hn.symm (by omega) hP hnc hS (by omega) (by simp; omega)
    rw [join_nil_sep] at hJ
    exact hJ

theorem lens_flat (ls : List (List UInt8)) : Lib.lens ls = ls.flatten.length := by
  simp [Lib.lens, List.length_flatten]
theorem txT_flat (rows : List (List Int)) (k : Nat) : txT rows k = ((rows.take k).map lnL).flatten := by
  simp [txT, List.flatMap_def]
theorem map_lnL_succ (rows : List (List Int)) (k : Nat) (h : k < rows.length) : (rows.take (k + 1)).map lnL = (rows.take k).map lnL ++ [lnL (rows.getD k [])] := by
  rw [List.take_succ_eq_append_getElem h, List.map_append]
  simp [List.getD, List.getElem?_eq_getElem h]
set_option maxHeartbeats 4000000 in
theorem implCT (c : Int) (rows : List (List Int)) (f : Value) (B : Nat) (w : World) (ha : ss.Rows w B f rows) (hB : B ≤ w.heap.size) (hq : nb.Small rows) :
    Calls Try.prog 18 #[.agg #[.int .i64 c, f]] w fun e w' => e = .returned (.string (txK c rows)) ∧ Below w.heap.size w w' := by
  have hal := (Below.refl w.heap.size w).alloc (Nat.le_refl _) (.cells #[.int .i64 c, f] 27)
  have HV := hid (implVC c rows f B _ (ha.below hal) (by simp; omega) hq)
  have HAl := hid hal
  have HX := hid (fun (W : World) (b : Below (w.alloc (.cells #[.int .i64 c, f] 27)).heap.size (w.alloc (.cells #[.int .i64 c, f] 27)) W) => (show W.cell? ⟨w.heap.size, 1, none⟩ = some f from (b.cell (p := ⟨w.heap.size, 1, none⟩) (by simp)).trans (World.cell?_alloc_at _ _ _ _ rfl)))
  obtain ⟨ao, cap, hv⟩ := rows_val ha
  cases hok : colB c rows with
  | false =>
    rw [txK_no hok]
    rw [hok] at HV
    clear ha hok hal HX hq
    generalize rows.length = n at *
    subst hv
    go_enter Try.func18, Try.ntmps18
    go_wp2_with fail
    refine HV.out.mono ?_
    rintro e w1 ⟨rfl, b1⟩
    have HB1 := hid (HAl.out.trans (b1.mono HAl.out.size))
    clear b1
    go_wp2
    go_ret
    exact ⟨rfl, HB1.out⟩
  | true =>
    rw [txK_yes hok]
    rw [hok] at HV
    have hk := col_k hok
    have hn1 := hk.n1
    have hn8 := hk.n8
    have HLn : Hid (∀ j, j < rows.length → 0 < (rows.getD j []).length ∧ (rows.getD j []).length ≤ 8) := hid (fun j hj => by have h1 := hk.len j hj; have h2 := hk.c8; have h3 := hk.c1; omega)
    have HCar := hid hk.car
    have htl := txT_len hk rows.length (Nat.le_refl _)
    have HMl := hid (map_lnL_succ rows)
    have HFl : Hid (txT rows rows.length = (rows.map lnL).flatten) := hid (by rw [txT_flat, List.take_length])
    rcases ha with ⟨h0, _⟩ | ⟨hp, b, off, cap', V, hv', hb, hc⟩
    · rw [h0] at hn1; simp at hn1
    obtain ⟨i0, hi, hy0, hy1, hy2⟩ := info_parts infoL
    have HCc := hid hc
    have HTk : Hid ((rows.take rows.length).map lnL = rows.map lnL) := hid (by rw [List.take_length])
    obtain ⟨T, hT⟩ : ∃ T, T = txT rows rows.length := ⟨_, rfl⟩
    rw [← hT] at htl HFl ⊢
    obtain ⟨U, hU⟩ : ∃ U, U = bz T := ⟨_, rfl⟩
    rw [← hU]
    have HU := hid hU
    clear hU
    obtain ⟨n, hnn⟩ : ∃ n, n = rows.length := ⟨_, rfl⟩
    rw [← hnn] at hv' hn1 hn8 HCc HLn HMl HTk HCar htl
    have HN := hid hnn
    clear hnn hv hc hk hok hp hal hq hT
    subst hv'
    go_enter Try.func18, Try.ntmps18
    go_wp2_with fail
    refine HV.out.mono ?_
    rintro e w1 ⟨rfl, b1⟩
    have HB1 := hid (HAl.out.trans (b1.mono HAl.out.size))
    have hs1 := HB1.out.size
    have c1 := HX.out w1 b1
    have hs0 : w.heap.size < w1.heap.size := by have := b1.size; simp at this; omega
    have HBx := hid b1
    clear b1 HV
    go_wp2_with (at_make; go_loud (refine wpList_make_own _ rfl _ _ 57 rfl w1.heap.size 58 i0 (.slice none 0 0) 1 Try.underlying57 hi hy0 hy1 .i64 .i64 _ n rfl rfl (by omega) (by rw [hy2]; omega) (by unfold maxLen; omega) (Nat.le_refl _) ?_; intro W3 hown3 hgrow3; have HS3 : Hid (LB W3 w1.heap.size (.slice (some ⟨w1.heap.size, 0, none⟩) 0 n) [] []) := hid (LB.ofRow hown3); have hB3 : Below w1.heap.size w1 W3 := ⟨hgrow3.os, hgrow3.tape, hgrow3.output, hgrow3.size, fun q hq => hgrow3.block q hq (by simp)⟩; have HB3 := hid hB3; have c1' := (hB3.cell (p := ⟨w.heap.size, 1, none⟩) (by show w.heap.size < w1.heap.size; omega)).trans c1; clear hown3 hgrow3 hB3))
    clear c1'
    go_loopw [3, 16] (fun z i wr => ∃ (k : Nat) (vals : List Value), k ≤ n ∧ i = .int .i64 k ∧ LB wr w1.heap.size z vals ((rows.take k).map lnL) ∧ Below w1.heap.size w1 wr) (fun _ i _ => n - (intOf i).toNat)
    case atStart => exact ⟨0, [], Nat.zero_le _, rfl, by simpa using HS3.out, HB3.out⟩
    case round =>
      obtain ⟨k, vals, hk, rfl, hlb, hbr⟩ := hrel
      have HLB := hid hlb
      have HBr := hid hbr
      have hzr := hbr.size
      clear hlb hbr HS3 HB3
      have HBw : Hid (Below w.heap.size w wr) := hid (HB1.out.trans (HBr.out.mono (by omega)))
      by_cases hlt : k < n
      · obtain ⟨hcv, hI⟩ := HCc.out k hlt
        have hcv2 := (HBw.out.cell (p := ⟨b, off + k, none⟩) (World.block_lt_of_cell? w _ hcv)).trans hcv
        have hsk := HLn.out k hlt
        have HLi := hid (implLine (rows.getD k []) (V k) B wr (hI.chg (Chg.ofBelow (lo := 0) HBw.out) (.inr (Nat.zero_le _))) (Nat.le_trans hB HBw.out.size) hsk.1 hsk.2 (fun q hq => HCar.out k q hlt hq))
        have HT2 := hid (HMl.out k hlt)
        have hLl : ((rows.take k).map lnL).length ≤ 1048576 := by simp; omega
        obtain ⟨a9, c9, hv9⟩ := ints_val hI
        obtain ⟨zo, zc, hz9⟩ := HLB.out.val
        have hk0 : (0 : Int) ≤ (k : Int) := by omega
        have hkn : (k : Int) < (n : Int) := by omega
        generalize lnL (rows.getD k []) = l at *
        generalize rows.getD k [] = xs at *
        generalize V k = u at *
        clear hcv hI hsk
        generalize xs.length = m9 at *
        obtain ⟨zl, hzl⟩ : ∃ z, z = ((rows.take k).map lnL).length := ⟨_, rfl⟩
        rw [← hzl] at hz9
        clear hzl
        subst hv9 hz9
        go_wp2_with fail
        refine HLi.out.mono ?_
        rintro e w2 ⟨v2, rfl, o2, b2⟩
        have B2 := hid b2
        have O2 := hid o2
        obtain ⟨g2, cp2, hv2, _, _, _⟩ := o2
        obtain ⟨l2, hl2⟩ : ∃ q, q = l.length := ⟨_, rfl⟩
        rw [← hl2] at hv2
        clear b2 hl2
        subst hv2
        go_wp2_with (at_builtin; go_loud (refine wp_appL rfl _ _ rfl w1.heap.size _ (.slice (some ⟨g2, 0, none⟩) l2 cp2) vals ((rows.take k).map lnL) l HLB.out B2.out O2.out rfl rfl hzr hLl ?_; intro v9 w9 hr9 hb9; have HR9 := hid hr9; have HB9 := hid ((HBr.out.trans (B2.out.mono hzr)).trans hb9); clear hr9 hb9))
        go_roundw
        case rel => exact ⟨k + 1, _, by omega, by go_num, by rw [HT2.out]; exact HR9.out, HB9.out⟩
        case measure => simp [intOf]; omega
      · obtain rfl : k = n := by omega
        have HLB2 := HLB.out
        rw [HTk.out] at HLB2
        obtain ⟨zo, zc, hz9⟩ := HLB2.val
        obtain ⟨g, rfl⟩ : ∃ g, zo = some ⟨g, 0, none⟩ := by
          rcases HLB2.row.2 with ⟨h1, h2⟩ | ⟨g, c9, cur, h1, _⟩
          · simp at h2; have := HN.out; rw [h2] at this; simp at this; omega
          · rw [hz9] at h1; simp only [Value.slice.injEq] at h1; exact ⟨g, h1.1⟩
        have hln : ((rows.map lnL).length) = k := by rw [List.length_map, ← HN.out]
        rw [hln] at hz9
        subst hz9
        have hkc : k ≤ zc := by
          rcases HLB2.row.2 with ⟨h1, h2⟩ | ⟨g', c9, cur, h1, _, _, h4, _⟩
          · rw [hln] at h2; omega
          · simp only [Value.slice.injEq] at h1; obtain ⟨_, _, rfl⟩ := h1; rw [hln] at h4; exact h4
        have HJ := hid (joinL HLB2 hln.symm (by omega) hn8 (fun j hj => by
          rw [List.length_map] at hj
          have e : (rows.map lnL).getD j [] = lnL (rows.getD j []) := by simp [List.getD, hj]
          rw [e]
          have := HLn.out j (by rw [HN.out]; exact hj)
          simp only [lnL, List.length_append, List.length_map, List.length_cons, List.length_nil]; omega) (by rw [lens_flat, ← HFl.out]; omega) hkc)
        rw [← HFl.out] at HJ
        clear HLB2 HLB hln
        go_wp2_with fail
        refine HJ.out.mono ?_
        rintro e w2 ⟨v2, rfl, hfb, b2⟩
        have HB2 := hid (HBw.out.trans (b2.mono HBw.out.size))
        obtain ⟨g2, c2, zs, rfl, hg2, hlc, hcm, hzl, hzr2, hby, hcl, hfz⟩ := hfb
        have hcv := run_convert_bytes_arg (P := Try.prog) w2 58 5 Try.underlying58 Try.underlying5 g2 0 T.length c2 (zs.take T.length) (by simp; omega) (fun i hi => by
          have := hcl i (by omega)
          rw [Nat.zero_add, this]
          simp [List.getD, hi]) 9 Try.underlying9
        rw [strOf_bz, hby, ← HU.out] at hcv
        clear b2 hg2 hlc hcm hzl hzr2 hby hcl hfz htl
        generalize T.length = tl at *
        go_wp2
        go_ret
        exact ⟨rfl, HB2.out⟩
end Go.Proofs.Ytnmnikpgjglonaa.cu
