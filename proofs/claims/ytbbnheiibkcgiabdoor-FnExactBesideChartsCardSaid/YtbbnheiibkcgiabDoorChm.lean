/-
  In one file: Ka9, Kb0, Cha, Lst, Chb, Chc, Chd, Che, Chf.
-/
import Derived.Test.YtbbnheiibkcgiabDoorKas
import Derived.Test.YtbbnheiibkcgiabDoorCmm
import Derived.Deep.RegionHeld3
import Derived.Deep.CutRange
import Derived.Deep.RegionLaw
import Derived.OwnWalk
import Derived.WalkKit
import Derived.Lib.AppendZeros
/- StacksOf of the model; ColumnsAfter of both sides. -/
namespace Go.Proofs.YtbbnheiibkcgiabDoor.kn
open Go.RowKit Go.Proofs.YtbbnheiibkcgiabDoor.sl Go.Proofs.YtbbnheiibkcgiabDoor.br Go.Proofs.YtbbnheiibkcgiabDoor.bw Go.Proofs.YtbbnheiibkcgiabDoor.st Go.Proofs.YtbbnheiibkcgiabDoor.cx Go.Proofs.YtbbnheiibkcgiabDoor.ro
set_option linter.unusedVariables false

theorem own9 (xs : List Int) (v : Value) (B : Nat) (w : World) (ha : Ints w B v xs) (hnil : fn.NilOk v) (hn : xs.length ≤ 1099511627776) :
    Calls Tryd.prog 33 #[v] w fun e w' => ∃ v', e = .returned v' ∧ sl.Own w' w.heap.size w'.heap.size v' xs ∧ Below w.heap.size w w' := by
  go_enter Tryd.func33, Tryd.ntmps33
  go_wp2_with (at_builtin; refine fn.wp_appendAll rfl _ _ rfl w.heap.size _ _ [] (Own.built w #[] rfl) rfl v xs B (ints_al ha _) hnil rfl (by simp) (by simp; omega) ?_; intro v' w1 o1 c1)
  go_ret
  refine ⟨v', rfl, by simpa using o1, ?_⟩
  exact ((Below.refl w.heap.size w).alloc (Nat.le_refl _) (.cells #[] 2)).trans (c1.below (B := w.heap.size) (by omega) (by simp))
theorem take_succ9 (R : List (List Int)) (j : Nat) (h : j < R.length) : R.take (j + 1) = R.take j ++ [R.getD j []] := by
  rw [List.take_succ_eq_append_getElem h]; simp [List.getD, List.getElem?_eq_getElem h]
theorem row8 (c : Int) (xs : List V) (j : Nat) (h : j < (chW c xs).length) : ((chW c xs).getD j []).length ≤ 8 := by
  cases hb : chB c xs
  · rw [chW_no hb] at h; simp at h
  · have e : chW c xs = chL c xs xs.length := by rw [chW, if_pos hb]
    rw [e] at h ⊢
    rw [chL_len] at h
    have : (chL c xs xs.length).getD j [] = nowAt c xs (j + 1) := by simp [chL, List.getD, h]
    rw [this]; exact row_len c xs j
theorem tot_b9 (rows : List (List Int)) (M : Nat) (h : ∀ r ∈ rows, r.length ≤ M) : ss.tot rows ≤ rows.length * M := by
  have e : ss.tot rows = (rows.map List.length).sum := by
    unfold ss.tot ss.pre ss.lens
    rw [List.take_of_length_le (by simp)]
  rw [e]
  clear e
  induction rows with
  | nil => simp
  | cons x rows ih =>
    have h1 := h x (by simp)
    have h2 := ih (fun r hr => h r (by simp [hr]))
    rw [List.map_cons, List.sum_cons, List.length_cons, Nat.succ_mul]
    omega
theorem chW_tot (c : Int) (xs : List V) : (chW c xs).length ≤ 1048576 ∧ ss.Short (chW c xs) 1099511627776 ∧ ss.tot (chW c xs) ≤ 1048576 := by
  have h1 := chW_len c xs
  refine ⟨by omega, fun j hj => by have := row8 c xs j hj; omega, ?_⟩
  have := tot_b9 (chW c xs) 8 (fun r hr => by
    obtain ⟨j, hj⟩ := List.getElem?_of_mem hr
    have hl : j < (chW c xs).length := (List.getElem?_eq_some_iff.1 hj).1
    have := row8 c xs j hl
    rw [show (chW c xs).getD j [] = r from by simp [List.getD, hj]] at this
    exact this)
  have h3 : (chW c xs).length * 8 ≤ 8 * 8 := Nat.mul_le_mul_right 8 h1
  omega
/-- One row of the answer. -/
theorem rown_at {w : World} {lo hi : Nat} {v : Value} {R : List (List Int)} (h : ss.ROwn w lo hi v R) (j : Nat) (hj : j < R.length) :
    ∃ g off cap V, v = .slice (some ⟨g, off, none⟩) R.length cap ∧ g < w.heap.size ∧ w.cell? ⟨g, off + j, none⟩ = some V ∧ Ints w w.heap.size V (R.getD j []) ∧ fn.NilOk V := by
  rcases h.2 with ⟨h0, _⟩ | ⟨hp, g, off, cap, V, Lo, Hi, hv, h1, h2, h3⟩
  · rw [h0] at hj; simp at hj
  · have := h3 j hj
    exact ⟨g, off, cap, V j, hv, Nat.lt_of_lt_of_le h2 h.1, this.1, this.2.1.ints.mono this.2.1.2.2, fn.nilok_own this.2.1⟩

end Go.Proofs.YtbbnheiibkcgiabDoor.kn

/- ColumnsAfter of both sides. -/
namespace Go.Proofs.YtbbnheiibkcgiabDoor.kn
open Go.RowKit Go.Proofs.YtbbnheiibkcgiabDoor.sl Go.Proofs.YtbbnheiibkcgiabDoor.br Go.Proofs.YtbbnheiibkcgiabDoor.bw Go.Proofs.YtbbnheiibkcgiabDoor.st Go.Proofs.YtbbnheiibkcgiabDoor.cx Go.Proofs.YtbbnheiibkcgiabDoor.ro
set_option linter.unusedVariables false

def colW (c : Int) (xs : List V) : List Int := (chW c xs).map fun r => (r.length : Int)
theorem colW_len (c : Int) (xs : List V) : (colW c xs).length ≤ 8 := by rw [colW, List.length_map]; exact chW_len c xs
theorem col_succ (R : List (List Int)) (j : Nat) (h : j < R.length) : (R.take (j + 1)).map (fun r => (r.length : Int)) = (R.take j).map (fun r => (r.length : Int)) ++ [((R.getD j []).length : Int)] := by
  rw [take_succ9 R j h, List.map_append]; rfl

set_option maxRecDepth 100000 in
set_option maxHeartbeats 2000000 in
theorem implCol (c : Int) (xs : List V) (f : Value) (B : Nat) (w : World) (ha : Infs w B f xs) (hB : B ≤ w.heap.size) (hq : Small xs) (hT : stb.Tab w) :
    Calls Tryd.prog 36 #[.agg #[.int .i64 c, f]] w fun e w' => ∃ v', e = .returned (.tuple #[v', .int .i64 (chC c xs)]) ∧ sl.Own w' w.heap.size w'.heap.size v' (colW c xs) ∧ Below w.heap.size w w' := by
  have hb0 := (Below.refl w.heap.size w).alloc (Nat.le_refl _) (.cells #[.int .i64 c, f] 28)
  have HS := hid (implStk c xs f B _ (ha.below hb0) (Nat.le_trans hB hb0.size) hq (stb.carry hT hb0))
  have HB0 := hid hb0
  obtain ⟨ao, cap, hv⟩ := infs_val ha
  clear ha hb0 hT
  generalize xs.length = n at *
  subst hv
  have HL8 := hid (chW_len c xs)
  have HR8 := hid (row8 c xs)
  obtain ⟨U, hU⟩ : ∃ U, U = colW c xs := ⟨_, rfl⟩
  rw [← hU]
  have HU2 : Hid (U = (chW c xs).map fun r => (r.length : Int)) := hid hU
  clear hU
  generalize chC c xs = k at *
  generalize chW c xs = R at *
  obtain ⟨i0, hi, hz0, hz1, hz2⟩ := info_parts info64
  obtain ⟨m, hm⟩ : ∃ m, m = R.length := ⟨_, rfl⟩
  have HM := hid hm
  have hm8 : m ≤ 8 := by rw [hm]; exact HL8.out
  clear hm HL8
  go_enter Tryd.func36, Tryd.ntmps36
  go_wp2_with fail
  refine HS.out.mono ?_
  rintro e w1 ⟨v1, rfl, o1, b1⟩
  have B1 := hid (HB0.out.trans (b1.mono HB0.out.size))
  have O1 := hid o1
  obtain ⟨ao1, cp1, hv1⟩ := ss.rown_val o1
  clear b1 o1 HS
  rw [← HM.out] at hv1
  subst hv1
  go_wp2_with (at_make; refine wpList_make_own _ rfl _ _ 48 rfl w1.heap.size 2 i0 (.int .i64 0) 1 Tryd.underlying48 hi hz0 hz1 .i64 .i64 _ m rfl rfl (by omega) (by rw [hz2]; omega) (by unfold maxLen; omega) (Nat.le_refl _) ?_; intro W3 hown3 hgrow3; have HS3 : Hid (sl.Own W3 w1.heap.size W3.heap.size (.slice (some ⟨w1.heap.size, 0, none⟩) 0 m) []) := hid (sl.Own.mk' (xs := []) hown3); have HB3 : Hid (Below w1.heap.size w1 W3) := hid ⟨hgrow3.os, hgrow3.tape, hgrow3.output, hgrow3.size, fun q hq => hgrow3.block q hq (by simp)⟩; clear hown3 hgrow3)
  go_loopw [6, 19] (fun lv iv wr => ∃ (j : Nat) (z : Value), j ≤ m ∧ lv = z ∧ iv = .int .i64 j ∧ sl.Own wr w1.heap.size wr.heap.size z ((R.take j).map fun r => (r.length : Int)) ∧ Below w1.heap.size w1 wr) (fun _ iv _ => m - (intOf iv).toNat)
  case atStart => exact ⟨0, _, Nat.zero_le _, rfl, rfl, HS3.out, HB3.out⟩
  case round =>
    obtain ⟨j, z, hj, rfl, rfl, hsr, hbel⟩ := hrel
    have HSr := hid hsr
    have HBr := hid hbel
    have hzr := hbel.size
    clear hsr hbel HS3 HB3
    by_cases hlt : j < m
    · have hjR : j < R.length := by rw [← HM.out]; exact hlt
      obtain ⟨g, off, cp, V, hvv, hg, hc, hi', hni⟩ := rown_at O1.out j hjR
      rw [← HM.out] at hvv
      simp only [Value.slice.injEq, true_and] at hvv
      obtain ⟨rfl, rfl⟩ := hvv
      have hc1 := (HBr.out.cell (p := ⟨g, off + j, none⟩) hg).trans hc
      have h8 := HR8.out j hjR
      have HTk := hid (col_succ R j hjR)
      have hTl : ((R.take j).map fun r => (r.length : Int)).length ≤ 8 := by rw [List.length_map, List.length_take]; omega
      obtain ⟨a5, c5, hV⟩ := ints_val hi'
      clear hc hi' hni
      generalize (R.getD j []).length = rl at *
      subst hV
      go_wp2_with (at_builtin; refine wp_append rfl _ _ rfl w1.heap.size wr.heap.size _ ((R.take j).map fun r => (r.length : Int)) (rl : Int) HSr.out rfl rfl hzr (by omega) ?_; intro v9 w9 hown1 hchg1 hsz1; have HO1 := hid hown1; have HB1 := hid (HBr.out.trans (hchg1.below (Nat.le_refl _) hzr)); clear hown1 hchg1)
      go_roundw
      case rel => exact ⟨j + 1, _, by omega, rfl, by go_num, by rw [HTk.out]; exact HO1.out, HB1.out⟩
      case measure => simp [intOf]; omega
    · obtain rfl : j = m := by omega
      go_wp2
      go_ret2
      have hR := HSr.out.lo B1.out.size
      rw [HM.out, List.take_length, ← HU2.out] at hR
      exact ⟨_, rfl, hR, B1.out.trans (HBr.out.mono B1.out.size)⟩
end Go.Proofs.YtbbnheiibkcgiabDoor.kn

/- chartOf of the program: a chart with copies of rows. -/
namespace Go.Proofs.YtbbnheiibkcgiabDoor.cy
open Go.RowKit Go.Proofs.YtbbnheiibkcgiabDoor.sl Go.Proofs.YtbbnheiibkcgiabDoor.br Go.Proofs.YtbbnheiibkcgiabDoor.ss Go.Proofs.YtbbnheiibkcgiabDoor.ro Go.Proofs.YtbbnheiibkcgiabDoor.cm Go.Proofs.YtbbnheiibkcgiabDoor.cx
set_option linter.unusedVariables false
set_option linter.unusedSimpArgs false
set_option maxRecDepth 100000

/-- Rows of charts that are built by append, apart from a block. -/
structure RG (W : World) (lo gb : Nat) (v : Value) (L : List Rw) : Prop where
  row : W.ownsRow lo 50 3 v L.length (flatW L)
  els : ∃ Lo Hi : Nat → Nat, ∀ j, j < L.length → sl.Own W (Lo j) (Hi j) (L.getD j dz).f (L.getD j dz).r.ps ∧ lo ≤ Lo j ∧ (∀ g, v.ownBlock = some g → g < Lo j ∨ Hi j ≤ g) ∧ (∀ i, i < j → Hi i ≤ Lo j ∨ Hi j ≤ Lo i) ∧ (gb < Lo j ∨ Hi j ≤ gb)
theorem RG.rw {W : World} {lo gb : Nat} {v : Value} {L : List Rw} (h : RG W lo gb v L) : RW W lo v L := by
  obtain ⟨Lo, Hi, he⟩ := h.els
  exact ⟨h.row, Lo, Hi, fun j hj => ⟨(he j hj).1, (he j hj).2.1, (he j hj).2.2.1, (he j hj).2.2.2.1⟩⟩
theorem RG.below {W W' : World} {lo gb : Nat} {v : Value} {L : List Rw} (h : RG W lo gb v L) (b : Below W.heap.size W W') : RG W' lo gb v L := by
  obtain ⟨Lo, Hi, he⟩ := h.els
  refine ⟨World.ownsRow.kept h.row (wk.grN b) (by cases v.ownBlock <;> simp), Lo, Hi, fun j hj => ?_⟩
  obtain ⟨h1, h2⟩ := he j hj
  exact ⟨h1.chg (Chg.ofBelow (lo := 0) b) (.inr (.inr (Nat.zero_le _))), h2⟩
theorem RG.ofRow {W : World} {lo gb : Nat} {v : Value} (h : W.ownsRow lo 50 3 v 0 []) : RG W lo gb v [] :=
  ⟨h, fun _ => 0, fun _ => 0, fun j hj => by simp at hj⟩
theorem RG.set {W : World} {lo gb : Nat} {v : Value} {L : List Rw} (h : RG W lo gb v L) (hv : ∀ b, v.ownBlock = some b → b ≠ gb) (o : Nat) (u : Value) : RG (W.setCell ⟨gb, o, none⟩ u) lo gb v L := by
  obtain ⟨Lo, Hi, he⟩ := h.els
  have ch := chg_set W gb o u
  have hg : W.grownBy (W.setCell ⟨gb, o, none⟩ u) (some gb) := ⟨ch.os, ch.tape, ch.output, ch.size, fun k hk hne => ch.block k hk (fun hh => hne (by congr 1; omega))⟩
  refine ⟨World.ownsRow.kept h.row hg ?_, Lo, Hi, fun j hj => ?_⟩
  · cases hv' : v.ownBlock with
    | none => exact .inl rfl
    | some g =>
      right
      intro e
      simp only [Option.some.injEq] at e
      exact hv g hv' e
  · obtain ⟨h1, h2, h3, h4, h5⟩ := he j hj
    exact ⟨own_other h1 gb o u (by omega), h2, h3, h4, h5⟩
theorem RG.app {Wr W1 W2 W' : World} {lo gb : Nat} {v v' : Value} {L : List Rw} {k : Rw} (h : RG Wr lo gb v L) (hgb : gb < Wr.heap.size) (b : Below Wr.heap.size Wr W1) (oy : sl.Own W1 Wr.heap.size W1.heap.size k.f k.r.ps) (b2 : Below W1.heap.size W1 W2) (hlo : lo ≤ Wr.heap.size)
    (hr : W'.ownsRow lo 50 3 v' (L.length + 1) (flatW L ++ [.int .i64 k.r.a0, .int .i64 k.r.a1, k.f])) (hg : W2.grownBy W' v.ownBlock) (h5 : v'.ownBlock = v.ownBlock ∨ v'.ownBlock = some W2.heap.size) : RG W' lo gb v' (L ++ [k]) := by
  have hs1 := b.size
  have hs2 := b2.size
  have oy2 : sl.Own W2 Wr.heap.size W1.heap.size k.f k.r.ps := oy.chg (Chg.ofBelow (lo := 0) b2) (.inr (.inr (Nat.zero_le _)))
  obtain ⟨Lo, Hi, he⟩ := h.els
  have hlt : ∀ k, v.ownBlock = some k → k < Wr.heap.size := fun k hk => (h.row.lt k hk).2
  refine ⟨by rw [flatW_app, flatW_one, List.length_append]; exact hr, fun j => if j < L.length then Lo j else Wr.heap.size, fun j => if j < L.length then Hi j else W1.heap.size, fun j hj => ?_⟩
  simp only [List.length_append, List.length_cons, List.length_nil, Nat.zero_add] at hj
  by_cases hl : j < L.length
  · rw [getD_app1 L k j hl]
    obtain ⟨a1, a2, a3, a4, a5⟩ := he j hl
    have hh := a1.2.2
    have o2 := (a1.chg (Chg.ofBelow (lo := 0) b) (.inr (.inr (Nat.zero_le _)))).chg (Chg.ofBelow (lo := 0) b2) (.inr (.inr (Nat.zero_le _)))
    simp only [if_pos hl]
    refine ⟨wk.own_by o2 hg a3, a2, fun g e => ?_, fun i hi => ?_, ?_⟩
    · rcases h5 with h5 | h5
      · exact a3 g (by rw [← h5]; exact e)
      · rw [h5] at e
        simp only [Option.some.injEq] at e
        omega
    · rw [if_pos (show i < L.length by omega)]
      rw [if_pos (show i < L.length by omega)]
      exact a4 i hi
    · exact a5
  · obtain rfl : j = L.length := by omega
    rw [getD_app2 L k]
    simp only [if_neg (Nat.lt_irrefl _)]
    refine ⟨wk.own_by oy2 hg fun k hk => .inl (hlt k hk), hlo, fun g e => ?_, fun i hi => ?_, ?_⟩
    · rcases h5 with h5 | h5
      · exact .inl (hlt g (by rw [← h5]; exact e))
      · rw [h5] at e
        simp only [Option.some.injEq] at e
        omega
    · simp only [if_pos hi]
      have := (he i hi).1.2.2
      omega
    · exact .inl hgb

/-- The box of the chart under way, and its rows so far. -/
structure MW (w1 W : World) (c : Int) (g : Nat) (z : Value) (L : List Rw) : Prop where
  g0 : w1.heap.size ≤ g
  g1 : g < W.heap.size
  c0 : W.cell? ⟨g, 0, none⟩ = some (.int .i64 c)
  c1 : W.cell? ⟨g, 1, none⟩ = some z
  fz : W.frozen? ⟨g, 1, none⟩ = false
  sr : RG W w1.heap.size g z L
  ap : ∀ b, z.ownBlock = some b → b ≠ g
  bl : Below w1.heap.size w1 W
theorem MW.below {w1 W W' : World} {c : Int} {g : Nat} {z : Value} {L : List Rw} (h : MW w1 W c g z L) (b : Below W.heap.size W W') : MW w1 W' c g z L :=
  ⟨h.g0, Nat.lt_of_lt_of_le h.g1 b.size, (b.cell (p := ⟨g, 0, none⟩) h.g1).trans h.c0, (b.cell (p := ⟨g, 1, none⟩) h.g1).trans h.c1, (b.frozen (p := ⟨g, 1, none⟩) h.g1).trans h.fz, h.sr.below b, h.ap, h.bl.trans (b.mono h.bl.size)⟩
theorem mw_a {w1 W3 : World} (c : Int) (n : Nat) (hn : n ≤ 1048576) (h : W3.ownsRow w1.heap.size 50 3 (.slice (some ⟨w1.heap.size, 0, none⟩) 0 n) 0 []) (b : Below w1.heap.size w1 W3) : MW w1 (W3.alloc (.cells #[.int .i64 c, .slice (some ⟨w1.heap.size, 0, none⟩) 0 n] 28)) c W3.heap.size (.slice (some ⟨w1.heap.size, 0, none⟩) 0 n) [] := by
  have hlt := (h.lt w1.heap.size rfl).2
  have b2 : Below W3.heap.size W3 (W3.alloc (.cells #[.int .i64 c, .slice (some ⟨w1.heap.size, 0, none⟩) 0 n] 28)) := (Below.refl _ _).alloc (Nat.le_refl _) _
  have s1 : RG W3 w1.heap.size W3.heap.size (.slice (some ⟨w1.heap.size, 0, none⟩) 0 n) [] := RG.ofRow h
  refine ⟨b.size, by first | (simp; done) | (simp; omega), ?_, ?_, ?_, s1.below b2, fun b hb => ?_, b.trans (b2.mono b.size)⟩
  · go_simp
  · go_simp
  · go_simp
  · simp [Value.ownBlock] at hb; omega
theorem mw_c (w1 : World) (c : Int) : MW w1 (w1.alloc (.cells #[.int .i64 c, .slice none 0 0] 28)) c w1.heap.size (.slice none 0 0) [] := by
  have b1 : Below w1.heap.size w1 (w1.alloc (.cells #[.int .i64 c, .slice none 0 0] 28)) := (Below.refl _ _).alloc (Nat.le_refl _) _
  refine ⟨by omega, by first | (simp; done) | (simp; omega), ?_, ?_, ?_, RG.ofRow (World.ownsRow_nil _ _ _ _), fun b hb => ?_, b1⟩
  · go_simp
  · go_simp
  · go_simp
  · simp [Value.ownBlock] at hb
/-- The next row is stored. -/
theorem MW.next {w1 wr w2 w9 : World} {c : Int} {g : Nat} {z v9 : Value} {L : List Rw} {k : Rw} {W2 : World} (h : MW w1 wr c g z L) (b : Below wr.heap.size wr w2) (oy : sl.Own w2 wr.heap.size w2.heap.size k.f k.r.ps) (b2 : Below w2.heap.size w2 W2)
    (hr : w9.ownsRow w1.heap.size 50 3 v9 (L.length + 1) (flatW L ++ [.int .i64 k.r.a0, .int .i64 k.r.a1, k.f])) (hg : W2.grownBy w9 z.ownBlock) (h5 : v9.ownBlock = z.ownBlock ∨ v9.ownBlock = some W2.heap.size) :
    MW w1 (w9.setCell ⟨g, 1, none⟩ v9) c g v9 (L ++ [k]) ∧ w9.cell? ⟨g, 1, none⟩ = some z ∧ w9.frozen? ⟨g, 1, none⟩ = false ∧ Below w1.heap.size w1 w9 := by
  have hlo := h.bl.size
  have hs1 := b.size
  have hs2 := b2.size
  have hg1 := h.g1
  have hs9 := hg.size
  have bb := b.trans (b2.mono hs1)
  have HS := h.sr.app hg1 b oy b2 hlo hr hg h5
  have hb9 : w9.heap[g]? = W2.heap[g]? := hg.block g (by omega) (fun e => h.ap g (by first | exact e | exact e.symm) rfl)
  have t1 := (World.cell?_of_block (a := ⟨g, 1, none⟩) hb9).trans ((bb.cell (p := ⟨g, 1, none⟩) hg1).trans h.c1)
  have t2 := (World.frozen?_of_block (a := ⟨g, 1, none⟩) hb9).trans ((bb.frozen (p := ⟨g, 1, none⟩) hg1).trans h.fz)
  have t0 := (World.cell?_of_block (a := ⟨g, 0, none⟩) hb9).trans ((bb.cell (p := ⟨g, 0, none⟩) hg1).trans h.c0)
  have HB : Below w1.heap.size w1 w9 := (h.bl.trans (bb.mono hlo)).grown hg (by omega) (fun j e => by have := (h.sr.row.lt j e).1; omega)
  have hap : ∀ b, v9.ownBlock = some b → b ≠ g := fun b hb e => by
    rcases h5 with h5 | h5
    · rw [h5] at hb; exact h.ap b hb e
    · rw [h5] at hb; simp only [Option.some.injEq] at hb; omega
  exact ⟨⟨h.g0, by simp; omega, by rw [ss.other_at (by omega)]; exact t0, ss.same_at t1, by rw [World.frozen?_setCell]; exact t2, HS.set hap _ _, hap, HB.setCell h.g0 _⟩, t1, t2, HB⟩

/-- append(rows, row): one operation of a region. -/
theorem step_appW {ops : Array Oper} {o : Oper} {a : Act} {K : Act → World → Prop} {Q : Exit → Act → World → Prop} {E : Prop} {w : World} (hgd : o.guard = none) (s x : Operand)
    (hop : o.op = .call { callee := .builtin .append, args := #[s, x], argTypes := #[26, 26] })
    (lo : Nat) (v : Value) (n : Nat) (vals : List Value) (ho : w.ownsRow lo 50 3 v n vals) (hs : a.eval s = v) (b c1 : Nat) (k : Rw) (hx : a.eval x = .slice (some ⟨b, 0, none⟩) 1 c1) (hc0 : w.cell? ⟨b, 0, none⟩ = some (.int .i64 k.r.a0)) (hc1 : w.cell? ⟨b, 1, none⟩ = some (.int .i64 k.r.a1)) (hc2 : w.cell? ⟨b, 2, none⟩ = some k.f) (hy1 : k.f.oneCell' = true) (hlo : lo ≤ w.heap.size) (hn : n ≤ 1048576)
    (hK : ∀ v' w', w'.ownsRow lo 50 3 v' (n + 1) (vals ++ [.int .i64 k.r.a0, .int .i64 k.r.a1, k.f]) → w.grownBy w' v.ownBlock → (v'.ownBlock = v.ownBlock ∨ v'.ownBlock = some w.heap.size) → K (a.put o.dst v') w') : if Region.wanted o (yielded ops a.tmps) = true then Oper.wp Tryd.prog o a w K Q else E := by
  have hw : Region.wanted o (yielded ops a.tmps) = true := by simp [Region.wanted, hgd]
  rw [if_pos hw]
  obtain ⟨i0, hi', hz0, hz1, hz2⟩ := info_parts infoRw
  obtain ⟨v', w', hr, h2, h3, h4, h5⟩ := run_append_own_at (P := Tryd.prog) w lo 26 o.type 50 i0 (.agg #[.int .i64 0, .int .i64 0, .slice none 0 0]) 3 40 Tryd.underlying26 hi' hz0 hz1 hz2 rfl (by decide) v n vals ho ⟨b, 0, none⟩ 1 c1 [.int .i64 k.r.a0, .int .i64 k.r.a1, k.f] (by simp)
    (fun j u hj => by
      match j, hj with
      | 0, hj =>
        simp only [List.getElem?_cons_zero, Option.some.injEq] at hj
        subst hj
        rw [Addr.add_lit]; exact hc0
      | 1, hj =>
        simp only [List.getElem?_cons_succ, List.getElem?_cons_zero, Option.some.injEq] at hj
        subst hj
        rw [Addr.add_lit]; exact hc1
      | 2, hj =>
        simp only [List.getElem?_cons_succ, List.getElem?_cons_zero, Option.some.injEq] at hj
        subst hj
        rw [Addr.add_lit]; exact hc2)
    (fun u hu => by
      simp at hu
      rcases hu with e | e | e
      · rw [e]; rfl
      · rw [e]; rfl
      · rw [e]; exact hy1) (by unfold maxLen; omega) (by omega) hlo
  unfold Oper.wp execOp
  simp only [hop, resolve, invoke, builtin, Sem.run_bind, Sem.run_pure, Result.andThen_ok, List.map_toArray, List.map_cons, List.map_nil, hs, hx, hr]
  exact hK v' w' h2 h3 h5

set_option maxHeartbeats 4000000 in
theorem implCopy (x0 x1 : Int) (ps : List Int) (f : Value) (B : Nat) (w : World) (ha : Ints w B f ps) (hnil : fn.NilOk f) (hB : B ≤ w.heap.size) (hn : ps.length ≤ 1048576) :
    Calls Tryd.prog 37 #[.agg #[.int .i64 x0, .int .i64 x1, f]] w fun e w' => ∃ f', e = .returned (.agg #[.int .i64 x0, .int .i64 x1, f']) ∧ sl.Own w' w.heap.size w'.heap.size f' ps ∧ Below w.heap.size w w' := by
  have HB0 : Hid (Below w.heap.size w ((w.alloc (.cells #[.int .i64 x0, .int .i64 x1, f] 50)).alloc (.cells #[.int .i64 0, .int .i64 0, .slice none 0 0] 50))) := hid (((Below.refl _ w).alloc (Nat.le_refl _) _).alloc (by simp) _)
  have HBk := hid (fn.clone ps f B _ (ha.chg (Chg.ofBelow (lo := 0) HB0.out) (.inr (Nat.zero_le _))) hnil hn)
  obtain ⟨ao, cap, hv⟩ := ints_val ha
  clear ha hnil
  generalize ps.length = n at *
  subst hv
  have hz0 : ((w.alloc (.cells #[.int .i64 x0, .int .i64 x1, .slice ao n cap] 50)).alloc (.cells #[.int .i64 0, .int .i64 0, .slice none 0 0] 50)).heap.size = w.heap.size + 2 := by simp
  go_enter Tryd.func37, Tryd.ntmps37
  go_wp2_with fail
  refine HBk.out.mono ?_
  rintro e w1 ⟨v1, rfl, o1, b1⟩
  rw [hz0] at b1 o1
  have HB1 := hid (HB0.out.trans (b1.mono (by omega)))
  have c0 : w1.cell? ⟨w.heap.size, 0, none⟩ = some (.int .i64 x0) := (b1.cell (p := ⟨w.heap.size, 0, none⟩) (by simp)).trans (by go_simp)
  have c1 : w1.cell? ⟨w.heap.size, 1, none⟩ = some (.int .i64 x1) := (b1.cell (p := ⟨w.heap.size, 1, none⟩) (by simp)).trans (by go_simp)
  have c2 : w1.cell? ⟨w.heap.size, 2, none⟩ = some (.slice ao n cap) := (b1.cell (p := ⟨w.heap.size, 2, none⟩) (by simp)).trans (by go_simp)
  have c3 : w1.frozen? ⟨w.heap.size, 2, none⟩ = false := (b1.frozen (p := ⟨w.heap.size, 2, none⟩) (by simp)).trans (by go_simp)
  have d0 : w1.cell? ⟨w.heap.size + 1, 0, none⟩ = some (.int .i64 0) := (b1.cell (p := ⟨w.heap.size + 1, 0, none⟩) (by simp)).trans (by go_simp)
  have d1 : w1.cell? ⟨w.heap.size + 1, 1, none⟩ = some (.int .i64 0) := (b1.cell (p := ⟨w.heap.size + 1, 1, none⟩) (by simp)).trans (by go_simp)
  have d2 : w1.cell? ⟨w.heap.size + 1, 2, none⟩ = some (.slice none 0 0) := (b1.cell (p := ⟨w.heap.size + 1, 2, none⟩) (by simp)).trans (by go_simp)
  have e0 : w1.frozen? ⟨w.heap.size + 1, 0, none⟩ = false := (b1.frozen (p := ⟨w.heap.size + 1, 0, none⟩) (by simp)).trans (by go_simp)
  have e1 : w1.frozen? ⟨w.heap.size + 1, 1, none⟩ = false := (b1.frozen (p := ⟨w.heap.size + 1, 1, none⟩) (by simp)).trans (by go_simp)
  have e2 : w1.frozen? ⟨w.heap.size + 1, 2, none⟩ = false := (b1.frozen (p := ⟨w.heap.size + 1, 2, none⟩) (by simp)).trans (by go_simp)
  have O1 := hid o1
  obtain ⟨ao1, cap1, hv1⟩ := own_val o1
  generalize ps.length = m at hv1
  clear b1 o1
  subst hv1
  go_wp2
  refine bodyPost_ret (v := .agg #[.int .i64 x0, .int .i64 x1, .slice ao1 m cap1]) (by simp [results, Tryd.results37, go_sem, d0, d1, d2]) rfl ⟨.slice ao1 m cap1, rfl, ?_, ?_⟩
  · have h2 := own_other (own_other (own_other (own_other O1.out w.heap.size 2 (.slice ao1 m cap1) (by omega)) (w.heap.size + 1) 0 (.int .i64 x0) (by omega)) (w.heap.size + 1) 1 (.int .i64 x1) (by omega)) (w.heap.size + 1) 2 (.slice ao1 m cap1) (by omega)
    have h3 := h2.lo (lo' := w.heap.size) (by omega)
    simpa using h3
  · exact (((HB1.out.setCell (by simp) _).setCell (by simp) _).setCell (by simp) _).setCell (by simp) _

def coC (c : Int) (xs : List V) : Int := if chB c xs then c else 0
def coR (c : Int) (xs : List V) : List V := if chB c xs then xs else []
def coK (c : Int) (xs : List V) : Int := if chB c xs then 0 else 5
theorem take_succV (xs : List V) (k : Nat) (h : k < xs.length) : xs.take (k + 1) = xs.take k ++ [xs.getD k iz] := by
  rw [List.take_succ_eq_append_getElem h]; simp [List.getD, List.getElem?_eq_getElem h]
theorem vEta (x : V) : (⟨x.a0, x.a1, x.ps⟩ : V) = x := rfl

set_option maxHeartbeats 8000000 in
theorem implCO (c : Int) (xs : List V) (f : Value) (B : Nat) (w : World) (ha : InfsN w B f xs) (hB : B ≤ w.heap.size) (hq : Small xs) (hT : stb.Tab w) :
    Calls Tryd.prog 23 #[.int .i64 c, f] w fun e w' => ∃ ao cap, e = .returned (.tuple #[.agg #[.int .i64 (coC c xs), .slice ao (coR c xs).length cap], .int .i64 (coK c xs)]) ∧ IOwn w' w.heap.size w'.heap.size (.slice ao (coR c xs).length cap) (coR c xs) ∧ Below w.heap.size w w' := by
  have HB0 : Hid (Below w.heap.size w (w.alloc (.cells #[.int .i64 0, .slice none 0 0] 28))) := hid ((Below.refl _ w).alloc (Nat.le_refl _) _)
  have hz0 : (w.alloc (.cells #[.int .i64 0, .slice none 0 0] 28)).heap.size = w.heap.size + 1 := by simp
  have HX := hid (fun (w1 : World) (b1 : Below (w.heap.size + 1) (w.alloc (.cells #[.int .i64 0, .slice none 0 0] 28)) w1) => (show w1.cell? ⟨w.heap.size, 0, none⟩ = some (.int .i64 0) ∧ w1.cell? ⟨w.heap.size, 1, none⟩ = some (.slice none 0 0) ∧ w1.frozen? ⟨w.heap.size, 0, none⟩ = false ∧ w1.frozen? ⟨w.heap.size, 1, none⟩ = false from
    ⟨(b1.cell (p := ⟨w.heap.size, 0, none⟩) (by simp)).trans (by go_simp), (b1.cell (p := ⟨w.heap.size, 1, none⟩) (by simp)).trans (by go_simp), (b1.frozen (p := ⟨w.heap.size, 0, none⟩) (by simp)).trans (by go_simp), (b1.frozen (p := ⟨w.heap.size, 1, none⟩) (by simp)).trans (by go_simp)⟩))
  have HV := hid (fun (z : Value) (W : World) (b : Below w.heap.size w W) (h : Infs W W.heap.size z xs) => kn.implVC c xs z W.heap.size W h (Nat.le_refl _) hq (stb.carry hT b))
  have HC : Hid (coC c xs = if chB c xs then c else 0) := hid rfl
  have HR : Hid (coR c xs = if chB c xs then xs else []) := hid rfl
  have HK : Hid (coK c xs = if chB c xs then 0 else 5) := hid rfl
  have hlen := hq.len
  have HSh := hid hq.short
  obtain ⟨ao, cap, hv⟩ := infs_val ha.infs
  have HA := hid ha
  clear ha hq hT
  generalize coC c xs = C at *
  generalize coR c xs = R at *
  generalize coK c xs = K at *
  obtain ⟨q, hq⟩ : ∃ q, q = chB c xs := ⟨_, rfl⟩
  rw [← hq] at HV HC HR HK
  clear hq
  have HTk := hid (take_succV xs)
  have HAll := hid (List.take_length (l := xs))
  obtain ⟨n, hnn⟩ : ∃ n, n = xs.length := ⟨_, rfl⟩
  have HN := hid hnn
  rw [← hnn] at hv hlen HSh HTk HAll
  clear hnn
  subst hv
  obtain ⟨i0, hi, hy0, hy1, hy2⟩ := info_parts infoRw
  obtain ⟨w1, hw1⟩ : ∃ w1, w1 = w.alloc (.cells #[.int .i64 0, .slice none 0 0] 28) := ⟨_, rfl⟩
  have hs1 : w1.heap.size = w.heap.size + 1 := by rw [hw1]; exact hz0
  go_enter Tryd.func23, Tryd.ntmps23
  go_wp2_with (at_make; rw [← hw1]; refine wpList_make_own _ rfl _ _ 26 rfl w1.heap.size 50 i0 (.agg #[.int .i64 0, .int .i64 0, .slice none 0 0]) 3 Tryd.underlying26 hi hy0 hy1 .i64 .i64 _ n rfl rfl (by omega) (by rw [hy2]; omega) (by unfold maxLen; omega) (Nat.le_refl _) ?_; intro W3 hown3 hgrow3; have HB3 : Below w1.heap.size w1 W3 := ⟨hgrow3.os, hgrow3.tape, hgrow3.output, hgrow3.size, fun q hq => hgrow3.block q hq (by simp)⟩; have HM3 := hid (mw_a c n hlen hown3 HB3); clear hown3 hgrow3)
  have hw1z : w1.heap.size ≤ W3.heap.size := HM3.out.bl.size |> fun h => by have := HM3.out.g0; omega
  go_loopw [16] (fun i wr => ∃ (k : Nat) (z : Value) (L : List Rw), k ≤ n ∧ i = .int .i64 k ∧ MW w1 wr c W3.heap.size z L ∧ L.map Rw.r = xs.take k) (fun i _ => n - (intOf i).toNat)
  case atStart => exact ⟨0, _, [], Nat.zero_le _, rfl, by have h := HM3.out; rw [hs1] at h; exact h, rfl⟩
  case round =>
    obtain ⟨k, z, L, hk, rfl, hmx, hmap⟩ := hrel
    have HMX := hid hmx
    have HMap := hid hmap
    have hzr := hmx.bl.size
    have hgr := hmx.g1
    clear hmx hmap HM3
    have HB1 : Hid (Below w1.heap.size w1 wr) := hid HMX.out.bl
    have HBw : Hid (Below w.heap.size w wr) := hid (HB0.out.trans (by rw [← hw1]; exact HB1.out.mono (by omega)))
    by_cases hlt : k < n
    · rcases HA.out with ⟨h0, _⟩ | ⟨hp, b, off, cap', F, hv', hb, hc⟩
      · rw [h0] at HN; have := HN.out; simp at this; omega
      rw [← HN.out] at hv' hc
      simp only [Value.slice.injEq] at hv'
      obtain ⟨rfl, _, rfl⟩ := hv'
      obtain ⟨hA, hI, hNl⟩ := hc k hlt
      have hA2 := hA.blk HBw.out.size (HBw.out.block b hA.lt)
      have r0 := hA2.c0
      have r1 := hA2.c1
      have r2 := hA2.c2
      have hsk := HSh.out k hlt
      have hIw := hI.chg (Chg.ofBelow (lo := 0) HBw.out) (.inr (Nat.zero_le _))
      have HT2 := hid (HTk.out k hlt)
      have hLl : L.length ≤ 1048576 := by have := congrArg List.length HMap.out; simp at this; omega
      obtain ⟨a9, c9, hv9⟩ := ints_val hI
      have hk0 : (0 : Int) ≤ (k : Int) := by omega
      have hkn : (k : Int) < (n : Int) := by omega
      generalize xs.getD k iz = x at *
      generalize F k = u at *
      have bA := (Below.refl wr.heap.size wr).alloc (Nat.le_refl _) (.cells #[.int .i64 x.a0, .int .i64 x.a1, u] 50)
      have HMA := hid (HMX.out.below bA)
      have HBk := hid (fun W (bb : Below (wr.alloc (.cells #[.int .i64 x.a0, .int .i64 x.a1, u] 50)).heap.size (wr.alloc (.cells #[.int .i64 x.a0, .int .i64 x.a1, u] 50)) W) => implCopy x.a0 x.a1 x.ps u B W ((hIw.chg (Chg.ofBelow (lo := 0) bA) (.inr (Nat.zero_le _))).chg (Chg.ofBelow (lo := 0) bb) (.inr (Nat.zero_le _))) hNl (Nat.le_trans hB (Nat.le_trans HBw.out.size (Nat.le_trans bA.size bb.size))) hsk)
      have hzA : (wr.alloc (.cells #[.int .i64 x.a0, .int .i64 x.a1, u] 50)).heap.size = wr.heap.size + 1 := by simp
      clear hA hA2 hI hIw hNl hsk hc bA
      generalize x.ps.length = m9 at *
      subst hv9
      have m0 := HMA.out.c0
      have m1 := HMA.out.c1
      have q1 := HMA.out.fz
      obtain ⟨az, cz, hvz⟩ := HMX.out.sr.rw.val
      obtain ⟨ll, hll⟩ : ∃ l, l = L.length := ⟨_, rfl⟩
      rw [← hll] at hvz hLl
      have HLl := hid hll
      clear hll
      subst hvz
      go_wp2
      have HRow := hid (fun W (bb : Below (wr.alloc (.cells #[.int .i64 x.a0, .int .i64 x.a1, .slice a9 m9 c9] 50)).heap.size (wr.alloc (.cells #[.int .i64 x.a0, .int .i64 x.a1, .slice a9 m9 c9] 50)) W) => (HMA.out.below bb))
      go_region_law (first
        | (refine step_appW rfl _ _ rfl w1.heap.size (.slice az ll cz) ll (flatW L) (HLl.out ▸ HRw2.out) rfl w2.heap.size 1 ⟨x, .slice a2 m2l c2⟩ rfl hc20 hc21 hc22 rfl (by rw [hz2]; omega) (by omega) ?_
           intro v9 w9 hr9 hg9 h59
           obtain ⟨hm9, t1, t2, _⟩ := HMA.out.next HB2.out HO2.out ((Below.refl _ _).alloc (Nat.le_refl _) _) (by rw [← HLl.out]; exact hr9) hg9 h59
           have HM9 := hid hm9
           obtain ⟨a9', c9', hv9'⟩ := hm9.sr.rw.val
           obtain ⟨q9, hq9⟩ : ∃ q, q = (L ++ [(⟨x, .slice a2 m2l c2⟩ : Rw)]).length := ⟨_, rfl⟩
           rw [← hq9] at hv9'
           clear hq9 hm9 hr9 hg9 h59
           subst hv9')
        | (go_simp
           go_at_call 37
           refine (HBk.out _ (bdrewN (Below.refl _ _) _)).mono ?_
           rintro e w2 ⟨v2, rfl, o2, b2⟩
           have bb2 : Below (wr.alloc (.cells #[.int .i64 x.a0, .int .i64 x.a1, .slice a9 m9 c9] 50)).heap.size (wr.alloc (.cells #[.int .i64 x.a0, .int .i64 x.a1, .slice a9 m9 c9] 50)) w2 := (bdrewN (Below.refl _ _) _).trans b2
           have HM2 := HRow.out _ bb2
           have m2 := HM2.c1
           have q2 := HM2.fz
           have HO2 := hid (show sl.Own w2 (wr.alloc (.cells #[.int .i64 x.a0, .int .i64 x.a1, .slice a9 m9 c9] 50)).heap.size w2.heap.size v2 x.ps from o2)
           have HB2 := hid bb2
           have hs2 := bb2.size
           rw [hzA] at hs2
           obtain ⟨a2, c2, hv2⟩ := own_val o2
           generalize x.ps.length = m2l at hv2
           subst hv2
           have bA2 := (Below.refl w2.heap.size w2).alloc (Nat.le_refl _) (.cells #[.int .i64 x.a0, .int .i64 x.a1, .slice a2 m2l c2] 50)
           have mA := (bA2.cell (p := ⟨W3.heap.size, 1, none⟩) (by show W3.heap.size < w2.heap.size; omega)).trans m2
           have HRw2 := hid (HM2.sr.below bA2).row
           have hc20 : (w2.alloc (.cells #[.int .i64 x.a0, .int .i64 x.a1, .slice a2 m2l c2] 50)).cell? ⟨w2.heap.size, 0, none⟩ = some (.int .i64 x.a0) := World.cell?_alloc_at _ _ _ _ rfl
           have hc21 : (w2.alloc (.cells #[.int .i64 x.a0, .int .i64 x.a1, .slice a2 m2l c2] 50)).cell? ⟨w2.heap.size, 1, none⟩ = some (.int .i64 x.a1) := World.cell?_alloc_at _ _ _ _ rfl
           have hc22 : (w2.alloc (.cells #[.int .i64 x.a0, .int .i64 x.a1, .slice a2 m2l c2] 50)).cell? ⟨w2.heap.size, 2, none⟩ = some (.slice a2 m2l c2) := World.cell?_alloc_at _ _ _ _ rfl
           have hz2 : (w2.alloc (.cells #[.int .i64 x.a0, .int .i64 x.a1, .slice a2 m2l c2] 50)).heap.size = w2.heap.size + 1 := by simp
           clear o2 b2 bb2 bA2 HM2))
      all_goals
        go_wp2
        go_roundw
        case rel => exact ⟨k + 1, _, _, by omega, by go_num, HM9.out, by rw [List.map_append, HMap.out, HT2.out]; rfl⟩
        case measure => simp [intOf]; omega
    · obtain rfl : k = n := by omega
      have HEq : Hid (L.map Rw.r = xs) := hid (by rw [HMap.out, HAll.out])
      have HOw := hid (HMX.out.sr.rw.iown)
      rw [HEq.out] at HOw
      obtain ⟨a9, c9, hv9⟩ := iown_val HOw.out
      rw [← HN.out] at hv9
      have hInf := HOw.out.infs
      have HVr := hid (HV.out z wr HBw.out hInf)
      have HW1 : Hid (Below (w.heap.size + 1) w1 wr) := hid (HB1.out.mono (by omega))
      have m0 := HMX.out.c0
      have m1 := HMX.out.c1
      clear hInf
      subst hv9
      go_wp2_with fail
      refine HVr.out.mono ?_
      rintro e w4 ⟨rfl, b4⟩
      have m0' := (b4.cell (p := ⟨W3.heap.size, 0, none⟩) hgr).trans m0
      have m1' := (b4.cell (p := ⟨W3.heap.size, 1, none⟩) hgr).trans m1
      obtain ⟨d0, d1, e0, e1⟩ := HX.out w4 (by rw [← hw1]; exact HW1.out.trans (b4.mono (by omega)))
      have HOw4 := hid ((HOw.out.chg (Chg.ofBelow (lo := 0) b4) (.inr (.inr (Nat.zero_le _)))).hi b4.size (Nat.le_refl _))
      have HB4 := hid (HBw.out.trans (b4.mono HBw.out.size))
      clear m0 m1 b4
      cases q with
      | false =>
        go_wp2
        refine bodyPost_ret (v := .tuple #[.agg #[.int .i64 0, .slice none 0 0], .int .i64 5]) (by simp [results, Tryd.results23, go_sem, d0, d1]) rfl ⟨none, 0, ?_, ?_, ?_⟩
        · rw [HC.out, HR.out, HK.out]; rfl
        · rw [HR.out]; exact ⟨Nat.le_refl _, .inl ⟨rfl, _, _, rfl⟩⟩
        · exact (HB4.out.setCell (by simp) _).setCell (by simp) _
      | true =>
        go_wp2
        refine bodyPost_ret (v := .tuple #[.agg #[.int .i64 c, .slice a9 k c9], .int .i64 0]) (by simp [results, Tryd.results23, go_sem, d0, d1]) rfl ⟨a9, c9, ?_, ?_, ?_⟩
        · rw [HC.out, HR.out, HK.out, HN.out]; rfl
        · rw [HR.out]
          have h2 := ct.iown_other (ct.iown_other HOw4.out w.heap.size 0 (.int .i64 c) (by omega)) w.heap.size 1 (.slice a9 k c9) (by omega)
          have h3 := h2.lo (lo' := w.heap.size) (by omega)
          rw [HN.out] at h3 ⊢
          simpa using h3
        · exact (HB4.out.setCell (by simp) _).setCell (by simp) _
end Go.Proofs.YtbbnheiibkcgiabDoor.cy

/- A region that draws its order and whose last operation waits for all others: the last one may be walked apart. -/
namespace Go.Proofs.YtbbnheiibkcgiabDoor.ls
open Go
set_option linter.unusedVariables false

section
variable {P : Program} {ops : Array Oper} {Q : Exit → Act → World → Prop} {S : World → Prop}

/-- What is left when all but the last have come up. -/
def lastQ (P : Program) (ops : Array Oper) (Q : Exit → Act → World → Prop) (n : Nat) : Exit → Act → World → Prop
  | .normal, a, w => wpOp P ops Q n (fun a w => Q .normal a w) a w
  | .exit id, a, w => Q (.exit id) a w
  | .goto l, a, w => Q (.goto l) a w
  | .ret, a, w => Q .ret a w
  | .panic c, a, w => Q (.panic c) a w
  | .outgrown, a, w => Q .outgrown a w
/-- The last one waits for all others. -/
def waitsAll (ops : Array Oper) (n : Nat) : Bool := (List.range n).all fun i => ((ops[n]?).map fun o => o.after.any fun e => Region.binds .any e && e.on == i).getD false
/-- All wait for earlier ones alone. -/
def lowB (ops : Array Oper) : Bool := (List.range ops.size).all fun i => ((ops[i]?).map fun o => o.after.all fun e => decide (e.on < i)).getD true

theorem oper_wp {o : Oper} {a : Act} {w : World} {K : Act → World → Prop} {n : Nat} (h : o.wp P a w K (lastQ P ops Q n)) : o.wp P a w K Q := by
  unfold Oper.wp at *
  generalize (execOp a.eval o).run P w = r at *
  cases r with
  | ok m w' =>
    cases m <;> simp only [Oper.upon] at h ⊢ <;>
      first
        | exact h
        | exact Calls.mono h (fun e w'' he => by cases e <;> exact he)
  | halt x w' => cases x <;> simp only [Oper.upon] at h ⊢ <;> exact h
theorem wpOp_lastQ {i n : Nat} {K : Act → World → Prop} {a : Act} {w : World} (h : wpOp P ops (lastQ P ops Q n) i K a w) : wpOp P ops Q i K a w := by
  unfold wpOp at *
  split
  · rename_i hi
    simp only [hi] at h
    exact h
  · rename_i o hi
    simp only [hi] at h
    split
    · rename_i hw
      simp only [hw, if_true] at h
      exact h.imp oper_wp (fun ⟨x, y⟩ => ⟨x, y⟩)
    · rename_i hw
      simp only [hw] at h
      exact h

theorem low_of (h : lowB ops = true) (i : Nat) (o : Oper) (ho : ops[i]? = some o) (e) (he : e ∈ o.after) : e.on < i := by
  have hlt : i < ops.size := (Array.getElem?_eq_some_iff.1 ho).1
  unfold lowB at h
  rw [List.all_eq_true] at h
  have h1 := h i (by simpa using hlt)
  rw [ho] at h1
  simp only [Option.map_some, Option.getD_some, Array.all_eq_true_iff_forall_mem] at h1
  simpa using h1 e he
theorem waits_of {n : Nat} (h : waitsAll ops n = true) (i : Nat) (hi : i < n) : ∃ o, ops[n]? = some o ∧ ∃ e, e ∈ o.after ∧ Region.binds .any e = true ∧ e.on = i := by
  unfold waitsAll at h
  rw [List.all_eq_true] at h
  have h1 := h i (by simpa using hi)
  cases ho : ops[n]? with
  | none => rw [ho] at h1; simp at h1
  | some o =>
    rw [ho] at h1
    simp only [Option.map_some, Option.getD_some, Array.any_eq_true'] at h1
    obtain ⟨e, he, h2⟩ := h1
    simp only [Bool.and_eq_true, beq_iff_eq] at h2
    exact ⟨o, rfl, e, he, h2.1, h2.2⟩
theorem getD_lt {l : Array Bool} {j : Nat} (h : j < l.size) (u v : Bool) : l.getD j u = l.getD j v := by
  simp [Array.getD, h]
/-- Something may come up while the last one has not. -/
theorem ready_some {n : Nat} {listed : Array Bool} (hs : ops.size = n + 1) (hl : listed.size = n + 1) (hf : listed.getD n true = false) (hlow : lowB ops = true) : Region.ready .any ops listed ≠ [] := by
  intro h0
  have hall : ∀ m, m ≤ n + 1 → ∀ j, j < m → listed.getD j true = true := by
    intro m
    induction m with
    | zero => intro _ j hj; omega
    | succ m ih =>
      intro hm j hj
      by_cases hjm : j < m
      · exact ih (by omega) j hjm
      · obtain rfl : j = m := by omega
        cases hb : listed.getD j true with
        | true => rfl
        | false =>
          have hlt : j < ops.size := by omega
          have ho : ops[j]? = some ops[j] := Array.getElem?_eq_getElem hlt
          have : j ∈ Region.ready .any ops listed := mem_ready.2 ⟨hb, ops[j], ho, fun e he _ => by
            have h1 := low_of hlow j _ ho e he
            rw [getD_lt (by omega) false true]
            exact ih (by omega) _ h1⟩
          rw [h0] at this
          cases this
  rw [hall (n + 1) (Nat.le_refl _) n (by omega)] at hf
  cases hf
theorem ready_last {n : Nat} {listed : Array Bool} (hs : ops.size = n + 1) (hl : listed.size = n + 1) (hw : waitsAll ops n = true) (hr : n ∈ Region.ready .any ops listed) : Region.ready .any ops (listed.setIfInBounds n true) = [] := by
  rw [List.eq_nil_iff_forall_not_mem]
  intro j hj
  obtain ⟨h0, o, ho, _⟩ := mem_ready.1 hj
  have hlt : j < ops.size := (Array.getElem?_eq_some_iff.1 ho).1
  obtain ⟨_, o', ho', hall⟩ := mem_ready.1 hr
  by_cases hjn : j = n
  · subst hjn
    rw [Array.getD_eq_getD_getElem?, Array.getElem?_setIfInBounds_self_of_lt (by omega)] at h0
    cases h0
  · obtain ⟨o2, ho2, e, he, hb, rfl⟩ := waits_of hw j (by omega)
    rw [ho'] at ho2
    cases ho2
    have h1 := hall e he hb
    rw [Array.getD_eq_getD_getElem?, Array.getElem?_setIfInBounds_ne (by omega), ← Array.getD_eq_getD_getElem?, getD_lt (by omega) true false, h1] at h0
    cases h0
theorem any_done {listed : Array Bool} {a : Act} {w : World} (hr : Region.ready .any ops listed = []) (h : Q .normal a w) : ∀ fuel, wpAny P .any ops Q fuel listed a w
  | 0 => ⟨hr, h⟩
  | _ + 1 => ⟨fun _ => h, by rw [hr]; simp⟩
theorem wpAny_last {n : Nat} (hs : ops.size = n + 1) (hw : waitsAll ops n = true) (hlow : lowB ops = true) :
    ∀ (fuel : Nat) (listed : Array Bool) (a : Act) (w : World), listed.size = n + 1 → listed.getD n true = false →
      wpAny P .any ops (lastQ P ops Q n) fuel (listed.setIfInBounds n true) a w → wpAny P .any ops Q (fuel + 1) listed a w := by
  intro fuel
  induction fuel with
  | zero =>
    intro listed a w hl hf H
    refine ⟨fun h => absurd h (ready_some hs hl hf hlow), fun i hi => ?_⟩
    by_cases hin : i = n
    · subst hin
      exact wpOp_mono (fun a' w' h => any_done (ready_last hs hl hw hi) h 0) H.2
    · have := ready_mono hi hin
      rw [H.1] at this
      cases this
  | succ fuel ih =>
    intro listed a w hl hf H
    refine ⟨fun h => absurd h (ready_some hs hl hf hlow), fun i hi => ?_⟩
    by_cases hin : i = n
    · subst hin
      exact wpOp_mono (fun a' w' h => any_done (ready_last hs hl hw hi) h _) (H.1 (ready_last hs hl hw hi))
    · have h1 := wpOp_lastQ (H.2 i (ready_mono hi hin))
      refine wpOp_mono (fun a' w' h => ih (listed.setIfInBounds i true) a' w' (by simpa using hl) ?_ ?_) h1
      · rw [Array.getD_eq_getD_getElem?, Array.getElem?_setIfInBounds_ne hin, ← Array.getD_eq_getD_getElem?]; exact hf
      · rw [Array.setIfInBounds_comm _ _ hin]; exact h
theorem last_run {n : Nat} {o : Oper} {a : Act} {w : World} (ho : ops[n]? = some o) (hg : o.guard = none) (h : o.wp P a w (fun a w => Q .normal a w) Q) : lastQ P ops Q n .normal a w := by
  show wpOp P ops Q n (fun a w => Q .normal a w) a w
  unfold wpOp
  simp only [ho, Region.wanted, hg, if_true]
  exact .inl h
/-- The beginning: the last operation is kept for the end; S need not bear it. -/
theorem wp_region_last {id : Nat} {a : Act} {w : World} (n : Nat) (hm : P.follows .mixedOrders = true) (hs : ops.size = n + 1) (hw : waitsAll ops n = true) (hlow : lowB ops = true) (hS : S w.drew)
    (h : S w.drew → wpAnyH P .any ops (lastQ P ops Q n) S n ((Array.replicate (n + 1) false).setIfInBounds n true) a w.drew) : (Code.region id ops true).wp P Q a w := by
  refine wp_region_any hm ?_
  rw [hs]
  exact wpAny_last hs hw hlow n _ a _ (by simp) (by simp [Array.getD]) (wpAny_of_held _ _ _ _ (h hS))
end
end Go.Proofs.YtbbnheiibkcgiabDoor.ls

/- A chart with rows of its own, in the model. -/
namespace Go.Proofs.YtbbnheiibkcgiabDoor.cy
open Go.RowKit Go.Proofs.YtbbnheiibkcgiabDoor.sl Go.Proofs.YtbbnheiibkcgiabDoor.br Go.Proofs.YtbbnheiibkcgiabDoor.ss Go.Proofs.YtbbnheiibkcgiabDoor.ro Go.Proofs.YtbbnheiibkcgiabDoor.cm Go.Proofs.YtbbnheiibkcgiabDoor.cx
set_option linter.unusedVariables false
set_option linter.unusedSimpArgs false
set_option maxRecDepth 100000

set_option maxHeartbeats 8000000 in
theorem specOwn (c : Int) (xs : List V) (f : Value) (B p : Nat) (w : World) (hp : p < w.heap.size) (h0 : w.cell? ⟨p, 0, none⟩ = some (.int .i64 c)) (h1 : w.cell? ⟨p, 1, none⟩ = some f) (ha : InfsN w B f xs) (hB : B ≤ w.heap.size) (hq : Small xs) :
    Calls Tryd.prog 18 #[.pointer (some ⟨p, 0, none⟩)] w fun e w' => ∃ z L, e = .returned (.agg #[.int .i64 c, z]) ∧ RW w' w.heap.size z L ∧ L.map Rw.r = xs ∧ Below w.heap.size w w' := by
  have HB0 : Hid (Below w.heap.size w (w.alloc (.cells #[.int .i64 0, .slice none 0 0] 28))) := hid ((Below.refl _ w).alloc (Nat.le_refl _) _)
  have hz0 : (w.alloc (.cells #[.int .i64 0, .slice none 0 0] 28)).heap.size = w.heap.size + 1 := by simp
  have HX := hid (fun (w1 : World) (b1 : Below (w.heap.size + 1) (w.alloc (.cells #[.int .i64 0, .slice none 0 0] 28)) w1) => (show w1.cell? ⟨w.heap.size, 0, none⟩ = some (.int .i64 0) ∧ w1.cell? ⟨w.heap.size, 1, none⟩ = some (.slice none 0 0) ∧ w1.frozen? ⟨w.heap.size, 0, none⟩ = false ∧ w1.frozen? ⟨w.heap.size, 1, none⟩ = false from
    ⟨(b1.cell (p := ⟨w.heap.size, 0, none⟩) (by simp)).trans (by go_simp), (b1.cell (p := ⟨w.heap.size, 1, none⟩) (by simp)).trans (by go_simp), (b1.frozen (p := ⟨w.heap.size, 0, none⟩) (by simp)).trans (by go_simp), (b1.frozen (p := ⟨w.heap.size, 1, none⟩) (by simp)).trans (by go_simp)⟩))
  have hlen := hq.len
  have HSh := hid hq.short
  obtain ⟨ao, cap, hv⟩ := infs_val ha.infs
  have HA := hid ha
  clear ha hq
  have HTk := hid (take_succV xs)
  have HAll := hid (List.take_length (l := xs))
  obtain ⟨n, hnn⟩ : ∃ n, n = xs.length := ⟨_, rfl⟩
  have HN := hid hnn
  rw [← hnn] at hv hlen HSh HTk HAll
  clear hnn
  subst hv
  have hp0 := (HB0.out.cell (p := ⟨p, 0, none⟩) hp).trans h0
  have hp1 := (HB0.out.cell (p := ⟨p, 1, none⟩) hp).trans h1
  have HP := hid (fun (W : World) (b : Below w.heap.size w W) => (b.cell (p := ⟨p, 1, none⟩) hp).trans h1)
  obtain ⟨w1, hw1⟩ : ∃ w1, w1 = w.alloc (.cells #[.int .i64 0, .slice none 0 0] 28) := ⟨_, rfl⟩
  have hs1 : w1.heap.size = w.heap.size + 1 := by rw [hw1]; exact hz0
  have HW1 := hid hw1
  have HS1 := hid hs1
  have HM3 := hid (mw_c w1 c)
  rw [hs1, hw1] at HM3
  clear hs1 hw1 h0 h1
  go_enter Tryd.func18, Tryd.ntmps18
  go_wp2
  clear hp0 hp1
  go_loopw [4] (fun i wr => ∃ (k : Nat) (z : Value) (L : List Rw), k ≤ n ∧ i = .int .i64 k ∧ MW w1 wr c (w.heap.size + 1) z L ∧ L.map Rw.r = xs.take k) (fun i _ => n - (intOf i).toNat)
  case atStart => exact ⟨0, _, [], Nat.zero_le _, rfl, by have h := HM3.out; rw [← HW1.out] at h ⊢; exact h, rfl⟩
  case round =>
    obtain ⟨k, z, L, hk, rfl, hmx, hmap⟩ := hrel
    have HMX := hid hmx
    have HMap := hid hmap
    have hzr : w.heap.size + 1 ≤ wr.heap.size := by have := hmx.bl.size; rw [HS1.out] at this; exact this
    have hgr := hmx.g1
    clear hmx hmap HM3
    have HBw : Hid (Below w.heap.size w wr) := hid (HB0.out.trans (by rw [← HW1.out]; exact HMX.out.bl.mono (by rw [HS1.out]; omega)))
    have hf := HP.out wr HBw.out
    by_cases hlt : k < n
    · rcases HA.out with ⟨h0, _⟩ | ⟨_, b, off, cap', F, hv', hb, hc⟩
      · rw [h0] at HN; have := HN.out; simp at this; omega
      rw [← HN.out] at hv' hc
      simp only [Value.slice.injEq] at hv'
      obtain ⟨rfl, _, rfl⟩ := hv'
      obtain ⟨hA, hI, hNl⟩ := hc k hlt
      have hA2 := hA.blk HBw.out.size (HBw.out.block b hA.lt)
      have hb0 := hA.lt
      have Q0 := hid hA.c0
      have Q1 := hid hA.c1
      have Q2 := hid hA.c2
      have hAl := hA2.lt
      have r0 := hA2.c0
      have r1 := hA2.c1
      have r2 := hA2.c2
      have hsk := HSh.out k hlt
      have hIw := hI.chg (Chg.ofBelow (lo := 0) HBw.out) (.inr (Nat.zero_le _))
      have HT2 := hid (HTk.out k hlt)
      have hLl : L.length ≤ 1048576 := by have := congrArg List.length HMap.out; simp at this; omega
      obtain ⟨a9, c9, hv9⟩ := ints_val hI
      have hk0 : (0 : Int) ≤ (k : Int) := by omega
      have hkn : (k : Int) < (n : Int) := by omega
      generalize xs.getD k iz = x at *
      generalize F k = u at *
      have HBk := hid (fun W (bb : Below wr.heap.size wr W) => kn.own9 x.ps u B W (hIw.chg (Chg.ofBelow (lo := 0) bb) (.inr (Nat.zero_le _))) hNl (by omega))
      clear hA hA2 hI hIw hNl hsk hc
      generalize x.ps.length = m9 at *
      subst hv9
      have m1 := HMX.out.c1
      have q1 := HMX.out.fz
      obtain ⟨az, cz, hvz⟩ := HMX.out.sr.rw.val
      obtain ⟨ll, hll⟩ : ∃ l, l = L.length := ⟨_, rfl⟩
      rw [← hll] at hvz hLl
      have HLl := hid hll
      clear hll
      subst hvz
      have HRow := hid (fun W (bb : Below wr.heap.size wr W) => (HMX.out.below bb))
      have hpr : p < wr.heap.size := by omega
      go_wp2
      refine ls.wp_region_last (S := fun w' => w'.cell? ⟨p, 1, none⟩ = some (.slice (some ⟨b, off, none⟩) n cap) ∧ w'.cell? ⟨b, off + k * 3, none⟩ = some (.int .i64 x.a0) ∧ w'.cell? ⟨b, off + k * 3 + 1, none⟩ = some (.int .i64 x.a1) ∧ w'.cell? ⟨b, off + k * 3 + 2, none⟩ = some (.slice a9 m9 c9) ∧ w'.cell? ⟨w.heap.size + 1, 1, none⟩ = some (.slice az ll cz)) 31 (by kernel_rfl) (by kernel_rfl) (by kernel_rfl) (by kernel_rfl) ?_ (fun hHeld => ?_)
      · exact ⟨hf, r0, r1, r2, m1⟩
      refine wpAnyH_take (i := 0) (oi := { dst := some 19, op := Op.fieldAddr 28 (Operand.tmp 3) 1, type := 0, pos := "l15_charts.go:190", after := #[], guard := none }) (v := ?_) rfl (by kernel_rfl) (by kernel_rfl) (by kernel_rfl) (fun _ _ _ h => h) (Or.inl ⟨by rfl, ?_⟩) (by assumption) ?_
      rotate_left
      · (intro w hSw; (try dsimp only at hSw); go_simp; try with_reducible rfl)
      try simp only [Act.put, List.setIfInBounds_toArray, List.set_cons_zero, List.set_cons_succ]
      refine wpAnyH_take (i := 1) (oi := { dst := some 20, op := Op.load 26 (Operand.tmp 19), type := 26, pos := "l15_charts.go:190", after := #[{ on := 0, ground := Ground.data }], guard := none }) (v := ?_) rfl (by kernel_rfl) (by kernel_rfl) (by kernel_rfl) (fun _ _ _ h => h) (Or.inl ⟨by rfl, ?_⟩) (by assumption) ?_
      rotate_left
      · (intro w hSw; (try dsimp only at hSw); go_simp; try with_reducible rfl)
      try simp only [Act.put, List.setIfInBounds_toArray, List.set_cons_zero, List.set_cons_succ]
      refine wpAnyH_take (i := 2) (oi := { dst := some 21, op := Op.move (Operand.tmp 0), type := 39, pos := "l15_charts.go:190", after := #[], guard := none }) (v := ?_) rfl (by kernel_rfl) (by kernel_rfl) (by kernel_rfl) (fun _ _ _ h => h) (Or.inl ⟨by rfl, ?_⟩) (by assumption) ?_
      rotate_left
      · (intro w hSw; (try dsimp only at hSw); go_simp; try with_reducible rfl)
      try simp only [Act.put, List.setIfInBounds_toArray, List.set_cons_zero, List.set_cons_succ]
      refine wpAnyH_take (i := 3) (oi := { dst := some 22, op := Op.nilCheck (Operand.tmp 21), type := 0, pos := "l15_charts.go:190", after := #[{ on := 2, ground := Ground.data }], guard := none }) (v := ?_) rfl (by kernel_rfl) (by kernel_rfl) (by kernel_rfl) (fun _ _ _ h => h) (Or.inl ⟨by rfl, ?_⟩) (by assumption) ?_
      rotate_left
      · (intro w hSw; (try dsimp only at hSw); go_simp; try with_reducible rfl)
      try simp only [Act.put, List.setIfInBounds_toArray, List.set_cons_zero, List.set_cons_succ]
      refine wpAnyH_take (i := 4) (oi := { dst := some 23, op := Op.fieldAddr 28 (Operand.tmp 22) 1, type := 0, pos := "l15_charts.go:190", after := #[{ on := 3, ground := Ground.data }], guard := none }) (v := ?_) rfl (by kernel_rfl) (by kernel_rfl) (by kernel_rfl) (fun _ _ _ h => h) (Or.inl ⟨by rfl, ?_⟩) (by assumption) ?_
      rotate_left
      · (intro w hSw; (try dsimp only at hSw); go_simp; try with_reducible rfl)
      try simp only [Act.put, List.setIfInBounds_toArray, List.set_cons_zero, List.set_cons_succ]
      refine wpAnyH_take (i := 5) (oi := { dst := some 24, op := Op.load 26 (Operand.tmp 23), type := 26, pos := "l15_charts.go:190", after := #[{ on := 4, ground := Ground.data }], guard := none }) (v := ?_) rfl (by kernel_rfl) (by kernel_rfl) (by kernel_rfl) (fun _ _ _ h => h) (Or.inl ⟨by rfl, ?_⟩) (by assumption) ?_
      rotate_left
      · (intro w hSw; (try dsimp only at hSw); go_simp; try with_reducible rfl)
      try simp only [Act.put, List.setIfInBounds_toArray, List.set_cons_zero, List.set_cons_succ]
      refine wpAnyH_take (i := 6) (oi := { dst := some 25, op := Op.move (Operand.tmp 4), type := 3, pos := "l15_charts.go:190", after := #[], guard := none }) (v := ?_) rfl (by kernel_rfl) (by kernel_rfl) (by kernel_rfl) (fun _ _ _ h => h) (Or.inl ⟨by rfl, ?_⟩) (by assumption) ?_
      rotate_left
      · (intro w hSw; (try dsimp only at hSw); go_simp; try with_reducible rfl)
      try simp only [Act.put, List.setIfInBounds_toArray, List.set_cons_zero, List.set_cons_succ]
      refine wpAnyH_take (i := 7) (oi := { dst := some 26, op := Op.indexAddr 26 (Operand.tmp 24) (Operand.tmp 25), type := 0, pos := "l15_charts.go:190", after := #[{ on := 5, ground := Ground.data }, { on := 6, ground := Ground.data }], guard := none }) (v := ?_) rfl (by kernel_rfl) (by kernel_rfl) (by kernel_rfl) (fun _ _ _ h => h) (Or.inl ⟨by rfl, ?_⟩) (by assumption) ?_
      rotate_left
      · (intro w hSw; (try dsimp only at hSw); go_simp; try with_reducible rfl)
      try simp only [Act.put, List.setIfInBounds_toArray, List.set_cons_zero, List.set_cons_succ]
      refine wpAnyH_take (i := 8) (oi := { dst := some 27, op := Op.fieldAddr 50 (Operand.tmp 26) 0, type := 0, pos := "l15_charts.go:190", after := #[{ on := 7, ground := Ground.data }], guard := none }) (v := ?_) rfl (by kernel_rfl) (by kernel_rfl) (by kernel_rfl) (fun _ _ _ h => h) (Or.inl ⟨by rfl, ?_⟩) (by assumption) ?_
      rotate_left
      · (intro w hSw; (try dsimp only at hSw); go_simp; try with_reducible rfl)
      try simp only [Act.put, List.setIfInBounds_toArray, List.set_cons_zero, List.set_cons_succ]
      refine wpAnyH_take (i := 9) (oi := { dst := some 28, op := Op.load 2 (Operand.tmp 27), type := 2, pos := "l15_charts.go:190", after := #[{ on := 8, ground := Ground.data }], guard := none }) (v := ?_) rfl (by kernel_rfl) (by kernel_rfl) (by kernel_rfl) (fun _ _ _ h => h) (Or.inl ⟨by rfl, ?_⟩) (by assumption) ?_
      rotate_left
      · (intro w hSw; (try dsimp only at hSw); go_simp; try with_reducible rfl)
      try simp only [Act.put, List.setIfInBounds_toArray, List.set_cons_zero, List.set_cons_succ]
      refine wpAnyH_take (i := 10) (oi := { dst := some 29, op := Op.move (Operand.tmp 0), type := 39, pos := "l15_charts.go:190", after := #[], guard := none }) (v := ?_) rfl (by kernel_rfl) (by kernel_rfl) (by kernel_rfl) (fun _ _ _ h => h) (Or.inl ⟨by rfl, ?_⟩) (by assumption) ?_
      rotate_left
      · (intro w hSw; (try dsimp only at hSw); go_simp; try with_reducible rfl)
      try simp only [Act.put, List.setIfInBounds_toArray, List.set_cons_zero, List.set_cons_succ]
      refine wpAnyH_take (i := 11) (oi := { dst := some 30, op := Op.nilCheck (Operand.tmp 29), type := 0, pos := "l15_charts.go:190", after := #[{ on := 10, ground := Ground.data }], guard := none }) (v := ?_) rfl (by kernel_rfl) (by kernel_rfl) (by kernel_rfl) (fun _ _ _ h => h) (Or.inl ⟨by rfl, ?_⟩) (by assumption) ?_
      rotate_left
      · (intro w hSw; (try dsimp only at hSw); go_simp; try with_reducible rfl)
      try simp only [Act.put, List.setIfInBounds_toArray, List.set_cons_zero, List.set_cons_succ]
      refine wpAnyH_take (i := 12) (oi := { dst := some 31, op := Op.fieldAddr 28 (Operand.tmp 30) 1, type := 0, pos := "l15_charts.go:190", after := #[{ on := 11, ground := Ground.data }], guard := none }) (v := ?_) rfl (by kernel_rfl) (by kernel_rfl) (by kernel_rfl) (fun _ _ _ h => h) (Or.inl ⟨by rfl, ?_⟩) (by assumption) ?_
      rotate_left
      · (intro w hSw; (try dsimp only at hSw); go_simp; try with_reducible rfl)
      try simp only [Act.put, List.setIfInBounds_toArray, List.set_cons_zero, List.set_cons_succ]
      refine wpAnyH_take (i := 13) (oi := { dst := some 32, op := Op.load 26 (Operand.tmp 31), type := 26, pos := "l15_charts.go:190", after := #[{ on := 12, ground := Ground.data }], guard := none }) (v := ?_) rfl (by kernel_rfl) (by kernel_rfl) (by kernel_rfl) (fun _ _ _ h => h) (Or.inl ⟨by rfl, ?_⟩) (by assumption) ?_
      rotate_left
      · (intro w hSw; (try dsimp only at hSw); go_simp; try with_reducible rfl)
      try simp only [Act.put, List.setIfInBounds_toArray, List.set_cons_zero, List.set_cons_succ]
      refine wpAnyH_take (i := 14) (oi := { dst := some 33, op := Op.move (Operand.tmp 4), type := 3, pos := "l15_charts.go:190", after := #[], guard := none }) (v := ?_) rfl (by kernel_rfl) (by kernel_rfl) (by kernel_rfl) (fun _ _ _ h => h) (Or.inl ⟨by rfl, ?_⟩) (by assumption) ?_
      rotate_left
      · (intro w hSw; (try dsimp only at hSw); go_simp; try with_reducible rfl)
      try simp only [Act.put, List.setIfInBounds_toArray, List.set_cons_zero, List.set_cons_succ]
      refine wpAnyH_take (i := 15) (oi := { dst := some 34, op := Op.indexAddr 26 (Operand.tmp 32) (Operand.tmp 33), type := 0, pos := "l15_charts.go:190", after := #[{ on := 13, ground := Ground.data }, { on := 14, ground := Ground.data }], guard := none }) (v := ?_) rfl (by kernel_rfl) (by kernel_rfl) (by kernel_rfl) (fun _ _ _ h => h) (Or.inl ⟨by rfl, ?_⟩) (by assumption) ?_
      rotate_left
      · (intro w hSw; (try dsimp only at hSw); go_simp; try with_reducible rfl)
      try simp only [Act.put, List.setIfInBounds_toArray, List.set_cons_zero, List.set_cons_succ]
      refine wpAnyH_take (i := 16) (oi := { dst := some 35, op := Op.fieldAddr 50 (Operand.tmp 34) 1, type := 0, pos := "l15_charts.go:190", after := #[{ on := 15, ground := Ground.data }], guard := none }) (v := ?_) rfl (by kernel_rfl) (by kernel_rfl) (by kernel_rfl) (fun _ _ _ h => h) (Or.inl ⟨by rfl, ?_⟩) (by assumption) ?_
      rotate_left
      · (intro w hSw; (try dsimp only at hSw); go_simp; try with_reducible rfl)
      try simp only [Act.put, List.setIfInBounds_toArray, List.set_cons_zero, List.set_cons_succ]
      refine wpAnyH_take (i := 17) (oi := { dst := some 36, op := Op.load 2 (Operand.tmp 35), type := 2, pos := "l15_charts.go:190", after := #[{ on := 16, ground := Ground.data }], guard := none }) (v := ?_) rfl (by kernel_rfl) (by kernel_rfl) (by kernel_rfl) (fun _ _ _ h => h) (Or.inl ⟨by rfl, ?_⟩) (by assumption) ?_
      rotate_left
      · (intro w hSw; (try dsimp only at hSw); go_simp; try with_reducible rfl)
      try simp only [Act.put, List.setIfInBounds_toArray, List.set_cons_zero, List.set_cons_succ]
      refine wpAnyH_take (i := 18) (oi := { dst := some 37, op := Op.move (Operand.tmp 0), type := 39, pos := "l15_charts.go:190", after := #[], guard := none }) (v := ?_) rfl (by kernel_rfl) (by kernel_rfl) (by kernel_rfl) (fun _ _ _ h => h) (Or.inl ⟨by rfl, ?_⟩) (by assumption) ?_
      rotate_left
      · (intro w hSw; (try dsimp only at hSw); go_simp; try with_reducible rfl)
      try simp only [Act.put, List.setIfInBounds_toArray, List.set_cons_zero, List.set_cons_succ]
      refine wpAnyH_take (i := 19) (oi := { dst := some 38, op := Op.nilCheck (Operand.tmp 37), type := 0, pos := "l15_charts.go:190", after := #[{ on := 18, ground := Ground.data }], guard := none }) (v := ?_) rfl (by kernel_rfl) (by kernel_rfl) (by kernel_rfl) (fun _ _ _ h => h) (Or.inl ⟨by rfl, ?_⟩) (by assumption) ?_
      rotate_left
      · (intro w hSw; (try dsimp only at hSw); go_simp; try with_reducible rfl)
      try simp only [Act.put, List.setIfInBounds_toArray, List.set_cons_zero, List.set_cons_succ]
      refine wpAnyH_take (i := 20) (oi := { dst := some 39, op := Op.fieldAddr 28 (Operand.tmp 38) 1, type := 0, pos := "l15_charts.go:190", after := #[{ on := 19, ground := Ground.data }], guard := none }) (v := ?_) rfl (by kernel_rfl) (by kernel_rfl) (by kernel_rfl) (fun _ _ _ h => h) (Or.inl ⟨by rfl, ?_⟩) (by assumption) ?_
      rotate_left
      · (intro w hSw; (try dsimp only at hSw); go_simp; try with_reducible rfl)
      try simp only [Act.put, List.setIfInBounds_toArray, List.set_cons_zero, List.set_cons_succ]
      refine wpAnyH_take (i := 21) (oi := { dst := some 40, op := Op.load 26 (Operand.tmp 39), type := 26, pos := "l15_charts.go:190", after := #[{ on := 20, ground := Ground.data }], guard := none }) (v := ?_) rfl (by kernel_rfl) (by kernel_rfl) (by kernel_rfl) (fun _ _ _ h => h) (Or.inl ⟨by rfl, ?_⟩) (by assumption) ?_
      rotate_left
      · (intro w hSw; (try dsimp only at hSw); go_simp; try with_reducible rfl)
      try simp only [Act.put, List.setIfInBounds_toArray, List.set_cons_zero, List.set_cons_succ]
      refine wpAnyH_take (i := 22) (oi := { dst := some 41, op := Op.move (Operand.tmp 4), type := 3, pos := "l15_charts.go:190", after := #[], guard := none }) (v := ?_) rfl (by kernel_rfl) (by kernel_rfl) (by kernel_rfl) (fun _ _ _ h => h) (Or.inl ⟨by rfl, ?_⟩) (by assumption) ?_
      rotate_left
      · (intro w hSw; (try dsimp only at hSw); go_simp; try with_reducible rfl)
      try simp only [Act.put, List.setIfInBounds_toArray, List.set_cons_zero, List.set_cons_succ]
      refine wpAnyH_take (i := 23) (oi := { dst := some 42, op := Op.indexAddr 26 (Operand.tmp 40) (Operand.tmp 41), type := 0, pos := "l15_charts.go:190", after := #[{ on := 21, ground := Ground.data }, { on := 22, ground := Ground.data }], guard := none }) (v := ?_) rfl (by kernel_rfl) (by kernel_rfl) (by kernel_rfl) (fun _ _ _ h => h) (Or.inl ⟨by rfl, ?_⟩) (by assumption) ?_
      rotate_left
      · (intro w hSw; (try dsimp only at hSw); go_simp; try with_reducible rfl)
      try simp only [Act.put, List.setIfInBounds_toArray, List.set_cons_zero, List.set_cons_succ]
      refine wpAnyH_take (i := 24) (oi := { dst := some 43, op := Op.fieldAddr 50 (Operand.tmp 42) 2, type := 0, pos := "l15_charts.go:190", after := #[{ on := 23, ground := Ground.data }], guard := none }) (v := ?_) rfl (by kernel_rfl) (by kernel_rfl) (by kernel_rfl) (fun _ _ _ h => h) (Or.inl ⟨by rfl, ?_⟩) (by assumption) ?_
      rotate_left
      · (intro w hSw; (try dsimp only at hSw); go_simp; try with_reducible rfl)
      try simp only [Act.put, List.setIfInBounds_toArray, List.set_cons_zero, List.set_cons_succ]
      refine wpAnyH_take (i := 25) (oi := { dst := some 44, op := Op.load 48 (Operand.tmp 43), type := 48, pos := "l15_charts.go:190", after := #[{ on := 24, ground := Ground.data }], guard := none }) (v := ?_) rfl (by kernel_rfl) (by kernel_rfl) (by kernel_rfl) (fun _ _ _ h => h) (Or.inl ⟨by rfl, ?_⟩) (by assumption) ?_
      rotate_left
      · (intro w hSw; (try dsimp only at hSw); go_simp; try with_reducible rfl)
      try simp only [Act.put, List.setIfInBounds_toArray, List.set_cons_zero, List.set_cons_succ]
      refine wpAnyH_ready (rs := [26]) (by kernel_rfl) (by simp) ?_
      refine AllReadyH.cons (o := { dst := some 45, op := Op.call { callee := Callee.value (Operand.func 33), args := #[Operand.tmp 44], argTypes := #[48] }, type := 48, pos := "l15_charts.go:190", after := #[{ on := 25, ground := Ground.data }], guard := none }) rfl (fun K hK => ?_) AllReadyH.nil
      go_simp
      go_at_call 33
      refine (HBk.out _ (by first | exact Below.refl _ _ | exact (Below.refl _ _).drew | exact bdrewN (Below.refl _ _) _)).mono ?_
      rintro e w2 ⟨v2, rfl, o2, b2⟩
      have bb2 : Below wr.heap.size wr w2 := (by first | exact b2 | exact ((Below.refl _ _).drew).trans b2 | exact (bdrewN (Below.refl _ _) _).trans b2)
      have HM2 := HRow.out _ bb2
      have m2 := HM2.c1
      have q2 := HM2.fz
      have hf2 := (bb2.cell (p := ⟨p, 1, none⟩) hpr).trans hf
      have r02 := (bb2.cell (p := ⟨b, off + k * 3, none⟩) hAl).trans r0
      have r12 := (bb2.cell (p := ⟨b, off + k * 3 + 1, none⟩) hAl).trans r1
      have r22 := (bb2.cell (p := ⟨b, off + k * 3 + 2, none⟩) hAl).trans r2
      have HO2 := hid (show sl.Own w2 wr.heap.size w2.heap.size v2 x.ps from o2)
      have HB2 := hid bb2
      have hs2 := bb2.size
      obtain ⟨a2, c2, hv2⟩ := own_val o2
      generalize x.ps.length = m2l at hv2
      subst hv2
      have bA2 := (Below.refl w2.heap.size w2).alloc (Nat.le_refl _) (.cells #[.int .i64 x.a0, .int .i64 x.a1, .slice a2 m2l c2] 50)
      have mA := (bA2.cell (p := ⟨w.heap.size + 1, 1, none⟩) (by show w.heap.size + 1 < w2.heap.size; omega)).trans m2
      have hfA := (bA2.cell (p := ⟨p, 1, none⟩) (by show p < w2.heap.size; omega)).trans hf2
      have r0A := (bA2.cell (p := ⟨b, off + k * 3, none⟩) (by show b < w2.heap.size; omega)).trans r02
      have r1A := (bA2.cell (p := ⟨b, off + k * 3 + 1, none⟩) (by show b < w2.heap.size; omega)).trans r12
      have r2A := (bA2.cell (p := ⟨b, off + k * 3 + 2, none⟩) (by show b < w2.heap.size; omega)).trans r22
      have HRw2 := hid (HM2.sr.below bA2).row
      have hc20 : (w2.alloc (.cells #[.int .i64 x.a0, .int .i64 x.a1, .slice a2 m2l c2] 50)).cell? ⟨w2.heap.size, 0, none⟩ = some (.int .i64 x.a0) := World.cell?_alloc_at _ _ _ _ rfl
      have hc21 : (w2.alloc (.cells #[.int .i64 x.a0, .int .i64 x.a1, .slice a2 m2l c2] 50)).cell? ⟨w2.heap.size, 1, none⟩ = some (.int .i64 x.a1) := World.cell?_alloc_at _ _ _ _ rfl
      have hc22 : (w2.alloc (.cells #[.int .i64 x.a0, .int .i64 x.a1, .slice a2 m2l c2] 50)).cell? ⟨w2.heap.size, 2, none⟩ = some (.slice a2 m2l c2) := World.cell?_alloc_at _ _ _ _ rfl
      have hz2 : (w2.alloc (.cells #[.int .i64 x.a0, .int .i64 x.a1, .slice a2 m2l c2] 50)).heap.size = w2.heap.size + 1 := by simp
      clear o2 b2 bb2 bA2 HM2
      try go_wp2_with fail
      refine hK.out _ _ ?_ (fun hHeld => ?_)
      · exact ⟨hf2, r02, r12, r22, m2⟩
      clear hK K
      try simp only [Act.put, List.setIfInBounds_toArray, List.set_cons_zero, List.set_cons_succ]
      refine wpAnyH_take (i := 27) (oi := { dst := some 46, op := Op.build 50 #[(0, Operand.tmp 28), (1, Operand.tmp 36), (2, Operand.tmp 45)], type := 50, pos := "l15_charts.go:190", after := #[{ on := 9, ground := Ground.data }, { on := 17, ground := Ground.data }, { on := 26, ground := Ground.data }], guard := none }) (v := ?_) rfl (by kernel_rfl) (by kernel_rfl) (by kernel_rfl) (fun _ _ _ h => h) (Or.inl ⟨by rfl, ?_⟩) (by assumption) ?_
      rotate_left
      · (intro w hSw; (try dsimp only at hSw); go_simp; try with_reducible rfl)
      try simp only [Act.put, List.setIfInBounds_toArray, List.set_cons_zero, List.set_cons_succ]
      refine wpAnyH_ready (rs := [28]) (by kernel_rfl) (by simp) ?_
      refine AllReadyH.cons (o := { dst := some 47, op := Op.buildSlice 26 1 #[(0, Operand.tmp 46)], type := 26, pos := "l15_charts.go:190", after := #[{ on := 27, ground := Ground.data }], guard := none }) rfl (fun K hK => ?_) AllReadyH.nil
      go_simp
      refine hK.out _ _ ?_ (fun hHeld => ?_)
      · exact ⟨hfA, r0A, r1A, r2A, mA⟩
      clear hK K
      try simp only [Act.put, List.setIfInBounds_toArray, List.set_cons_zero, List.set_cons_succ]
      refine wpAnyH_ready (rs := [29]) (by kernel_rfl) (by simp) ?_
      refine AllReadyH.cons (o := { dst := some 48, op := Op.call { callee := Callee.builtin Builtin.append, args := #[Operand.tmp 20, Operand.tmp 47], argTypes := #[26, 26] }, type := 26, pos := "l15_charts.go:190", after := #[{ on := 1, ground := Ground.data }, { on := 28, ground := Ground.data }, { on := 26, ground := Ground.chain }], guard := none }) rfl (fun K hK => ?_) AllReadyH.nil
      refine step_appW rfl _ _ rfl w1.heap.size (.slice az ll cz) ll (flatW L) (HLl.out ▸ HRw2.out) rfl w2.heap.size 1 ⟨x, .slice a2 m2l c2⟩ rfl hc20 hc21 hc22 rfl (by rw [hz2, HS1.out]; omega) (by omega) ?_
      intro v9 w9 hr9 hg9 h59
      obtain ⟨hm9, t1, t2, hb9⟩ := HMX.out.next HB2.out HO2.out ((Below.refl _ _).alloc (Nat.le_refl _) _) (by rw [← HLl.out]; exact hr9) hg9 h59
      have hbw9 : Below w.heap.size w w9 := HB0.out.trans (by rw [← HW1.out]; exact hb9.mono (by rw [HS1.out]; omega))
      have hf9 := HP.out w9 hbw9
      have r09 := (hbw9.cell (p := ⟨b, off + k * 3, none⟩) hb0).trans Q0.out
      have r19 := (hbw9.cell (p := ⟨b, off + k * 3 + 1, none⟩) hb0).trans Q1.out
      have r29 := (hbw9.cell (p := ⟨b, off + k * 3 + 2, none⟩) hb0).trans Q2.out
      have HM9 := hid hm9
      obtain ⟨a9', c9', hv9'⟩ := hm9.sr.rw.val
      obtain ⟨q9, hq9⟩ : ∃ q, q = (L ++ [(⟨x, .slice a2 m2l c2⟩ : Rw)]).length := ⟨_, rfl⟩
      rw [← hq9] at hv9'
      clear hq9 hm9 hr9 hg9 h59
      subst hv9'
      refine hK.out _ _ ?_ (fun hHeld => ?_)
      · exact ⟨hf9, r09, r19, r29, t1⟩
      clear hK K
      try simp only [Act.put, List.setIfInBounds_toArray, List.set_cons_zero, List.set_cons_succ]
      refine wpAnyH_take (i := 30) (oi := { dst := some 49, op := Op.fieldAddr 28 (Operand.tmp 3) 1, type := 0, pos := "l15_charts.go:190", after := #[{ on := 0, ground := Ground.phase }, { on := 1, ground := Ground.phase }, { on := 2, ground := Ground.phase }, { on := 3, ground := Ground.phase }, { on := 4, ground := Ground.phase }, { on := 5, ground := Ground.phase }, { on := 6, ground := Ground.phase }, { on := 7, ground := Ground.phase }, { on := 8, ground := Ground.phase }, { on := 9, ground := Ground.phase }, { on := 10, ground := Ground.phase }, { on := 11, ground := Ground.phase }, { on := 12, ground := Ground.phase }, { on := 13, ground := Ground.phase }, { on := 14, ground := Ground.phase }, { on := 15, ground := Ground.phase }, { on := 16, ground := Ground.phase }, { on := 17, ground := Ground.phase }, { on := 18, ground := Ground.phase }, { on := 19, ground := Ground.phase }, { on := 20, ground := Ground.phase }, { on := 21, ground := Ground.phase }, { on := 22, ground := Ground.phase }, { on := 23, ground := Ground.phase }, { on := 24, ground := Ground.phase }, { on := 25, ground := Ground.phase }, { on := 26, ground := Ground.phase }, { on := 27, ground := Ground.phase }, { on := 28, ground := Ground.phase }, { on := 29, ground := Ground.phase }], guard := none }) (v := ?_) rfl (by kernel_rfl) (by kernel_rfl) (by kernel_rfl) (fun _ _ _ h => h) (Or.inl ⟨by rfl, ?_⟩) (by assumption) ?_
      rotate_left
      · (intro w hSw; (try dsimp only at hSw); go_simp; try with_reducible rfl)
      try simp only [Act.put, List.setIfInBounds_toArray, List.set_cons_zero, List.set_cons_succ]
      refine wpAnyH_done (by kernel_rfl) ?_ _
      refine ls.last_run (o := { dst := none, op := Op.store 26 (Operand.tmp 49) (Operand.tmp 48), type := 0, pos := "l15_charts.go:190", after := #[{ on := 30, ground := Ground.data }, { on := 29, ground := Ground.data }, { on := 29, ground := Ground.chain }, { on := 0, ground := Ground.phase }, { on := 1, ground := Ground.phase }, { on := 2, ground := Ground.phase }, { on := 3, ground := Ground.phase }, { on := 4, ground := Ground.phase }, { on := 5, ground := Ground.phase }, { on := 6, ground := Ground.phase }, { on := 7, ground := Ground.phase }, { on := 8, ground := Ground.phase }, { on := 9, ground := Ground.phase }, { on := 10, ground := Ground.phase }, { on := 11, ground := Ground.phase }, { on := 12, ground := Ground.phase }, { on := 13, ground := Ground.phase }, { on := 14, ground := Ground.phase }, { on := 15, ground := Ground.phase }, { on := 16, ground := Ground.phase }, { on := 17, ground := Ground.phase }, { on := 18, ground := Ground.phase }, { on := 19, ground := Ground.phase }, { on := 20, ground := Ground.phase }, { on := 21, ground := Ground.phase }, { on := 22, ground := Ground.phase }, { on := 23, ground := Ground.phase }, { on := 24, ground := Ground.phase }, { on := 25, ground := Ground.phase }, { on := 26, ground := Ground.phase }, { on := 27, ground := Ground.phase }, { on := 28, ground := Ground.phase }, { on := 29, ground := Ground.phase }], guard := none }) rfl rfl ?_
      go_simp
      all_goals
        go_wp2
        go_roundw
        case rel => exact ⟨k + 1, _, _, by omega, by go_num, HM9.out, by rw [List.map_append, HMap.out, HT2.out]; rfl⟩
        case measure => simp [intOf]; omega
    · obtain rfl : k = n := by omega
      have HEq : Hid (L.map Rw.r = xs) := hid (by rw [HMap.out, HAll.out])
      have HOw := hid (HMX.out.sr.rw)
      obtain ⟨a9, c9, hv9⟩ := HOw.out.val
      have m0 := HMX.out.c0
      have m1 := HMX.out.c1
      obtain ⟨ll, hll⟩ : ∃ l, l = L.length := ⟨_, rfl⟩
      rw [← hll] at hv9
      clear hll
      subst hv9
      obtain ⟨d0, d1, e0, e1⟩ := HX.out wr (by rw [← HW1.out]; exact HMX.out.bl.mono (by rw [HS1.out]; omega))
      go_wp2
      refine bodyPost_ret (v := .agg #[.int .i64 c, .slice a9 ll c9]) (by simp [results, Tryd.results18, go_sem, d0, d1]) rfl ⟨_, L, rfl, ?_, HEq.out, ?_⟩
      · have h2 := rw_other (rw_other HOw.out w.heap.size 0 (.int .i64 c) (by rw [HS1.out]; omega)) w.heap.size 1 (.slice a9 ll c9) (by rw [HS1.out]; omega)
        have h3 := h2.low (lo' := w.heap.size) (by rw [HS1.out]; omega)
        simpa using h3
      · exact (HBw.out.setCell (by simp) _).setCell (by simp) _
end Go.Proofs.YtbbnheiibkcgiabDoor.cy

/- Rows of charts that are joined: append of many rows, slices.Concat; how many columns there are at the end. -/
namespace Go.Proofs.YtbbnheiibkcgiabDoor.cy
open Go.RowKit Go.Proofs.YtbbnheiibkcgiabDoor.sl Go.Proofs.YtbbnheiibkcgiabDoor.br Go.Proofs.YtbbnheiibkcgiabDoor.ss Go.Proofs.YtbbnheiibkcgiabDoor.ro Go.Proofs.YtbbnheiibkcgiabDoor.cm Go.Proofs.YtbbnheiibkcgiabDoor.cx
set_option linter.unusedVariables false
set_option linter.unusedSimpArgs false
set_option maxRecDepth 100000

/-- append(rows, others...). -/
theorem wp_appC {ops : Array Oper} {rest : List Oper} {o : Oper} {a : Act} {Q : Exit → Act → World → Prop} {W : World} (hgd : o.guard = none) (s x : Operand)
    (hop : o.op = .call { callee := .builtin .append, args := #[s, x], argTypes := #[26, 26] })
    (lo : Nat) (v : Value) (L M : List Rw) (h : W.ownsRow lo 50 3 v L.length (flatW L)) (hs : a.eval s = v) (b off c m : Nat) (hx : a.eval x = .slice (some ⟨b, off, none⟩) m c) (hm : m = M.length) (hc : ∀ j u, (flatW M)[j]? = some u → W.cell? ⟨b, off + j, none⟩ = some u) (h1 : ∀ k ∈ M, k.f.oneCell' = true) (hlo : lo ≤ W.heap.size) (hn : L.length + M.length ≤ 1048576)
    (hK : ∀ v' w', w'.ownsRow lo 50 3 v' (L.length + M.length) (flatW (L ++ M)) → W.grownBy w' v.ownBlock → (v'.ownBlock = v.ownBlock ∨ v'.ownBlock = some W.heap.size) → wpList Tryd.prog ops Q rest (a.put o.dst v') w') : wpList Tryd.prog ops Q (o :: rest) a W := by
  subst hm
  obtain ⟨i0, hi', hz0, hz1, hz2⟩ := info_parts infoRw
  obtain ⟨v', w', hr, e2, e3, e4, e5⟩ := run_append_own_at (P := Tryd.prog) W lo 26 o.type 50 i0 (.agg #[.int .i64 0, .int .i64 0, .slice none 0 0]) 3 40 Tryd.underlying26 hi' hz0 hz1 hz2 rfl (by decide) v L.length (flatW L) h ⟨b, off, none⟩ M.length c (flatW M) (flatW_len M)
    (fun j u hj => by rw [Addr.add_lit]; exact hc j u hj)
    (fun u hu => by
      simp only [flatW, List.mem_flatMap] at hu
      obtain ⟨k, hk, hu⟩ := hu
      simp at hu
      rcases hu with e | e | e
      · rw [e]; rfl
      · rw [e]; rfl
      · rw [e]; exact h1 k hk) (by unfold maxLen; omega) (by omega) hlo
  refine wpList_plain hgd fun K hKK => ?_
  unfold Oper.wp execOp
  simp only [hop, resolve, invoke, builtin, Sem.run_bind, Sem.run_pure, Result.andThen_ok, List.map_toArray, List.map_cons, List.map_nil, hs, hx, hr]
  exact hKK _ _ (hK v' w' (by rw [flatW_app]; exact e2) e3 e5)

theorem flatW_get : ∀ (M : List Rw) (j : Nat) (u : Value), (flatW M)[j]? = some u → ∃ q, q < M.length ∧ (j = q * 3 ∧ u = .int .i64 (M.getD q dz).r.a0 ∨ j = q * 3 + 1 ∧ u = .int .i64 (M.getD q dz).r.a1 ∨ j = q * 3 + 2 ∧ u = (M.getD q dz).f) := by
  intro M j u h
  have hlt : j < (flatW M).length := (List.getElem?_eq_some_iff.1 h).1
  rw [flatW_len] at hlt
  refine ⟨j / 3, by omega, ?_⟩
  obtain ⟨h0, h1, h2⟩ := flatW_at M (j / 3) (by omega)
  have h3 : j % 3 < 3 := Nat.mod_lt _ (by omega)
  have h4 : j = j / 3 * 3 + j % 3 := by omega
  rcases (show j % 3 = 0 ∨ j % 3 = 1 ∨ j % 3 = 2 by omega) with e | e | e
  · left
    have hj : j = j / 3 * 3 := by omega
    have h5 : (flatW M)[j / 3 * 3]? = some u := by rw [← hj]; exact h
    rw [h0] at h5
    exact ⟨hj, (Option.some.inj h5).symm⟩
  · right; left
    have hj : j = j / 3 * 3 + 1 := by omega
    have h5 : (flatW M)[j / 3 * 3 + 1]? = some u := by rw [← hj]; exact h
    rw [h1] at h5
    exact ⟨hj, (Option.some.inj h5).symm⟩
  · right; right
    have hj : j = j / 3 * 3 + 2 := by omega
    have h5 : (flatW M)[j / 3 * 3 + 2]? = some u := by rw [← hj]; exact h
    rw [h2] at h5
    exact ⟨hj, (Option.some.inj h5).symm⟩

/-- Rows that lie anywhere, as a list of what lies in their cells. -/
structure Got (w : World) (B : Nat) (v : Value) (xs : List V) (M : List Rw) (b off cap : Nat) : Prop where
  len : M.length = xs.length
  val : v = .slice (some ⟨b, off, none⟩) xs.length cap
  blk : b < B
  map : M.map Rw.r = xs
  cell : ∀ j u, (flatW M)[j]? = some u → w.cell? ⟨b, off + j, none⟩ = some u
  ints : ∀ j, j < M.length → Ints w B (M.getD j dz).f (M.getD j dz).r.ps ∧ fn.NilOk (M.getD j dz).f
theorem got {w : World} {B : Nat} {v : Value} {xs : List V} (h : InfsN w B v xs) (h0 : 0 < xs.length) : ∃ M b off cap, Got w B v xs M b off cap := by
  rcases h with ⟨h1, _⟩ | ⟨hp, b, off, cap, F, hv, hb, hc⟩
  · rw [h1] at h0; simp at h0
  · have hat : ∀ j, j < xs.length → ((List.range xs.length).map fun j => (⟨xs.getD j iz, F j⟩ : Rw)).getD j dz = ⟨xs.getD j iz, F j⟩ := fun j hj => by simp [List.getD, hj]
    refine ⟨(List.range xs.length).map fun j => ⟨xs.getD j iz, F j⟩, b, off, cap, by simp, hv, hb, ?_, fun j u hj => ?_, fun j hj => ?_⟩
    · apply List.ext_getElem?
      intro j
      simp only [List.map_map, List.getElem?_map]
      by_cases hj : j < xs.length
      · rw [List.getElem?_range hj, List.getElem?_eq_getElem hj]
        simp [List.getD, List.getElem?_eq_getElem hj]
      · rw [List.getElem?_eq_none (by simpa using hj), List.getElem?_eq_none (by omega)]; rfl
    · obtain ⟨q, hq, hcase⟩ := flatW_get _ j u hj
      have hq' : q < xs.length := by simpa using hq
      rw [hat q hq'] at hcase
      have hA := (hc q hq').1
      rcases hcase with ⟨rfl, rfl⟩ | ⟨rfl, rfl⟩ | ⟨rfl, rfl⟩
      · exact hA.c0
      · rw [← Nat.add_assoc]; exact hA.c1
      · rw [← Nat.add_assoc]; exact hA.c2
    · have hj' : j < xs.length := by simpa using hj
      rw [hat j hj']
      exact (hc j hj').2
theorem Got.below {w w' : World} {B lo : Nat} {v : Value} {xs : List V} {M : List Rw} {b off cap : Nat} (h : Got w B v xs M b off cap) (hb : Below lo w w') (hB : B ≤ lo) : Got w' B v xs M b off cap :=
  ⟨h.len, h.val, h.blk, h.map, fun j u hj => (hb.cell (p := ⟨b, off + j, none⟩) (Nat.lt_of_lt_of_le h.blk hB)).trans (h.cell j u hj), fun j hj => ⟨(h.ints j hj).1.chg (lo := lo) (hi := w.heap.size) ⟨hb.os, hb.tape, hb.output, hb.size, fun k hk hk' => hb.block k (by omega)⟩ (.inl hB), (h.ints j hj).2⟩⟩
theorem Got.one {w : World} {B : Nat} {v : Value} {xs : List V} {M : List Rw} {b off cap : Nat} (h : Got w B v xs M b off cap) : ∀ k ∈ M, k.f.oneCell' = true := by
  intro k hk
  obtain ⟨j, hj, e⟩ := List.getElem_of_mem hk
  have h1 := (h.ints j hj).1
  have e2 : M.getD j dz = k := by simp [List.getD, List.getElem?_eq_getElem hj, e]
  rw [e2] at h1
  obtain ⟨ao, cp, hv⟩ := ints_val h1
  rw [hv]; rfl
theorem getD_apps (M K : List Rw) (j : Nat) : (M ++ K).getD j dz = if j < M.length then M.getD j dz else K.getD (j - M.length) dz := by
  split
  · rename_i h; simp [List.getD, List.getElem?_append_left h]
  · rename_i h; simp [List.getD, List.getElem?_append_right (show M.length ≤ j by omega)]
theorem orow_val {W : World} {lo n : Nat} {v : Value} {vals : List Value} (h : W.ownsRow lo 50 3 v n vals) : ∃ ao cap, v = .slice ao n cap := by
  rcases h.2 with ⟨h1, h2⟩ | ⟨g, c, cur, h1, _⟩
  · exact ⟨none, 0, by rw [h1, h2]⟩
  · exact ⟨_, c, h1⟩
/-- What such cells say of a list. -/
theorem infs_row {w : World} {lo : Nat} {v : Value} {L : List Rw} (h : w.ownsRow lo 50 3 v L.length (flatW L)) (hi : ∀ j, j < L.length → Ints w w.heap.size (L.getD j dz).f (L.getD j dz).r.ps ∧ fn.NilOk (L.getD j dz).f) : InfsN w w.heap.size v (L.map Rw.r) := by
  rcases h.2 with ⟨hv, hn⟩ | ⟨g, cap, cur, hv, hb, hg, hrest⟩
  · exact .inl ⟨by rw [List.length_eq_zero_iff.1 hn]; rfl, none, 0, by rw [hv]⟩
  · by_cases hL : L = []
    · subst hL
      exact .inl ⟨rfl, _, _, hv⟩
    · have hp : 0 < L.length := List.length_pos_iff.2 hL
      have hown : v.ownBlock = some g := by rw [hv]; rfl
      have hlt := h.lt g hown
      refine .inr ⟨by rw [List.length_map]; exact hp, g, 0, cap, fun j => (L.getD j dz).f, by rw [List.length_map]; exact hv, hlt.2, fun j hj => ?_⟩
      rw [List.length_map] at hj
      have hc := flatW_at L j hj
      have e0 := h.cells hown (j * 3) _ hc.1
      have e1 := h.cells hown (j * 3 + 1) _ hc.2.1
      have e2 := h.cells hown (j * 3 + 2) _ hc.2.2
      rw [Addr.add_lit] at e0 e1 e2
      rw [map_at L j hj]
      exact ⟨⟨hlt.2, by simpa using e0, by simpa [Nat.zero_add] using e1, by simpa [Nat.zero_add] using e2⟩, hi j hj⟩
theorem infoInt9 : Tryd.prog.underlying 3 = some (.int .i64) := by kernel_rfl


end Go.Proofs.YtbbnheiibkcgiabDoor.cy

/- The number of columns at the end of a chart, of both sides; rows stored behind rows. -/
namespace Go.Proofs.YtbbnheiibkcgiabDoor.cy
open Go.RowKit Go.Proofs.YtbbnheiibkcgiabDoor.sl Go.Proofs.YtbbnheiibkcgiabDoor.br Go.Proofs.YtbbnheiibkcgiabDoor.ss Go.Proofs.YtbbnheiibkcgiabDoor.ro Go.Proofs.YtbbnheiibkcgiabDoor.cm Go.Proofs.YtbbnheiibkcgiabDoor.cx
set_option linter.unusedVariables false
set_option linter.unusedSimpArgs false
set_option maxRecDepth 100000

/-- The next rows are stored. -/
theorem MW.nexts {w1 wr w2 w9 : World} {c : Int} {g : Nat} {z v2 v9 : Value} {L M : List Rw} (h : MW w1 wr c g z L) (b : Below wr.heap.size wr w2) (h2 : RW w2 wr.heap.size v2 M)
    (hr : w9.ownsRow w1.heap.size 50 3 v9 (L.length + M.length) (flatW (L ++ M))) (hg : w2.grownBy w9 z.ownBlock) (h5 : v9.ownBlock = z.ownBlock ∨ v9.ownBlock = some w2.heap.size) :
    MW w1 (w9.setCell ⟨g, 1, none⟩ v9) c g v9 (L ++ M) ∧ w9.cell? ⟨g, 1, none⟩ = some z ∧ w9.frozen? ⟨g, 1, none⟩ = false ∧ w9.cell? ⟨g, 0, none⟩ = some (.int .i64 c) ∧ Below w1.heap.size w1 w9 := by
  have hlo := h.bl.size
  have hs1 := b.size
  have hg1 := h.g1
  have hs9 := hg.size
  have hlt : ∀ k, z.ownBlock = some k → k < wr.heap.size := fun k hk => (h.sr.row.lt k hk).2
  have hb9 : w9.heap[g]? = w2.heap[g]? := hg.block g (by omega) (fun e => h.ap g (by first | exact e | exact e.symm) rfl)
  have t1 := (World.cell?_of_block (a := ⟨g, 1, none⟩) hb9).trans ((b.cell (p := ⟨g, 1, none⟩) hg1).trans h.c1)
  have t2 := (World.frozen?_of_block (a := ⟨g, 1, none⟩) hb9).trans ((b.frozen (p := ⟨g, 1, none⟩) hg1).trans h.fz)
  have t0 := (World.cell?_of_block (a := ⟨g, 0, none⟩) hb9).trans ((b.cell (p := ⟨g, 0, none⟩) hg1).trans h.c0)
  have HB : Below w1.heap.size w1 w9 := (h.bl.trans (b.mono hlo)).grown hg (by omega) (fun j e => by have := (h.sr.row.lt j e).1; omega)
  have hap : ∀ b, v9.ownBlock = some b → b ≠ g := fun b hb e => by
    rcases h5 with h5 | h5
    · rw [h5] at hb; exact h.ap b hb e
    · rw [h5] at hb; simp only [Option.some.injEq] at hb; omega
  have HS : RG w9 w1.heap.size g v9 (L ++ M) := by
    have hL := h.sr.below b
    obtain ⟨Lo, Hi, he⟩ := h.sr.els
    obtain ⟨Lo2, Hi2, he2⟩ := h2.els
    refine ⟨by rw [List.length_append]; exact hr, fun j => if j < L.length then Lo j else Lo2 (j - L.length), fun j => if j < L.length then Hi j else Hi2 (j - L.length), fun j hj => ?_⟩
    rw [List.length_append] at hj
    by_cases hl : j < L.length
    · rw [getD_apps, if_pos hl]
      simp only [if_pos hl]
      obtain ⟨a1, a2, a3, a4, a5⟩ := he j hl
      have hh := a1.2.2
      have o2 := a1.chg (Chg.ofBelow (lo := 0) b) (.inr (.inr (Nat.zero_le _)))
      refine ⟨wk.own_by o2 hg a3, a2, fun q e => ?_, fun i hi => ?_, a5⟩
      · rcases h5 with h5 | h5
        · exact a3 q (by rw [← h5]; exact e)
        · rw [h5] at e
          simp only [Option.some.injEq] at e
          omega
      · rw [if_pos (show i < L.length by omega)]
        rw [if_pos (show i < L.length by omega)]
        exact a4 i hi
    · rw [getD_apps, if_neg hl]
      simp only [if_neg hl]
      obtain ⟨a1, a2, a3, a4⟩ := he2 (j - L.length) (by omega)
      have hh := a1.2.2
      have hll := a1.2.1
      refine ⟨wk.own_by a1 hg fun k hk => .inl (by have := hlt k hk; omega), by omega, fun q e => ?_, fun i hi => ?_, .inl (by omega)⟩
      · rcases h5 with h5 | h5
        · left
          have := hlt q (by rw [← h5]; exact e)
          omega
        · rw [h5] at e
          simp only [Option.some.injEq] at e
          omega
      · by_cases hi2 : i < L.length
        · simp only [if_pos hi2]
          have := (he i hi2).1.2.2
          omega
        · simp only [if_neg hi2]
          exact a4 (i - L.length) (by omega)
  exact ⟨⟨h.g0, by simp; omega, by rw [ss.other_at (by omega)]; exact t0, ss.same_at t1, by rw [World.frozen?_setCell]; exact t2, HS.set hap _ _, hap, HB.setCell h.g0 _⟩, t1, t2, t0, HB⟩
/-- Rows of the call's own are boxed. -/
theorem mw_box {w1 W : World} (c : Int) {z : Value} {L : List Rw} (h : RW W w1.heap.size z L) (b : Below w1.heap.size w1 W) : MW w1 (W.alloc (.cells #[.int .i64 c, z] 28)) c W.heap.size z L := by
  have b2 : Below W.heap.size W (W.alloc (.cells #[.int .i64 c, z] 28)) := (Below.refl _ _).alloc (Nat.le_refl _) _
  have hs := b.size
  have s1 : RG W w1.heap.size W.heap.size z L := by
    obtain ⟨Lo, Hi, he⟩ := h.els
    exact ⟨h.row, Lo, Hi, fun j hj => ⟨(he j hj).1, (he j hj).2.1, (he j hj).2.2.1, (he j hj).2.2.2, .inr (he j hj).1.2.2⟩⟩
  refine ⟨hs, by first | (simp; done) | (simp; omega), ?_, ?_, ?_, s1.below b2, fun q hq => ?_, b.trans (b2.mono hs)⟩
  · go_simp
  · go_simp
  · go_simp
  · have := (h.row.lt q hq).2; omega

def lastC (c : Int) (xs : List V) : Int := (kn.colW c xs).getD ((kn.colW c xs).length - 1) 0
theorem colW_ok {c : Int} {xs : List V} (h : chB c xs = true) : (kn.colW c xs).length = xs.length := by
  rw [kn.colW, List.length_map, chW, if_pos h, chL_len]
theorem lastC_eq (c : Int) (xs : List V) (h : 0 < (chW c xs).length) : ((((chW c xs).getD ((chW c xs).length - 1) []).length : Nat) : Int) = lastC c xs := by
  have h2 : (kn.colW c xs).length = (chW c xs).length := by rw [kn.colW, List.length_map]
  rw [lastC, h2, kn.colW]
  simp [List.getD, List.getElem?_map, List.getElem?_eq_getElem (show (chW c xs).length - 1 < (chW c xs).length by omega)]

set_option maxHeartbeats 2000000 in
theorem implEnd (c : Int) (xs : List V) (f : Value) (B : Nat) (w : World) (ha : Infs w B f xs) (hB : B ≤ w.heap.size) (hq : Small xs) (hT : stb.Tab w) (hok : chB c xs = true) :
    Calls Tryd.prog 22 #[.agg #[.int .i64 c, f]] w fun e w' => e = .returned (.int .i64 (lastC c xs)) ∧ Below w.heap.size w w' := by
  have hb0 := (Below.refl w.heap.size w).alloc (Nat.le_refl _) (.cells #[.int .i64 c, f] 28)
  have HS := hid (kn.implCol c xs f B _ (ha.below hb0) (Nat.le_trans hB hb0.size) hq (stb.carry hT hb0))
  have HB0 := hid hb0
  have hl := (ch_len hok).1
  have hl8 := (ch_len hok).2
  rw [← colW_ok hok] at hl hl8
  obtain ⟨ao, cap, hv⟩ := infs_val ha
  clear ha hb0 hT hok
  generalize xs.length = n at *
  subst hv
  have HL : Hid (lastC c xs = (kn.colW c xs).getD ((kn.colW c xs).length - 1) 0) := hid rfl
  generalize lastC c xs = l at *
  generalize kn.colW c xs = R at *
  obtain ⟨m, hm⟩ : ∃ m, R.length = m + 1 := ⟨R.length - 1, by omega⟩
  rw [hm, Nat.add_sub_cancel] at HL
  have hm8 : m < 8 := by omega
  have HM := hid hm
  clear hl hl8 hm
  have hw1 : IntKind.i64.wrap (((m + 1 : Nat) : Int) - 1) = (m : Int) := by rw [show (((m + 1 : Nat) : Int) - 1) = (m : Int) by omega]; exact IntWalk.i64_in _ (by omega)
  have hw2 : IntKind.i64.wrap ((m : Int) + 1 - 1) = (m : Int) := by rw [show ((m : Int) + 1 - 1) = (m : Int) by omega]; exact IntWalk.i64_in _ (by omega)
  have hw3 : IntKind.i64.wrap (m : Int) = (m : Int) := IntWalk.i64_in _ (by omega)
  go_enter Tryd.func22, Tryd.ntmps22
  go_wp2_with fail
  refine HS.out.mono ?_
  rintro e w1 ⟨v1, rfl, o1, b1⟩
  have B1 := hid (HB0.out.trans (b1.mono HB0.out.size))
  clear b1 HS
  obtain ⟨ao1, cp1, hv1⟩ := own_val o1
  rcases o1.ints with ⟨h0, _⟩ | ⟨_, g, off, cp, hvv, hg, hcc⟩
  · have := HM.out; rw [h0] at this; simp at this
  have hc := hcc m (by rw [HM.out]; omega)
  rw [← HL.out] at hc
  rw [HM.out] at hvv
  clear o1 hcc hv1
  subst hvv
  have hlt : (m : Int) < ((m + 1 : Nat) : Int) := by omega
  have hlt2 : (m : Int) < (m : Int) + 1 := by omega
  go_wp2
  go_ret
  exact ⟨rfl, B1.out⟩

set_option maxHeartbeats 2000000 in
theorem specEnd (c : Int) (xs : List V) (f : Value) (B p : Nat) (w : World) (hp : p < w.heap.size) (h0 : w.cell? ⟨p, 0, none⟩ = some (.int .i64 c)) (h1 : w.cell? ⟨p, 1, none⟩ = some f) (ha : Infs w B f xs) (hB : B ≤ w.heap.size) (hq : Small xs) (hok : chB c xs = true) :
    Calls Tryd.prog 17 #[.pointer (some ⟨p, 0, none⟩)] w fun e w' => e = .returned (.int .i64 (lastC c xs)) ∧ Below w.heap.size w w' := by
  have HS := hid (kn.specLS c xs f B p w hp h0 h1 ha hB hq)
  have hl : 0 < (chW c xs).length := by rw [chW, if_pos hok, chL_len]; exact (ch_len hok).1
  have hl8 : (chW c xs).length ≤ 8 := kn.chW_len c xs
  have HL := hid (lastC_eq c xs hl)
  have H8 := hid (kn.row8 c xs)
  clear ha hok h0 h1
  generalize lastC c xs = l at *
  generalize chW c xs = R at *
  obtain ⟨m, hm⟩ : ∃ m, R.length = m + 1 := ⟨R.length - 1, by omega⟩
  rw [hm, Nat.add_sub_cancel] at HL
  have hm8 : m < 8 := by omega
  have HM := hid hm
  clear hl hl8 hm
  have hw1 : IntKind.i64.wrap (((m + 1 : Nat) : Int) - 1) = (m : Int) := by rw [show (((m + 1 : Nat) : Int) - 1) = (m : Int) by omega]; exact IntWalk.i64_in _ (by omega)
  have hw2 : IntKind.i64.wrap ((m : Int) + 1 - 1) = (m : Int) := by rw [show ((m : Int) + 1 - 1) = (m : Int) by omega]; exact IntWalk.i64_in _ (by omega)
  have hw3 : IntKind.i64.wrap (m : Int) = (m : Int) := IntWalk.i64_in _ (by omega)
  go_enter Tryd.func17, Tryd.ntmps17
  go_wp2_with fail
  refine HS.out.mono ?_
  rintro e w1 ⟨v1, rfl, o1, b1⟩
  have B1 := hid b1
  clear b1 HS
  obtain ⟨g, off, cp, V, hvv, hg, hc, hi, hni⟩ := kn.rown_at o1 m (by rw [HM.out]; omega)
  rw [HM.out] at hvv
  obtain ⟨a5, c5, hV⟩ := ints_val hi
  have h88 := H8.out m (by rw [HM.out]; omega)
  clear o1 hi hni
  obtain ⟨q, hqq⟩ : ∃ q, q = (R.getD m []).length := ⟨_, rfl⟩
  rw [← hqq] at HL hV h88
  clear hqq
  subst hvv hV
  have hlt : (m : Int) < ((m + 1 : Nat) : Int) := by omega
  have hlt2 : (m : Int) < (m : Int) + 1 := by omega
  have hw4 : IntKind.i64.wrap (q : Int) = (q : Int) := IntWalk.i64_in _ (by omega)
  go_wp2
  go_ret
  exact ⟨by first | rfl | (rw [HL.out]; rfl) | (simp [HL.out]; rfl), B1.out⟩
end Go.Proofs.YtbbnheiibkcgiabDoor.cy

/- StackCharts of both sides. -/
namespace Go.Proofs.YtbbnheiibkcgiabDoor.cy
open Go.RowKit Go.Proofs.YtbbnheiibkcgiabDoor.sl Go.Proofs.YtbbnheiibkcgiabDoor.br Go.Proofs.YtbbnheiibkcgiabDoor.ss Go.Proofs.YtbbnheiibkcgiabDoor.ro Go.Proofs.YtbbnheiibkcgiabDoor.cm Go.Proofs.YtbbnheiibkcgiabDoor.cx
set_option linter.unusedVariables false
set_option linter.unusedSimpArgs false
set_option maxRecDepth 100000

/-- The code of StackCharts. -/
def skK (c : Int) (xs : List V) (d : Int) (ys : List V) : Int :=
  if chB c xs && chB d ys then (if lastC c xs = d then (if chB c (xs ++ ys) then 0 else 5) else 10) else 1
def skC (c : Int) (xs : List V) (d : Int) (ys : List V) : Int := if skK c xs d ys = 0 then c else 0
def skR (c : Int) (xs : List V) (d : Int) (ys : List V) : List V := if skK c xs d ys = 0 then xs ++ ys else []

theorem small_app {xs ys : List V} (hx : Small xs) (hy : Small ys) (h8 : xs.length ≤ 8) (k8 : ys.length ≤ 8) : Small (xs ++ ys) := by
  refine ⟨by rw [List.length_append]; omega, fun j hj => ?_⟩
  by_cases h : j < xs.length
  · have : (xs ++ ys).getD j iz = xs.getD j iz := by simp [List.getD, List.getElem?_append_left h]
    rw [this]; exact hx.short j h
  · have : (xs ++ ys).getD j iz = ys.getD (j - xs.length) iz := by simp [List.getD, List.getElem?_append_right (show xs.length ≤ j by omega)]
    rw [this]; exact hy.short _ (by rw [List.length_append] at hj; omega)
theorem _root_.Go.Proofs.YtbbnheiibkcgiabDoor.cm.InfsN.below {w w' : World} {B : Nat} {v : Value} {xs : List V} (h : InfsN w B v xs) (b : Below w.heap.size w w') : InfsN w' B v xs := by
  rcases h with h | ⟨hp, bb, off, cap, F, hv, hb, hc⟩
  · exact .inl h
  · exact .inr ⟨hp, bb, off, cap, F, hv, hb, fun j hj => ⟨(hc j hj).1.below b, (hc j hj).2.1.chg (Chg.ofBelow (lo := 0) b) (.inr (Nat.zero_le _)), (hc j hj).2.2⟩⟩

/-- The three boxes of a law's call. -/
theorem box3 (w : World) (c d : Int) (f g : Value) : ∃ wb, wb = ((w.alloc (.cells #[.int .i64 c, f] 28)).alloc (.cells #[.int .i64 d, g] 28)).alloc (.cells #[.int .i64 0, .slice none 0 0] 28) ∧ wb.heap.size = w.heap.size + 3 ∧ Below w.heap.size w wb ∧ ∀ W, Below (w.heap.size + 3) wb W →
    W.cell? ⟨w.heap.size, 0, none⟩ = some (.int .i64 c) ∧ W.cell? ⟨w.heap.size, 1, none⟩ = some f ∧ W.cell? ⟨w.heap.size + 1, 0, none⟩ = some (.int .i64 d) ∧ W.cell? ⟨w.heap.size + 1, 1, none⟩ = some g ∧ W.cell? ⟨w.heap.size + 2, 0, none⟩ = some (.int .i64 0) ∧ W.cell? ⟨w.heap.size + 2, 1, none⟩ = some (.slice none 0 0) ∧ W.frozen? ⟨w.heap.size + 2, 0, none⟩ = false ∧ W.frozen? ⟨w.heap.size + 2, 1, none⟩ = false := by
  refine ⟨_, rfl, by simp, (((Below.refl _ w).alloc (Nat.le_refl _) _).alloc (by simp) _).alloc (by simp; omega) _, fun W b => ?_⟩
  exact ⟨(b.cell (p := ⟨w.heap.size, 0, none⟩) (by simp)).trans (by go_simp), (b.cell (p := ⟨w.heap.size, 1, none⟩) (by simp)).trans (by go_simp), (b.cell (p := ⟨w.heap.size + 1, 0, none⟩) (by simp)).trans (by go_simp), (b.cell (p := ⟨w.heap.size + 1, 1, none⟩) (by simp)).trans (by go_simp), (b.cell (p := ⟨w.heap.size + 2, 0, none⟩) (by simp)).trans (by go_simp), (b.cell (p := ⟨w.heap.size + 2, 1, none⟩) (by simp)).trans (by go_simp), (b.frozen (p := ⟨w.heap.size + 2, 0, none⟩) (by simp)).trans (by go_simp), (b.frozen (p := ⟨w.heap.size + 2, 1, none⟩) (by simp)).trans (by go_simp)⟩
/-- What is answered where nothing is. -/
theorem sk_none {w w' : World} {c d : Int} {xs ys : List V} {k : Int} (h : skK c xs d ys = k) (h0 : k ≠ 0) (b : Below w.heap.size w w') :
    ∃ ao cap, Ending.returned (.tuple #[.agg #[.int .i64 0, .slice none 0 0], .int .i64 k]) = .returned (.tuple #[.agg #[.int .i64 (skC c xs d ys), .slice ao (skR c xs d ys).length cap], .int .i64 (skK c xs d ys)]) ∧ IOwn w' w.heap.size w'.heap.size (.slice ao (skR c xs d ys).length cap) (skR c xs d ys) ∧ Below w.heap.size w w' := by
  have e1 : skC c xs d ys = 0 := by rw [skC, h, if_neg h0]
  have e2 : skR c xs d ys = [] := by rw [skR, h, if_neg h0]
  rw [e1, e2, h]
  exact ⟨none, 0, rfl, ⟨Nat.le_refl _, .inl ⟨rfl, _, _, rfl⟩⟩, b⟩

theorem sk_some {w w' : World} {c d : Int} {xs ys : List V} (h : skK c xs d ys = 0) {ao : Option Addr} {n cap : Nat} (hn : n = (xs ++ ys).length) (o : IOwn w' w.heap.size w'.heap.size (.slice ao n cap) (xs ++ ys)) (b : Below w.heap.size w w') :
    ∃ ao' cap', Ending.returned (.tuple #[.agg #[.int .i64 c, .slice ao n cap], .int .i64 0]) = .returned (.tuple #[.agg #[.int .i64 (skC c xs d ys), .slice ao' (skR c xs d ys).length cap'], .int .i64 (skK c xs d ys)]) ∧ IOwn w' w.heap.size w'.heap.size (.slice ao' (skR c xs d ys).length cap') (skR c xs d ys) ∧ Below w.heap.size w w' := by
  have e1 : skC c xs d ys = c := by rw [skC, h, if_pos rfl]
  have e2 : skR c xs d ys = xs ++ ys := by rw [skR, h, if_pos rfl]
  rw [e1, e2, h]
  subst hn
  exact ⟨ao, cap, rfl, o, b⟩
theorem rw_one {W : World} {lo : Nat} {v : Value} {M : List Rw} (h : RW W lo v M) : ∀ k ∈ M, k.f.oneCell' = true := by
  intro k hk
  obtain ⟨j, hj, e⟩ := List.getElem_of_mem hk
  obtain ⟨Lo, Hi, he⟩ := h.els
  have h1 := (he j hj).1
  have e2 : M.getD j dz = k := by simp [List.getD, List.getElem?_eq_getElem hj, e]
  rw [e2] at h1
  obtain ⟨ao, cp, hv⟩ := own_val h1
  rw [hv]; rfl
theorem rw_addr {W : World} {lo : Nat} {v : Value} {M : List Rw} (h : RW W lo v M) (h0 : 0 < M.length) : ∃ g c, v = .slice (some ⟨g, 0, none⟩) M.length c ∧ ∀ j u, (flatW M)[j]? = some u → W.cell? ⟨g, 0 + j, none⟩ = some u := by
  rcases h.row.2 with ⟨_, h1⟩ | ⟨g, c, cur, h1, _⟩
  · omega
  · exact ⟨g, c, h1, fun j u hj => by
      have := h.row.cells (by rw [h1]; rfl) j u hj
      rw [Addr.add_lit] at this
      exact this⟩

end Go.Proofs.YtbbnheiibkcgiabDoor.cy

/- StackCharts of the program. -/
namespace Go.Proofs.YtbbnheiibkcgiabDoor.cy
open Go.RowKit Go.Proofs.YtbbnheiibkcgiabDoor.sl Go.Proofs.YtbbnheiibkcgiabDoor.br Go.Proofs.YtbbnheiibkcgiabDoor.ss Go.Proofs.YtbbnheiibkcgiabDoor.ro Go.Proofs.YtbbnheiibkcgiabDoor.cm Go.Proofs.YtbbnheiibkcgiabDoor.cx
set_option linter.unusedVariables false
set_option linter.unusedSimpArgs false
set_option maxRecDepth 100000

theorem sk_co {c d : Int} {xs ys : List V} (h1 : chB c xs = true) (h2 : chB d ys = true) (hd : lastC c xs = d) : skK c xs d ys = coK c (xs ++ ys) ∧ skC c xs d ys = coC c (xs ++ ys) ∧ skR c xs d ys = coR c (xs ++ ys) := by
  have hk : skK c xs d ys = coK c (xs ++ ys) := by unfold skK coK; simp [h1, h2, hd]
  refine ⟨hk, ?_, ?_⟩
  · unfold skC coC
    rw [hk]
    unfold coK
    cases chB c (xs ++ ys) <;> rfl
  · unfold skR coR
    rw [hk]
    unfold coK
    cases chB c (xs ++ ys) <;> rfl

/-! ### For the law -/
theorem ch_short {c : Int} {zs : List V} (h : chB c zs = true) (j : Nat) (hj : j < zs.length) : (zs.getD j iz).ps.length ≤ 16 := by
  simp only [chB, Bool.and_eq_true] at h
  have h2 := h.2.2
  rw [okTo, List.all_eq_true] at h2
  have h3 := h2 j (by simpa using hj)
  simp only [rowOk, Bool.and_eq_true, vr5.rowB] at h3
  exact (st.lst_parts h3.1.2.2).1
theorem co_tot (c : Int) (zs : List V) : Small (coR c zs) ∧ ss.tot (prs (coR c zs)) ≤ 1048576 := by
  unfold coR
  cases h : chB c zs with
  | false => exact ⟨⟨by simp, fun j hj => by simp at hj⟩, by simp [ss.tot, ss.pre, prs, ss.lens]⟩
  | true =>
    simp only [if_true]
    have h8 := (ch_len h).2
    have hs := ch_short h
    refine ⟨⟨by omega, fun j hj => by have := hs j hj; omega⟩, ?_⟩
    have h1 := kn.tot_b9 (prs zs) 16 (fun r hr => by
      simp only [prs, List.mem_map] at hr
      obtain ⟨x, hx, rfl⟩ := hr
      obtain ⟨j, hj, e⟩ := List.getElem_of_mem hx
      have h2 := hs j hj
      have e2 : zs.getD j iz = x := by simp [List.getD, List.getElem?_eq_getElem hj, e]
      rw [e2] at h2
      exact h2)
    have h3 : (prs zs).length = zs.length := by simp [prs]
    rw [h3] at h1
    have : zs.length * 16 ≤ 8 * 16 := Nat.mul_le_mul_right _ h8
    omega
theorem sk_tot (c : Int) (xs : List V) (d : Int) (ys : List V) : Small (skR c xs d ys) ∧ ss.tot (prs (skR c xs d ys)) ≤ 1048576 := by
  by_cases h : skK c xs d ys = 0
  · have e : skR c xs d ys = coR c (xs ++ ys) := by
      have hb : chB c (xs ++ ys) = true := by
        unfold skK at h
        split at h
        · split at h
          · split at h
            · assumption
            · cases h
          · cases h
        · cases h
      rw [skR, if_pos h, coR, if_pos hb]
    rw [e]
    exact co_tot _ _
  · rw [skR, if_neg h]
    exact ⟨⟨by simp, fun j hj => by simp at hj⟩, by simp [ss.tot, ss.pre, prs, ss.lens]⟩

end Go.Proofs.YtbbnheiibkcgiabDoor.cy
