/-
  In one file: Crw, Cmi, Cms.
-/
import Derived.Test.YtalioekeinohkaaDoorRw2
import Derived.Test.YtalioekeinohkaaDoorSr
import Derived.Test.YtalioekeinohkaaDoorMs1
import Derived.Test.YtalioekeinohkaaDoorIv
import Derived.Test.YtalioekeinohkaaDoorRed
import Derived.Test.YtalioekeinohkaaDoorKam
import Derived.Test.YtalioekeinohkaaDoorCt1
import Derived.Test.YtalioekeinohkaaDoorKas
/- Rows of charts that a call builds by append: what it owns. -/
namespace Go.Proofs.YtalioekeinohkaaDoor.ro
open Go.RowKit Go.Proofs.YtalioekeinohkaaDoor.sl Go.Proofs.YtalioekeinohkaaDoor.br Go.Proofs.YtalioekeinohkaaDoor.ss
set_option linter.unusedVariables false

structure Rw where
  r : V
  f : Value
def dz : Rw := ⟨iz, .slice none 0 0⟩
def flatW (L : List Rw) : List Value := L.flatMap fun k => [.int .i64 k.r.a0, .int .i64 k.r.a1, k.f]
theorem flatW_app (L M : List Rw) : flatW (L ++ M) = flatW L ++ flatW M := by simp [flatW]
theorem flatW_one (k : Rw) : flatW [k] = [.int .i64 k.r.a0, .int .i64 k.r.a1, k.f] := rfl
theorem flatW_len (L : List Rw) : (flatW L).length = L.length * 3 := by
  induction L with
  | nil => rfl
  | cons k L ih => simp only [flatW, List.flatMap_cons, List.length_append, List.length_cons, List.length_nil] at ih ⊢; omega
theorem flatW_at : ∀ (L : List Rw) (j : Nat), j < L.length → (flatW L)[j * 3]? = some (.int .i64 (L.getD j dz).r.a0) ∧ (flatW L)[j * 3 + 1]? = some (.int .i64 (L.getD j dz).r.a1) ∧ (flatW L)[j * 3 + 2]? = some (L.getD j dz).f
  | [], j, h => by simp at h
  | x :: L, 0, h => ⟨rfl, rfl, rfl⟩
  | x :: L, j + 1, h => by
    have := flatW_at L j (by simpa using h)
    rw [show (j + 1) * 3 = j * 3 + 1 + 1 + 1 from by omega]
    exact this
theorem getD_app1 (L : List Rw) (k : Rw) (j : Nat) (h : j < L.length) : (L ++ [k]).getD j dz = L.getD j dz := by simp [List.getD, List.getElem?_append_left h]
theorem getD_app2 (L : List Rw) (k : Rw) : (L ++ [k]).getD L.length dz = k := by simp [List.getD]

structure RW (W : World) (lo : Nat) (v : Value) (L : List Rw) : Prop where
  row : W.ownsRow lo 81 3 v L.length (flatW L)
  els : ∃ Lo Hi : Nat → Nat, ∀ j, j < L.length → sl.Own W (Lo j) (Hi j) (L.getD j dz).f (L.getD j dz).r.ps ∧ lo ≤ Lo j ∧ (∀ g, v.ownBlock = some g → g < Lo j ∨ Hi j ≤ g) ∧ ∀ i, i < j → Hi i ≤ Lo j ∨ Hi j ≤ Lo i
theorem RW.below {W W' : World} {lo : Nat} {v : Value} {L : List Rw} (h : RW W lo v L) (b : Below W.heap.size W W') : RW W' lo v L := by
  obtain ⟨Lo, Hi, he⟩ := h.els
  refine ⟨World.ownsRow.kept h.row (wk.grN b) (by cases v.ownBlock <;> simp), Lo, Hi, fun j hj => ?_⟩
  obtain ⟨h1, h2⟩ := he j hj
  exact ⟨h1.chg (Chg.ofBelow (lo := 0) b) (.inr (.inr (Nat.zero_le _))), h2⟩
theorem RW.start {W : World} {lo : Nat} {v : Value} (h : W.ownsRow lo 81 3 v 0 []) : RW W lo v [] :=
  ⟨h, fun _ => 0, fun _ => 0, fun j hj => by simp at hj⟩
theorem RW.nil (W : World) (lo : Nat) : RW W lo (.slice none 0 0) [] := RW.start (World.ownsRow_nil _ _ _ _)
theorem RW.val {W : World} {lo : Nat} {v : Value} {L : List Rw} (h : RW W lo v L) : ∃ ao cap, v = .slice ao L.length cap := by
  rcases h.row.2 with ⟨h1, h2⟩ | ⟨g, c, cur, h1, _⟩
  · exact ⟨none, 0, by rw [h1, h2]⟩
  · exact ⟨_, c, h1⟩
theorem RW.low {W : World} {lo lo' : Nat} {v : Value} {L : List Rw} (h : RW W lo v L) (hl : lo' ≤ lo) : RW W lo' v L := by
  obtain ⟨Lo, Hi, he⟩ := h.els
  refine ⟨⟨h.row.1, ?_⟩, Lo, Hi, fun j hj => ?_⟩
  · rcases h.row.2 with h1 | ⟨g, c, cur, h1, h2, h3⟩
    · exact .inl h1
    · exact .inr ⟨g, c, cur, h1, by omega, h3⟩
  · obtain ⟨a1, a2, a3⟩ := he j hj
    exact ⟨a1, by omega, a3⟩
theorem map_at (L : List Rw) (j : Nat) (h : j < L.length) : (L.map Rw.r).getD j iz = (L.getD j dz).r := by simp [List.getD, h]
/-- The rows as an answer. -/
theorem RW.iown {W : World} {lo : Nat} {v : Value} {L : List Rw} (h : RW W lo v L) : IOwn W lo W.heap.size v (L.map Rw.r) := by
  refine ⟨Nat.le_refl _, ?_⟩
  rcases h.row.2 with ⟨hv, hn⟩ | ⟨g, cap, cur, hv, hb, hg, hrest⟩
  · exact .inl ⟨by rw [List.length_eq_zero_iff.1 hn]; rfl, none, 0, by rw [hv]⟩
  · by_cases hL : L = []
    · subst hL
      exact .inl ⟨rfl, _, _, hv⟩
    · have hp : 0 < L.length := List.length_pos_iff.2 hL
      obtain ⟨Lo, Hi, he⟩ := h.els
      have hown : v.ownBlock = some g := by rw [hv]; rfl
      have hlt := h.row.lt g hown
      have hrow := h.row
      rw [hv] at hrow
      refine .inr ⟨by rw [List.length_map]; exact hp, g, cap, fun j => (L.getD j dz).f, Lo, Hi, by rw [List.length_map]; exact hv, hb, hlt.2, fun o ho => hrow.frozenAt o, fun j hj => ?_⟩
      rw [List.length_map] at hj
      obtain ⟨a1, a2, a3, a4⟩ := he j hj
      have hc := flatW_at L j hj
      have e0 := h.row.cells hown (j * 3) _ hc.1
      have e1 := h.row.cells hown (j * 3 + 1) _ hc.2.1
      have e2 := h.row.cells hown (j * 3 + 2) _ hc.2.2
      rw [Addr.add_lit] at e0 e1 e2
      rw [map_at L j hj]
      exact ⟨⟨hlt.2, by simpa using e0, by simpa [Nat.zero_add] using e1, by simpa [Nat.zero_add] using e2⟩, a1, a2, a1.2.2, a3 g hown, a4⟩

theorem infoRw : (Tryd.prog.info? 81).map (fun i => (i.zero, i.size, i.bytes)) = some (some (.agg #[.int .i64 0, .int .i64 0, .slice none 0 0]), 3, 40) := by kernel_rfl

/-- append(rows, row): the row's list lies in a block that is newer than the rows so far. -/
theorem wp_appW {ops : Array Oper} {rest : List Oper} {o : Oper} {a : Act} {Q : Exit → Act → World → Prop} {Wr W1 : World} (hgd : o.guard = none) (s x : Operand)
    (hop : o.op = .call { callee := .builtin .append, args := #[s, x], argTypes := #[45, 45] })
    (lo : Nat) (v : Value) (L : List Rw) (k : Rw) (h : RW Wr lo v L) (b : Below Wr.heap.size Wr W1) (oy : sl.Own W1 Wr.heap.size W1.heap.size k.f k.r.ps) (hy1 : k.f.oneCell' = true) (hs : a.eval s = v) (hx : a.eval x = .slice (some ⟨W1.heap.size, 0, none⟩) 1 1) (hlo : lo ≤ Wr.heap.size) (hn : L.length ≤ 1048576)
    (hK : ∀ v' w', RW w' lo v' (L ++ [k]) → Below lo W1 w' → wpList Tryd.prog ops Q rest (a.put o.dst v') w') : wpList Tryd.prog ops Q (o :: rest) a (W1.alloc (.cells #[.int .i64 k.r.a0, .int .i64 k.r.a1, k.f] 81)) := by
  obtain ⟨i0, hi', hz0, hz1, hz2⟩ := info_parts infoRw
  have b2 : Below W1.heap.size W1 (W1.alloc (.cells #[.int .i64 k.r.a0, .int .i64 k.r.a1, k.f] 81)) := (Below.refl _ _).alloc (Nat.le_refl _) _
  have hs1 := b.size
  have hs2 := b2.size
  have h2 := (h.below b).below b2
  obtain ⟨v', w', hr, e2, e3, e4, e5⟩ := run_append_own_at (P := Tryd.prog) (W1.alloc (.cells #[.int .i64 k.r.a0, .int .i64 k.r.a1, k.f] 81)) lo 45 o.type 81 i0 (.agg #[.int .i64 0, .int .i64 0, .slice none 0 0]) 3 40 Tryd.underlying45 hi' hz0 hz1 hz2 rfl (by decide) v L.length (flatW L) h2.row ⟨W1.heap.size, 0, none⟩ 1 1 [.int .i64 k.r.a0, .int .i64 k.r.a1, k.f] (by simp)
    (fun j u hj => by
      match j, hj with
      | 0, hj =>
        simp only [List.getElem?_cons_zero, Option.some.injEq] at hj
        subst hj
        rw [Addr.add_lit, World.cell?_alloc_at _ _ _ _ rfl]; rfl
      | 1, hj =>
        simp only [List.getElem?_cons_succ, List.getElem?_cons_zero, Option.some.injEq] at hj
        subst hj
        rw [Addr.add_lit, World.cell?_alloc_at _ _ _ _ rfl]; rfl
      | 2, hj =>
        simp only [List.getElem?_cons_succ, List.getElem?_cons_zero, Option.some.injEq] at hj
        subst hj
        rw [Addr.add_lit, World.cell?_alloc_at _ _ _ _ rfl]; rfl)
    (fun u hu => by
      simp at hu
      rcases hu with e | e | e
      · rw [e]; rfl
      · rw [e]; rfl
      · rw [e]; exact hy1) (by unfold maxLen; omega) (by omega) (by simp; omega)
  have hlt : ∀ g, v.ownBlock = some g → lo ≤ g ∧ g < Wr.heap.size := fun g hg => h.row.lt g hg
  have oy2 := oy.chg (Chg.ofBelow (lo := 0) b2) (.inr (.inr (Nat.zero_le _)))
  obtain ⟨Lo, Hi, he⟩ := h.els
  refine wpList_plain hgd fun K hKK => ?_
  unfold Oper.wp execOp
  simp only [hop, resolve, invoke, builtin, Sem.run_bind, Sem.run_pure, Result.andThen_ok, List.map_toArray, List.map_cons, List.map_nil, hs, hx, hr]
  refine hKK _ _ (hK v' w' ⟨by rw [flatW_app, flatW_one, List.length_append]; exact e2, fun j => if j < L.length then Lo j else Wr.heap.size, fun j => if j < L.length then Hi j else W1.heap.size, fun j hj => ?_⟩ ⟨e3.os.trans b2.os, e3.tape.trans b2.tape, e3.output.trans b2.output, Nat.le_trans b2.size e3.size, fun q hq => ?_⟩)
  · simp only [List.length_append, List.length_cons, List.length_nil, Nat.zero_add] at hj
    by_cases hl : j < L.length
    · rw [getD_app1 L k j hl]
      obtain ⟨a1, a2, a3, a4⟩ := he j hl
      have hh := a1.2.2
      have o2 := (a1.chg (Chg.ofBelow (lo := 0) b) (.inr (.inr (Nat.zero_le _)))).chg (Chg.ofBelow (lo := 0) b2) (.inr (.inr (Nat.zero_le _)))
      simp only [if_pos hl]
      refine ⟨wk.own_by o2 e3 a3, a2, fun g e => ?_, fun i hi => ?_⟩
      · rcases e5 with e5 | e5
        · exact a3 g (by rw [← e5]; exact e)
        · rw [e5] at e
          simp only [Option.some.injEq] at e
          omega
      · rw [if_pos (show i < L.length by omega)]
        rw [if_pos (show i < L.length by omega)]
        exact a4 i hi
    · obtain rfl : j = L.length := by omega
      rw [getD_app2 L k]
      simp only [if_neg (Nat.lt_irrefl _)]
      refine ⟨wk.own_by oy2 e3 fun q hq => .inl (hlt q hq).2, hlo, fun g e => ?_, fun i hi => ?_⟩
      · rcases e5 with e5 | e5
        · exact .inl (hlt g (by rw [← e5]; exact e)).2
        · rw [e5] at e
          simp only [Option.some.injEq] at e
          omega
      · simp only [if_pos hi]
        have := (he i hi).1.2.2
        omega
  · rw [e3.block q (by omega) (by intro e; have := (hlt q e.symm).1; omega)]
    exact b2.block q (by omega)
end Go.Proofs.YtalioekeinohkaaDoor.ro

/- MirrorChart of the program. -/
namespace Go.Proofs.YtalioekeinohkaaDoor.cm
open Go.RowKit Go.Sort Go.Proofs.YtalioekeinohkaaDoor.sl Go.Proofs.YtalioekeinohkaaDoor.br Go.Proofs.YtalioekeinohkaaDoor.bw Go.Proofs.YtalioekeinohkaaDoor.st Go.Proofs.YtalioekeinohkaaDoor.cx Go.Proofs.YtalioekeinohkaaDoor.ro
set_option linter.unusedVariables false
set_option linter.unusedSimpArgs false
set_option maxRecDepth 100000

/-- The first k stitches mirrored. -/
def mirTo (ks : List Int) (k : Nat) : List Int := (ks.take k).map mi ++ ks.drop k
theorem mirTo_zero (ks : List Int) : mirTo ks 0 = ks := by simp [mirTo]
theorem mirTo_all (ks : List Int) : mirTo ks ks.length = ks.map mi := by simp [mirTo]
theorem mirTo_len (ks : List Int) (k : Nat) (h : k ≤ ks.length) : (mirTo ks k).length = ks.length := by simp [mirTo]; omega
theorem mirTo_at (ks : List Int) (k : Nat) (h : k < ks.length) : (mirTo ks k).getD k 0 = ks.getD k 0 := by
  simp only [mirTo, List.getD]
  rw [List.getElem?_append_right (by simp; omega)]
  simp [Nat.min_eq_left (Nat.le_of_lt h)]
theorem mirTo_set (ks : List Int) (k : Nat) (h : k < ks.length) : (mirTo ks k).set k (mi (ks.getD k 0)) = mirTo ks (k + 1) := by
  apply List.ext_getElem?
  intro m
  have hl : ((ks.take k).map mi).length = k := by simp; omega
  have hl2 : ((ks.take (k + 1)).map mi).length = k + 1 := by simp; omega
  rw [List.getElem?_set]
  by_cases e : k = m
  · subst e
    rw [if_pos rfl, if_pos (by rw [mirTo_len ks k (by omega)]; exact h), mirTo, List.getElem?_append_left (by omega)]
    simp [List.getD, h]
  · rw [if_neg e, mirTo, mirTo]
    by_cases hm : m < k
    · rw [List.getElem?_append_left (by omega), List.getElem?_append_left (by omega)]
      simp [List.getElem?_map, List.getElem?_take, hm, show m < k + 1 by omega]
    · rw [List.getElem?_append_right (by omega), List.getElem?_append_right (by omega), hl, hl2, List.getElem?_drop, List.getElem?_drop]
      congr 1; omega

theorem implBackI (xs : List Int) (v : Value) (B : Nat) (w : World) (ha : Ints w B v xs) (hnil : fn.NilOk v) (hn : xs.length ≤ 1048576) :
    Calls Tryd.prog 105 #[v] w fun e w' => ∃ v', e = .returned v' ∧ sl.Own w' w.heap.size w'.heap.size v' xs.reverse ∧ Below w.heap.size w w' := by
  have HC := hid (fn.clone xs v B w ha hnil hn)
  obtain ⟨ao, cap, hv⟩ := ints_val ha
  clear ha hnil
  have hn2 := hn
  obtain ⟨n, hnn⟩ : ∃ n, n = xs.length := ⟨_, rfl⟩
  rw [← hnn] at hv
  have HN := hid hnn
  clear hnn hn
  subst hv
  go_enter Tryd.func105, Tryd.ntmps105
  go_wp2_with fail
  refine HC.out.mono ?_
  rintro e w1 ⟨v1, rfl, o1, b1⟩
  have B1 := hid b1
  have HR1 := hid (br.reverse xs v1 _ _ w1 o1 (by omega))
  obtain ⟨ao1, cap1, hv1⟩ := own_val o1
  rw [← HN.out] at hv1
  clear b1 o1
  subst hv1
  go_wp2_with fail
  refine HR1.out.mono ?_
  rintro e w2 ⟨rfl, k2, c2⟩
  have K2 := hid (k2.hi c2.size (Nat.le_refl _))
  have B2 := hid (B1.out.trans (c2.below (Nat.le_refl _) B1.out.size))
  clear k2 c2
  go_wp2
  go_ret
  exact ⟨_, rfl, K2.out, B2.out⟩

set_option maxHeartbeats 4000000 in
theorem implMir (x0 x1 : Int) (ps : List Int) (f : Value) (B : Nat) (w : World) (hd : x0 = 1 ∨ x0 = -1) (ha : Ints w B f ps) (hnil : fn.NilOk f) (hB : B ≤ w.heap.size) (hn : ps.length ≤ 1048576) (hT : stb.Tab w) :
    Calls Tryd.prog 68 #[.agg #[.int .i64 x0, .int .i64 x1, f]] w fun e w' => ∃ f', e = .returned (.agg #[.int .i64 (-x0), .int .i64 x1, f']) ∧ sl.Own w' w.heap.size w'.heap.size f' (mir ps) ∧ Below w.heap.size w w' := by
  have hneg : IntKind.i64.wrap (-x0) = -x0 := IntWalk.i64_in _ (by omega)
  have HB0 : Hid (Below w.heap.size w ((w.alloc (.cells #[.int .i64 x0, .int .i64 x1, f] 81)).alloc (.cells #[.int .i64 0, .int .i64 0, .slice none 0 0] 81))) := hid (((Below.refl _ w).alloc (Nat.le_refl _) _).alloc (by simp) _)
  have HBk := hid (implBackI ps f B _ (ha.chg (Chg.ofBelow (lo := 0) HB0.out) (.inr (Nat.zero_le _))) hnil hn)
  have HM := hid (fun k W (b : Below w.heap.size w W) => implMirror k W (stb.carry hT b))
  have HE : Hid (mir ps = ps.reverse.map mi) := hid rfl
  have HLen : Hid (ps.reverse.length = ps.length) := hid (by simp)
  obtain ⟨ao, cap, hv⟩ := ints_val ha
  generalize mir ps = U at *
  generalize ps.reverse = qs at *
  clear ha hT hnil
  obtain ⟨n, hnn⟩ : ∃ n, n = ps.length := ⟨_, rfl⟩
  rw [← hnn] at hv hn HLen
  clear hnn
  subst hv
  have hz0 : ((w.alloc (.cells #[.int .i64 x0, .int .i64 x1, .slice ao n cap] 81)).alloc (.cells #[.int .i64 0, .int .i64 0, .slice none 0 0] 81)).heap.size = w.heap.size + 2 := by simp
  go_enter Tryd.func68, Tryd.ntmps68
  go_wp2_with fail
  refine HBk.out.mono ?_
  rintro e w1 ⟨v1, rfl, o1, b1⟩
  rw [hz0] at b1
  have HB1 := hid (HB0.out.trans (b1.mono (by omega)))
  have c0 : w1.cell? ⟨w.heap.size, 0, none⟩ = some (.int .i64 x0) := (b1.cell (p := ⟨w.heap.size, 0, none⟩) (by simp)).trans (by go_simp)
  have c1 : w1.cell? ⟨w.heap.size, 1, none⟩ = some (.int .i64 x1) := (b1.cell (p := ⟨w.heap.size, 1, none⟩) (by simp)).trans (by go_simp)
  have d0 : w1.cell? ⟨w.heap.size + 1, 0, none⟩ = some (.int .i64 0) := (b1.cell (p := ⟨w.heap.size + 1, 0, none⟩) (by simp)).trans (by go_simp)
  have d1 : w1.cell? ⟨w.heap.size + 1, 1, none⟩ = some (.int .i64 0) := (b1.cell (p := ⟨w.heap.size + 1, 1, none⟩) (by simp)).trans (by go_simp)
  have d2 : w1.cell? ⟨w.heap.size + 1, 2, none⟩ = some (.slice none 0 0) := (b1.cell (p := ⟨w.heap.size + 1, 2, none⟩) (by simp)).trans (by go_simp)
  obtain ⟨ao1, cap1, hv1⟩ := own_val o1
  rw [HLen.out] at hv1
  have O1 := hid o1
  have hz1 : w.heap.size + 2 ≤ w1.heap.size := by have := b1.size; simp at this; omega
  have e0 : w1.frozen? ⟨w.heap.size + 1, 0, none⟩ = false := (b1.frozen (p := ⟨w.heap.size + 1, 0, none⟩) (by simp)).trans (by go_simp)
  have e1 : w1.frozen? ⟨w.heap.size + 1, 1, none⟩ = false := (b1.frozen (p := ⟨w.heap.size + 1, 1, none⟩) (by simp)).trans (by go_simp)
  have e2 : w1.frozen? ⟨w.heap.size + 1, 2, none⟩ = false := (b1.frozen (p := ⟨w.heap.size + 1, 2, none⟩) (by simp)).trans (by go_simp)
  clear b1 o1
  subst hv1
  go_wp2
  go_loopw [11] (fun i wr => ∃ k : Nat, k ≤ n ∧ i = .int .i64 k ∧ sl.Own wr (w.heap.size + 2) wr.heap.size (.slice ao1 n cap1) (mirTo qs k) ∧ Below (w.heap.size + 2) w1 wr) (fun i _ => n - (intOf i).toNat)
  case atStart => exact ⟨0, Nat.zero_le _, rfl, by rw [mirTo_zero]; exact O1.out.lo (by omega), Below.refl _ _⟩
  case round =>
    obtain ⟨k, hk, rfl, ho, hb⟩ := hrel
    have HO := hid ho
    have HBr := hid hb
    have hzr := hb.size
    clear hb
    by_cases hlt : k < n
    · have hkq : k < qs.length := by rw [HLen.out]; exact hlt
      have hml := mirTo_len qs k (by omega)
      rw [HLen.out] at hml
      obtain ⟨g, rfl⟩ : ∃ g, ao1 = some ⟨g, 0, none⟩ := by
        rcases ho.1.2 with ⟨hv, _⟩ | ⟨g, c9, cur, hv, _⟩
        · simp at hv; omega
        · simp only [Value.slice.injEq] at hv; exact ⟨g, hv.1⟩
      obtain ⟨hcell, hfr⟩ := ho.at' k (by omega)
      rw [mirTo_at qs k hkq] at hcell
      have HSet := hid (mirTo_set qs k hkq)
      have hgl := ho.1.lt g rfl
      have HMk := hid (HM.out (qs.getD k 0) wr (HB1.out.trans (HBr.out.mono (by omega))))
      generalize qs.getD k 0 = x at *
      generalize mi x = y at *
      clear ho hml hkq
      go_wp2_with fail
      refine HMk.out.mono ?_
      rintro e w2 ⟨rfl, b2⟩
      have HO2 := hid ((HO.out.chg (Chg.ofBelow (lo := 0) b2) (.inr (.inr (Nat.zero_le _)))).hi b2.size (Nat.le_refl _))
      have HB2 := hid (HBr.out.trans (b2.mono (by omega)))
      have hc2 := (b2.cell (p := ⟨g, k, none⟩) hgl.2).trans hcell
      have hf2 := (b2.frozen (p := ⟨g, k, none⟩) hgl.2).trans hfr
      clear b2 hcell hfr
      go_wp2
      go_roundw
      case rel => exact ⟨k + 1, by omega, by go_num, by rw [← HSet.out]; simpa using (HO2.out.set k y).1, HB2.out.setCell (p := ⟨g, k, none⟩) hgl.1 _⟩
      case measure => simp [intOf]; omega
    · obtain rfl : k = n := by omega
      have HUe : Hid (mirTo qs k = U) := hid (by rw [HE.out, ← HLen.out, mirTo_all])
      have c0' := (HBr.out.cell (p := ⟨w.heap.size, 0, none⟩) (by simp)).trans c0
      have c1' := (HBr.out.cell (p := ⟨w.heap.size, 1, none⟩) (by simp)).trans c1
      have d0' := (HBr.out.cell (p := ⟨w.heap.size + 1, 0, none⟩) (by simp)).trans d0
      have d1' := (HBr.out.cell (p := ⟨w.heap.size + 1, 1, none⟩) (by simp)).trans d1
      have d2' := (HBr.out.cell (p := ⟨w.heap.size + 1, 2, none⟩) (by simp)).trans d2
      have e0' := (HBr.out.frozen (p := ⟨w.heap.size + 1, 0, none⟩) (by simp)).trans e0
      have e1' := (HBr.out.frozen (p := ⟨w.heap.size + 1, 1, none⟩) (by simp)).trans e1
      have e2' := (HBr.out.frozen (p := ⟨w.heap.size + 1, 2, none⟩) (by simp)).trans e2
      clear c0 c1 d0 d1 d2 e0 e1 e2 ho
      go_wp2
      refine bodyPost_ret (v := .agg #[.int .i64 (-x0), .int .i64 x1, .slice ao1 k cap1]) (by simp [results, Tryd.results68, go_sem, d0', d1', d2']) rfl ⟨.slice ao1 k cap1, rfl, ?_, ?_⟩
      · have h0 := HO.out
        rw [HUe.out] at h0
        have h2 := own_other (own_other (own_other h0 (w.heap.size + 1) 0 (.int .i64 (-x0)) (by omega)) (w.heap.size + 1) 1 (.int .i64 x1) (by omega)) (w.heap.size + 1) 2 (.slice ao1 k cap1) (by omega)
        have h3 := h2.lo (lo' := w.heap.size) (by omega)
        simpa using h3
      · exact (((HB1.out.trans (HBr.out.mono (by omega))).setCell (by simp) _).setCell (by simp) _).setCell (by simp) _

/-- Rows whose lists are nil or have an address. -/
def InfsN (w : World) (B : Nat) (v : Value) (xs : List V) : Prop :=
  (xs = [] ∧ ∃ ao cap, v = .slice ao 0 cap) ∨
  (0 < xs.length ∧ ∃ (b off cap : Nat) (F : Nat → Value), v = .slice (some ⟨b, off, none⟩) xs.length cap ∧ b < B ∧ ∀ j, j < xs.length → At w b (off + j * 3) (xs.getD j iz) (F j) ∧ Ints w B (F j) (xs.getD j iz).ps ∧ fn.NilOk (F j))
theorem InfsN.infs {w : World} {B : Nat} {v : Value} {xs : List V} (h : InfsN w B v xs) : Infs w B v xs := by
  rcases h with h | ⟨hp, b, off, cap, F, hv, hb, hc⟩
  · exact .inl h
  · exact .inr ⟨hp, b, off, cap, F, hv, hb, fun j hj => ⟨(hc j hj).1, (hc j hj).2.1⟩⟩
theorem iownN {w : World} {lo hi : Nat} {v : Value} {xs : List V} (h : IOwn w lo hi v xs) : InfsN w hi v xs := by
  rcases h.2 with h | ⟨hp, g, cap, F, L, H, hv, h1, h2, h3, h4⟩
  · exact .inl h
  · exact .inr ⟨hp, g, 0, cap, F, hv, h2, fun j hj => ⟨(h4 j hj).1, (h4 j hj).2.1.ints.mono (h4 j hj).2.2.2.1, fn.nilok_own (h4 j hj).2.1⟩⟩
def mcC (c : Int) (xs : List V) : Int := if chB c xs then c else 0
def mcR (c : Int) (xs : List V) : List V := if chB c xs then xs.map mirV else []
theorem ch_dir {c : Int} {xs : List V} (h : chB c xs = true) (j : Nat) (hj : j < xs.length) : (xs.getD j iz).a0 = 1 ∨ (xs.getD j iz).a0 = -1 := by
  simp only [chB, Bool.and_eq_true] at h
  have h2 := h.2.2
  rw [okTo, List.all_eq_true] at h2
  have h3 := h2 j (by simpa using hj)
  simp only [rowOk, Bool.and_eq_true] at h3
  exact dir_of h3.1
theorem ch_len {c : Int} {xs : List V} (h : chB c xs = true) : 1 ≤ xs.length ∧ xs.length ≤ 8 := by
  simp only [chB, Bool.and_eq_true, decide_eq_true_eq] at h
  exact h.2.1
theorem mcR_small (c : Int) (xs : List V) (hq : Small xs) : Small (mcR c xs) := by
  unfold mcR
  split
  · refine ⟨by rw [List.length_map]; exact hq.len, fun j hj => ?_⟩
    rw [mirV_at]
    by_cases h : j < xs.length
    · show (mir _).length ≤ _
      rw [mir_len]; exact hq.short j h
    · rw [List.length_map] at hj; omega
  · exact ⟨by simp, fun j hj => by simp at hj⟩
theorem map_take_succ (xs : List V) (k : Nat) (h : k < xs.length) : (xs.take (k + 1)).map mirV = (xs.take k).map mirV ++ [mirV (xs.getD k iz)] := by
  rw [List.take_succ_eq_append_getElem h, List.map_append]
  simp [List.getD, List.getElem?_eq_getElem h]

theorem infoRow : (Tryd.prog.info? 81).map (fun i => (i.zero, i.size, i.bytes)) = some (some (.agg #[.int .i64 0, .int .i64 0, .slice none 0 0]), 3, 40) := by kernel_rfl
set_option maxHeartbeats 4000000 in
theorem implMC (c : Int) (xs : List V) (f : Value) (B : Nat) (w : World) (ha : InfsN w B f xs) (hB : B ≤ w.heap.size) (hq : Small xs) (hT : stb.Tab w) :
    Calls Tryd.prog 31 #[.agg #[.int .i64 c, f]] w fun e w' => ∃ ao cap, e = .returned (.tuple #[.agg #[.int .i64 (mcC c xs), .slice ao (mcR c xs).length cap], .int .i64 (kn.chC c xs)]) ∧ IOwn w' w.heap.size w'.heap.size (.slice ao (mcR c xs).length cap) (mcR c xs) ∧ Below w.heap.size w w' := by
  have HB0 : Hid (Below w.heap.size w ((w.alloc (.cells #[.int .i64 c, f] 47)).alloc (.cells #[.int .i64 0, .slice none 0 0] 47))) := hid (((Below.refl _ w).alloc (Nat.le_refl _) _).alloc (by simp) _)
  have HV := hid (kn.implVC c xs f B _ (ha.infs.below HB0.out) (Nat.le_trans hB HB0.out.size) hq (stb.carry hT HB0.out))
  have HM := hid (fun (x : V) (u : Value) W (b : Below w.heap.size w W) hd hi hn hl => implMir x.a0 x.a1 x.ps u B W hd hi hn (Nat.le_trans hB b.size) hl (stb.carry hT b))
  have HC : Hid (mcC c xs = if chB c xs then c else 0) := hid rfl
  have HR : Hid (mcR c xs = if chB c xs then xs.map mirV else []) := hid rfl
  have HK : Hid (kn.chC c xs = if chB c xs then 0 else 1) := hid rfl
  have HDir := hid (fun h => @ch_dir c xs h)
  have HCl := hid (fun h => @ch_len c xs h)
  have HSm := hid hq
  have HA := hid ha
  obtain ⟨ao, cap, hv⟩ := infs_val ha.infs
  clear ha hq hT
  generalize mcC c xs = C at *
  generalize mcR c xs = R at *
  generalize kn.chC c xs = K at *
  obtain ⟨q, hq⟩ : ∃ q, q = chB c xs := ⟨_, rfl⟩
  rw [← hq] at HV HC HR HK HDir HCl
  clear hq
  have hz0 : ((w.alloc (.cells #[.int .i64 c, f] 47)).alloc (.cells #[.int .i64 0, .slice none 0 0] 47)).heap.size = w.heap.size + 2 := by simp
  have HX := hid (fun (w1 : World) (b1 : Below (w.heap.size + 2) ((w.alloc (.cells #[.int .i64 c, f] 47)).alloc (.cells #[.int .i64 0, .slice none 0 0] 47)) w1) => (show w1.cell? ⟨w.heap.size, 0, none⟩ = some (.int .i64 c) ∧ w1.cell? ⟨w.heap.size, 1, none⟩ = some f ∧ w1.cell? ⟨w.heap.size + 1, 0, none⟩ = some (.int .i64 0) ∧ w1.cell? ⟨w.heap.size + 1, 1, none⟩ = some (.slice none 0 0) ∧ w1.frozen? ⟨w.heap.size + 1, 0, none⟩ = false ∧ w1.frozen? ⟨w.heap.size + 1, 1, none⟩ = false from
    ⟨(b1.cell (p := ⟨w.heap.size, 0, none⟩) (by simp)).trans (by go_simp), (b1.cell (p := ⟨w.heap.size, 1, none⟩) (by simp)).trans (by go_simp), (b1.cell (p := ⟨w.heap.size + 1, 0, none⟩) (by simp)).trans (by go_simp), (b1.cell (p := ⟨w.heap.size + 1, 1, none⟩) (by simp)).trans (by go_simp), (b1.frozen (p := ⟨w.heap.size + 1, 0, none⟩) (by simp)).trans (by go_simp), (b1.frozen (p := ⟨w.heap.size + 1, 1, none⟩) (by simp)).trans (by go_simp)⟩))
  cases q with
  | false =>
    clear HM HDir HCl HA HSm
    generalize xs.length = n at *
    subst hv
    go_enter Tryd.func31, Tryd.ntmps31
    go_wp2_with fail
    refine HV.out.mono ?_
    rintro e w1 ⟨rfl, b1⟩
    rw [hz0] at b1
    obtain ⟨c0, c1, d0, d1, e0, e1⟩ := HX.out w1 b1
    have HB1 := hid (HB0.out.trans (b1.mono (by omega)))
    clear b1
    go_wp2
    refine bodyPost_ret (v := .tuple #[.agg #[.int .i64 0, .slice none 0 0], .int .i64 1]) (by simp [results, Tryd.results31, go_sem, d0, d1]) rfl ⟨none, 0, ?_, ?_, ?_⟩
    · rw [HC.out, HR.out, HK.out]; rfl
    · rw [HR.out]; exact ⟨Nat.le_refl _, .inl ⟨rfl, _, _, rfl⟩⟩
    · exact (HB1.out.setCell (by simp) _).setCell (by simp) _
  | true =>
    obtain ⟨hl1, hl8⟩ := HCl.out (by trivial)
    have HDr := hid (HDir.out (by trivial))
    have HC2 : Hid (C = c) := hid (by rw [HC.out]; rfl)
    have HK2 : Hid (K = 0) := hid (by rw [HK.out]; rfl)
    have HR2 : Hid (R = xs.map mirV) := hid (by rw [HR.out]; rfl)
    clear HC HR HK HDir HCl
    rcases HA.out with ⟨h0, _⟩ | ⟨hp, b, off, cap', F, hv', hb, hc⟩
    · rw [h0] at hl1; simp at hl1
    have HCc := hid hc
    have HTk := hid (map_take_succ xs)
    obtain ⟨n, hnn⟩ : ∃ n, n = xs.length := ⟨_, rfl⟩
    have HN := hid hnn
    rw [← hnn] at hv' hl1 hl8 HCc HTk
    have hsh := hid (fun j (h : j < n) => HSm.out.short j (by rw [← HN.out]; exact h))
    rw [← hnn] at HDr
    clear hnn hv hc HA HSm hp
    subst hv'
    obtain ⟨i0, hi, hy0, hy1, hy2⟩ := info_parts infoRow
    go_enter Tryd.func31, Tryd.ntmps31
    go_wp2_with fail
    refine HV.out.mono ?_
    rintro e w1 ⟨rfl, b1⟩
    rw [hz0] at b1
    obtain ⟨c0, c1, d0, d1, e0, e1⟩ := HX.out w1 b1
    have HB1 := hid (HB0.out.trans (b1.mono (by omega)))
    have hz1 : w.heap.size + 2 ≤ w1.heap.size := by have := b1.size; rw [hz0] at this; exact this
    have HBx := hid b1
    clear b1 HV d0 d1 e0 e1
    go_wp2_with (at_make; refine wpList_make_own _ rfl _ _ 45 rfl w1.heap.size 81 i0 (.agg #[.int .i64 0, .int .i64 0, .slice none 0 0]) 3 Tryd.underlying45 hi hy0 hy1 .i64 .i64 _ n rfl rfl (by omega) (by rw [hy2]; omega) (by unfold maxLen; omega) (Nat.le_refl _) ?_; intro W3 hown3 hgrow3; have HS3 : Hid (RW W3 w1.heap.size (.slice (some ⟨w1.heap.size, 0, none⟩) 0 n) []) := hid (RW.start hown3); have HB3 : Hid (Below w1.heap.size w1 W3) := hid ⟨hgrow3.os, hgrow3.tape, hgrow3.output, hgrow3.size, fun q hq => hgrow3.block q hq (by simp)⟩; have c1' := (HB3.out.cell (p := ⟨w.heap.size, 1, none⟩) (by show w.heap.size < w1.heap.size; omega)).trans c1; clear hown3 hgrow3)
    clear c1'
    go_loopw [4, 18] (fun z i wr => ∃ (k : Nat) (zz : Value) (L : List Rw), k ≤ n ∧ i = .int .i64 k ∧ z = zz ∧ RW wr w1.heap.size zz L ∧ L.map Rw.r = (xs.take k).map mirV ∧ Below w1.heap.size w1 wr) (fun _ i _ => n - (intOf i).toNat)
    case atStart => exact ⟨0, _, [], Nat.zero_le _, rfl, rfl, HS3.out, rfl, HB3.out⟩
    case round =>
      obtain ⟨k, z, L, hk, rfl, rfl, hrw, hmap, hbr⟩ := hrel
      have HRw := hid hrw
      have HMap := hid hmap
      have HBr := hid hbr
      have hzr := hbr.size
      clear hrw hmap hbr HS3 HB3
      have HBw : Hid (Below w.heap.size w wr) := hid (HB1.out.trans (HBr.out.mono (by omega)))
      by_cases hlt : k < n
      · obtain ⟨hA, hI, hNl⟩ := HCc.out k hlt
        have hA2 := hA.blk HBw.out.size (HBw.out.block b hA.lt)
        have c0 := hA2.c0
        have c1 := hA2.c1
        have c2 := hA2.c2
        have hsk := hsh.out k hlt
        have hIw := hI.chg (Chg.ofBelow (lo := 0) HBw.out) (.inr (Nat.zero_le _))
        have hal := (Below.refl wr.heap.size wr).alloc (Nat.le_refl _) (.cells #[.int .i64 (xs.getD k iz).a0, .int .i64 (xs.getD k iz).a1, F k] 81)
        have HAl := hid hal
        have HMk := hid (HM.out (xs.getD k iz) (F k) _ (HBw.out.trans (hal.mono HBw.out.size)) (HDr.out k hlt) (hIw.chg (Chg.ofBelow (lo := 0) hal) (.inr (Nat.zero_le _))) hNl hsk)
        have HT2 := hid (HTk.out k hlt)
        have hLl : L.length ≤ 1048576 := by have := congrArg List.length HMap.out; simp at this; omega
        obtain ⟨a9, c9, hv9⟩ := ints_val hI
        generalize xs.getD k iz = x at *
        generalize F k = u at *
        clear hA hA2 hI hIw hNl hal hsk
        generalize x.ps.length = m9 at *
        subst hv9
        go_wp2_with fail
        refine HMk.out.mono ?_
        rintro e w2 ⟨f2, rfl, o2, b2⟩
        have B2 := hid (HAl.out.trans (b2.mono HAl.out.size))
        have O2 := hid (o2.lo (lo' := wr.heap.size) HAl.out.size)
        obtain ⟨ao2, cap2, hv2⟩ := own_val o2
        clear b2 o2
        generalize (mir x.ps).length = m2 at *
        subst hv2
        go_wp2_with (at_builtin; refine wp_appW rfl _ _ rfl w1.heap.size _ L ⟨mirV x, .slice ao2 m2 cap2⟩ HRw.out B2.out O2.out rfl rfl rfl hzr hLl ?_; intro v9 w9 hrw9 hb9; have HR9 := hid hrw9; have HB9 := hid ((HBr.out.trans (B2.out.mono hzr)).trans hb9); clear hrw9 hb9)
        go_roundw
        case rel => exact ⟨k + 1, _, _, by omega, by go_num, rfl, HR9.out, by rw [List.map_append, HMap.out, HT2.out]; rfl, HB9.out⟩
        case measure => simp [intOf]; omega
      · obtain rfl : k = n := by omega
        have HEq : Hid (L.map Rw.r = R) := hid (by rw [HMap.out, HN.out, List.take_length, HR2.out])
        obtain ⟨a9, c9, hv9⟩ := HRw.out.val
        have hLl : L.length = R.length := by rw [← HEq.out, List.length_map]
        rw [hLl] at hv9
        have HOw := hid (HRw.out.iown)
        rw [HEq.out] at HOw
        obtain ⟨c0', c1', d0, d1, e0, e1⟩ := HX.out wr (HBx.out.trans (HBr.out.mono hz1))
        obtain ⟨r9, hr9⟩ : ∃ r, r = R.length := ⟨_, rfl⟩
        rw [← hr9] at hv9
        have HR9 := hid hr9
        clear hr9 hLl HX
        subst hv9
        go_wp2
        refine bodyPost_ret (v := .tuple #[.agg #[.int .i64 c, .slice a9 r9 c9], .int .i64 0]) (by simp [results, Tryd.results31, go_sem, d0, d1]) rfl ⟨a9, c9, by rw [HC2.out, HK2.out, HR9.out], ?_, ?_⟩
        · rw [← HR9.out]
          have h2 := ct.iown_other (ct.iown_other HOw.out (w.heap.size + 1) 0 (.int .i64 c) (by omega)) (w.heap.size + 1) 1 (.slice a9 r9 c9) (by omega)
          have h3 := h2.lo (lo' := w.heap.size) (by omega)
          simpa using h3
        · exact (HBw.out.setCell (by simp) _).setCell (by simp) _
end Go.Proofs.YtalioekeinohkaaDoor.cm

/- MirrorChart of the model. -/
namespace Go.Proofs.YtalioekeinohkaaDoor.cm
open Go.RowKit Go.Sort Go.Proofs.YtalioekeinohkaaDoor.sl Go.Proofs.YtalioekeinohkaaDoor.br Go.Proofs.YtalioekeinohkaaDoor.bw Go.Proofs.YtalioekeinohkaaDoor.st Go.Proofs.YtalioekeinohkaaDoor.cx Go.Proofs.YtalioekeinohkaaDoor.ro
set_option linter.unusedVariables false
set_option linter.unusedSimpArgs false
set_option maxRecDepth 100000

theorem rw_other {W : World} {lo : Nat} {v : Value} {L : List Rw} (h : RW W lo v L) (b o : Nat) (u : Value) (hb : b < lo) : RW (W.setCell ⟨b, o, none⟩ u) lo v L := by
  obtain ⟨Lo, Hi, he⟩ := h.els
  have ch := chg_set W b o u
  have hg : W.grownBy (W.setCell ⟨b, o, none⟩ u) (some b) := ⟨ch.os, ch.tape, ch.output, ch.size, fun k hk hne => ch.block k hk (fun hh => hne (by congr 1; omega))⟩
  refine ⟨World.ownsRow.kept h.row hg ?_, Lo, Hi, fun j hj => ?_⟩
  · cases hv : v.ownBlock with
    | none => exact .inl rfl
    | some g =>
      right
      intro e
      simp only [Option.some.injEq] at e
      have := (h.row.lt g hv).1
      omega
  · obtain ⟨h1, h2, h3, h4⟩ := he j hj
    exact ⟨own_other h1 b o u (by omega), h2, h3, h4⟩
theorem mir_take (ps : List Int) (q : Nat) (h : q < ps.length) : (mir ps).take (q + 1) = (mir ps).take q ++ [mi (ps.getD (ps.length - 1 - q) 0)] := by
  have hl : q < (mir ps).length := by rw [mir_len]; exact h
  rw [List.take_succ_eq_append_getElem hl, ← mir_at ps q h]
  simp [List.getD, List.getElem?_eq_getElem hl]

set_option maxHeartbeats 8000000 in
theorem specMC (c : Int) (xs : List V) (f : Value) (B : Nat) (w : World) (ha : InfsN w B f xs) (hB : B ≤ w.heap.size) (hq : Small xs) :
    Calls Tryd.prog 29 #[.agg #[.int .i64 c, f]] w fun e w' => ∃ ao cap, e = .returned (.tuple #[.agg #[.int .i64 (mcC c xs), .slice ao (mcR c xs).length cap], .int .i64 (kn.chC c xs)]) ∧ IOwn w' w.heap.size w'.heap.size (.slice ao (mcR c xs).length cap) (mcR c xs) ∧ Below w.heap.size w w' := by
  have HB0 : Hid (Below w.heap.size w ((w.alloc (.cells #[.int .i64 c, f] 47)).alloc (.cells #[.int .i64 0, .slice none 0 0] 47))) := hid (((Below.refl _ w).alloc (Nat.le_refl _) _).alloc (by simp) _)
  have HV := hid (kn.specOk15 c xs f B w.heap.size ((w.alloc (.cells #[.int .i64 c, f] 47)).alloc (.cells #[.int .i64 0, .slice none 0 0] 47)) (by simp; omega) (by go_simp) (by go_simp) (ha.infs.below HB0.out) (Nat.le_trans hB HB0.out.size) hq)
  have HC : Hid (mcC c xs = if chB c xs then c else 0) := hid rfl
  have HR : Hid (mcR c xs = if chB c xs then xs.map mirV else []) := hid rfl
  have HK : Hid (kn.chC c xs = if chB c xs then 0 else 1) := hid rfl
  have HDir := hid (fun h => @ch_dir c xs h)
  have HCl := hid (fun h => @ch_len c xs h)
  have HSm := hid hq
  have HA := hid ha
  obtain ⟨ao, cap, hv⟩ := infs_val ha.infs
  clear ha hq
  generalize mcC c xs = C at *
  generalize mcR c xs = R at *
  generalize kn.chC c xs = K at *
  obtain ⟨q, hq⟩ : ∃ q, q = chB c xs := ⟨_, rfl⟩
  rw [← hq] at HV HC HR HK HDir HCl
  clear hq
  have hz0 : ((w.alloc (.cells #[.int .i64 c, f] 47)).alloc (.cells #[.int .i64 0, .slice none 0 0] 47)).heap.size = w.heap.size + 2 := by simp
  have HX := hid (fun (w1 : World) (b1 : Below (w.heap.size + 2) ((w.alloc (.cells #[.int .i64 c, f] 47)).alloc (.cells #[.int .i64 0, .slice none 0 0] 47)) w1) => (show w1.cell? ⟨w.heap.size, 0, none⟩ = some (.int .i64 c) ∧ w1.cell? ⟨w.heap.size, 1, none⟩ = some f ∧ w1.cell? ⟨w.heap.size + 1, 0, none⟩ = some (.int .i64 0) ∧ w1.cell? ⟨w.heap.size + 1, 1, none⟩ = some (.slice none 0 0) ∧ w1.frozen? ⟨w.heap.size + 1, 0, none⟩ = false ∧ w1.frozen? ⟨w.heap.size + 1, 1, none⟩ = false from
    ⟨(b1.cell (p := ⟨w.heap.size, 0, none⟩) (by simp)).trans (by go_simp), (b1.cell (p := ⟨w.heap.size, 1, none⟩) (by simp)).trans (by go_simp), (b1.cell (p := ⟨w.heap.size + 1, 0, none⟩) (by simp)).trans (by go_simp), (b1.cell (p := ⟨w.heap.size + 1, 1, none⟩) (by simp)).trans (by go_simp), (b1.frozen (p := ⟨w.heap.size + 1, 0, none⟩) (by simp)).trans (by go_simp), (b1.frozen (p := ⟨w.heap.size + 1, 1, none⟩) (by simp)).trans (by go_simp)⟩))
  cases q with
  | false =>
    clear HDir HCl HA HSm
    generalize xs.length = n at *
    subst hv
    go_enter Tryd.func29, Tryd.ntmps29
    go_wp2_with fail
    refine HV.out.mono ?_
    rintro e w1 ⟨rfl, b1⟩
    rw [hz0] at b1
    obtain ⟨c0, c1, d0, d1, e0, e1⟩ := HX.out w1 b1
    have HB1 := hid (HB0.out.trans (b1.mono (by omega)))
    clear b1
    go_wp2
    refine bodyPost_ret (v := .tuple #[.agg #[.int .i64 0, .slice none 0 0], .int .i64 1]) (by simp [results, Tryd.results29, go_sem, d0, d1]) rfl ⟨none, 0, ?_, ?_, ?_⟩
    · rw [HC.out, HR.out, HK.out]; rfl
    · rw [HR.out]; exact ⟨Nat.le_refl _, .inl ⟨rfl, _, _, rfl⟩⟩
    · exact (HB1.out.setCell (by simp) _).setCell (by simp) _
  | true =>
    obtain ⟨hl1, hl8⟩ := HCl.out (by trivial)
    have HDr := hid (HDir.out (by trivial))
    have HC2 : Hid (C = c) := hid (by rw [HC.out]; rfl)
    have HK2 : Hid (K = 0) := hid (by rw [HK.out]; rfl)
    have HR2 : Hid (R = xs.map mirV) := hid (by rw [HR.out]; rfl)
    clear HC HR HK HDir HCl
    rcases HA.out with ⟨h0, _⟩ | ⟨hp, b, off, cap', F, hv', hb, hc⟩
    · rw [h0] at hl1; simp at hl1
    have HCc := hid hc
    have HTk := hid (map_take_succ xs)
    obtain ⟨n, hnn⟩ : ∃ n, n = xs.length := ⟨_, rfl⟩
    have HN := hid hnn
    rw [← hnn] at hv' hl1 hl8 HCc HTk
    have hsh := hid (fun j (h : j < n) => HSm.out.short j (by rw [← HN.out]; exact h))
    rw [← hnn] at HDr
    clear hnn hv hc HA HSm hp
    subst hv'
    go_enter Tryd.func29, Tryd.ntmps29
    go_wp2_with fail
    refine HV.out.mono ?_
    rintro e w1 ⟨rfl, b1⟩
    rw [hz0] at b1
    obtain ⟨c0, c1, d0, d1, e0, e1⟩ := HX.out w1 b1
    have HB1 := hid (HB0.out.trans (b1.mono (by omega)))
    have hz1 : w.heap.size + 2 ≤ w1.heap.size := by have := b1.size; rw [hz0] at this; exact this
    have HBx := hid b1
    clear b1 HV d0 d1 e0 e1
    have HBo : Hid (Below w1.heap.size w1 (w1.alloc (.cells #[.int .i64 c, .slice none 0 0] 47))) := hid ((Below.refl _ _).alloc (Nat.le_refl _) _)
    have ho0 : (w1.alloc (.cells #[.int .i64 c, .slice none 0 0] 47)).cell? ⟨w1.heap.size, 0, none⟩ = some (.int .i64 c) := by go_simp
    have ho1 : (w1.alloc (.cells #[.int .i64 c, .slice none 0 0] 47)).cell? ⟨w1.heap.size, 1, none⟩ = some (.slice none 0 0) := by go_simp
    have ho2 : (w1.alloc (.cells #[.int .i64 c, .slice none 0 0] 47)).frozen? ⟨w1.heap.size, 1, none⟩ = false := by go_simp
    have HO0 := hid ho0
    have HO1 := hid ho1
    have HO2 := hid ho2
    clear ho0 ho1 ho2
    go_wp2
    go_loopw [5] (fun i wr => ∃ (k : Nat) (z : Value) (L : List Rw), k ≤ n ∧ i = .int .i64 k ∧ wr.cell? ⟨w1.heap.size, 0, none⟩ = some (.int .i64 c) ∧ wr.cell? ⟨w1.heap.size, 1, none⟩ = some z ∧ wr.frozen? ⟨w1.heap.size, 1, none⟩ = false ∧ RW wr (w1.heap.size + 1) z L ∧ L.map Rw.r = (xs.take k).map mirV ∧ Below w1.heap.size w1 wr ∧ w1.heap.size + 1 ≤ wr.heap.size) (fun i _ => n - (intOf i).toNat)
    case atStart => exact ⟨0, _, [], Nat.zero_le _, rfl, HO0.out, HO1.out, HO2.out, RW.nil _ _, rfl, HBo.out, by simp⟩
    case round =>
      obtain ⟨k, z, L, hk, rfl, y0, y1, y2, hrw, hmap, hbr, hzr⟩ := hrel
      have HRw := hid hrw
      have HMap := hid hmap
      have HBr := hid hbr
      have HY0 := hid y0
      have HY1 := hid y1
      have HY2 := hid y2
      clear hrw hmap hbr HO0 HO1 HO2 HBo
      have HBw : Hid (Below w.heap.size w wr) := hid (HB1.out.trans (HBr.out.mono (by omega)))
      have hx1 := (HBr.out.cell (p := ⟨w.heap.size, 1, none⟩) (by show w.heap.size < w1.heap.size; omega)).trans c1
      by_cases hlt : k < n
      · obtain ⟨hA, hI, hNl⟩ := HCc.out k hlt
        have hA2 := hA.blk HBw.out.size (HBw.out.block b hA.lt)
        have r0 := hA2.c0
        have r1 := hA2.c1
        have r2 := hA2.c2
        have hsk := hsh.out k hlt
        have hdk := HDr.out k hlt
        have hIw := hI.chg (Chg.ofBelow (lo := 0) HBw.out) (.inr (Nat.zero_le _))
        have HT2 := hid (HTk.out k hlt)
        have hLl : L.length ≤ 1048576 := by have := congrArg List.length HMap.out; simp at this; omega
        obtain ⟨zo, zl, zc, hzv⟩ : ∃ ao ln cp, z = .slice ao ln cp := by obtain ⟨a, b, h⟩ := HRw.out.val; exact ⟨_, _, _, h⟩
        obtain ⟨a9, c9, hv9⟩ := ints_val hI
        have HIw := hid hIw
        generalize hxk : xs.getD k iz = x at *
        have hneg : IntKind.i64.wrap (-x.a0) = -x.a0 := IntWalk.i64_in _ (by omega)
        clear hxk
        generalize F k = u at *
        obtain ⟨m, hm⟩ : ∃ m, m = x.ps.length := ⟨_, rfl⟩
        have HM := hid hm
        rw [← hm] at hv9 hsk
        have hwm : IntKind.i64.wrap ((m : Int) - 1) = (m : Int) - 1 := IntWalk.i64_in _ (by omega)
        have HPt := hid (mir_take x.ps)
        clear hA hA2 hI hIw hNl hm hdk
        subst hzv hv9
        have hO := (Own.built (wr.alloc (.cells #[.int .i64 x.a0, .int .i64 x.a1, .slice a9 m c9] 81)) #[] rfl)
        have HOl : Hid (Own ((wr.alloc (.cells #[.int .i64 x.a0, .int .i64 x.a1, .slice a9 m c9] 81)).alloc (.cells #[] 2)) (wr.heap.size + 1) ((wr.alloc (.cells #[.int .i64 x.a0, .int .i64 x.a1, .slice a9 m c9] 81)).alloc (.cells #[] 2)).heap.size (.slice (some ⟨wr.heap.size + 1, 0, none⟩) 0 0) []) := hid (by simpa using hO)
        have HPx := hid (fun (X : World) (bX : Below (wr.heap.size + 1) ((wr.alloc (.cells #[.int .i64 x.a0, .int .i64 x.a1, .slice a9 m c9] 81)).alloc (.cells #[] 2)) X) => (show X.cell? ⟨wr.heap.size, 0, none⟩ = some (.int .i64 x.a0) ∧ X.cell? ⟨wr.heap.size, 1, none⟩ = some (.int .i64 x.a1) ∧ X.cell? ⟨wr.heap.size, 2, none⟩ = some (.slice a9 m c9) ∧ wr.heap.size + 2 ≤ X.heap.size ∧ Below wr.heap.size wr X from
          ⟨(bX.cell (p := ⟨wr.heap.size, 0, none⟩) (by simp)).trans (by go_simp), (bX.cell (p := ⟨wr.heap.size, 1, none⟩) (by simp)).trans (by go_simp), (bX.cell (p := ⟨wr.heap.size, 2, none⟩) (by simp)).trans (by go_simp), by have := bX.size; simpa using this, (((Below.refl _ wr).alloc (Nat.le_refl _) _).alloc (by simp) _).trans (bX.mono (by omega))⟩))
        clear hO
        go_wp2
        go_loopw [7, 8] (fun l kk wq => ∃ (q : Nat) (zz : Value) (j : Int), q ≤ m ∧ l = zz ∧ kk = .int .i64 j ∧ j = (m : Int) - 1 - (q : Int) ∧ sl.Own wq (wr.heap.size + 1) wq.heap.size zz ((mir x.ps).take q) ∧ Below (wr.heap.size + 1) ((wr.alloc (.cells #[.int .i64 x.a0, .int .i64 x.a1, .slice a9 m c9] 81)).alloc (.cells #[] 2)) wq) (fun _ kk _ => (intOf kk + 1).toNat)
        case atStart => exact ⟨0, _, _, Nat.zero_le _, rfl, rfl, by simp, HOl.out, Below.refl _ _⟩
        case round =>
          rename World => wq
          obtain ⟨q, zz, j, hqm, rfl, rfl, hj, hoq, hbq⟩ := hrel
          have HOq := hid hoq
          have HBq := hid hbq
          obtain ⟨p0, p1, p2, hzq, hbw⟩ := HPx.out wq hbq
          have HBwq := hid hbw
          clear hoq hbq hbw
          by_cases hqlt : q < m
          · obtain ⟨j', rfl⟩ := Int.eq_ofNat_of_zero_le (show 0 ≤ j by omega)
            have hjn : j' = m - 1 - q := by omega
            have hIq := HIw.out.chg (Chg.ofBelow (lo := 0) HBwq.out) (.inr (Nat.zero_le _))
            have HPt2 := hid (HPt.out q (by rw [← HM.out]; exact hqlt))
            rw [← HM.out, ← hjn] at HPt2
            rcases hIq with ⟨h0, _⟩ | ⟨_, g, o9, c8, hv8, hg, hcc⟩
            · have := HM.out; rw [h0] at this; simp at this; omega
            simp only [Value.slice.injEq] at hv8
            obtain ⟨rfl, hmm, rfl⟩ := hv8
            clear hmm
            have hcj := hcc j' (by rw [← HM.out]; omega)
            have HSm := hid (fun W => specMirror (x.ps.getD j' 0) W)
            have hlq : ((mir x.ps).take q).length ≤ 1048576 := by rw [List.length_take]; omega
            generalize x.ps.getD j' 0 = y at *
            generalize mi y = my at *
            have hj0 : (0 : Int) ≤ (j' : Int) := by omega
            have hjm : (j' : Int) < (m : Int) := by omega
            have hwj : IntKind.i64.wrap ((j' : Int) - 1) = (j' : Int) - 1 := IntWalk.i64_in _ (by omega)
            have Hj := hid hj
            clear hj hjn hcc
            go_wp2_with fail
            refine (HSm.out _).mono ?_
            rintro e w2 ⟨rfl, b2⟩
            have HO2 := hid ((HOq.out.chg (Chg.ofBelow (lo := 0) b2) (.inr (.inr (Nat.zero_le _)))).hi b2.size (Nat.le_refl _))
            have HB2 := hid (HBq.out.trans (b2.mono (by omega)))
            have hz2 : wr.heap.size + 1 ≤ w2.heap.size := by have := b2.size; omega
            clear b2
            go_wp2_with (at_builtin; refine wp_append rfl _ _ rfl (wr.heap.size + 1) w2.heap.size _ ((mir x.ps).take q) my HO2.out rfl rfl hz2 (by omega) ?_; intro v9 w9 hown1 hchg1 hsz1; have HO9 := hid hown1; have HB9 := hid (HB2.out.trans (hchg1.below (Nat.le_refl _) hz2)); clear hown1 hchg1)
            go_roundw
            case rel => exact ⟨q + 1, _, _, by omega, rfl, rfl, by have := Hj.out; omega, by rw [HPt2.out]; exact HO9.out, HB9.out⟩
            case measure => first | (simp [intOf]; done) | (simp [intOf]; omega)
          · obtain rfl : q = m := by omega
            have hjneg : ¬ (0 : Int) ≤ j := by omega
            have HOm := HOq.out
            rw [List.take_of_length_le (by rw [mir_len, ← HM.out]; omega)] at HOm
            have HOm2 := hid HOm
            obtain ⟨zo2, zc2, hzz⟩ := own_val HOm
            clear HOm
            have s1 := (HBwq.out.cell (p := ⟨w1.heap.size, 1, none⟩) (by show w1.heap.size < wr.heap.size; omega)).trans HY1.out
            have s2 := (HBwq.out.frozen (p := ⟨w1.heap.size, 1, none⟩) (by show w1.heap.size < wr.heap.size; omega)).trans HY2.out
            have hbz : Below wr.heap.size wr wq := HBwq.out
            have HO3 := hid (HOm2.out.lo (lo' := wr.heap.size) (by omega))
            clear HOl HPt HIw HOm2 HOq
            have hml : (mir x.ps).length = (mir x.ps).length := rfl
            clear hml
            generalize (mir x.ps).length = m2 at *
            subst hzz
            go_wp2_with (at_builtin; refine wp_appW rfl _ _ rfl (w1.heap.size + 1) _ L ⟨mirV x, .slice zo2 m2 zc2⟩ HRw.out HBwq.out HO3.out rfl rfl rfl hzr hLl ?_; intro v9 w9 hrw9 hb9; have HR9 := hid hrw9; have HB9 := hid hb9; have t0 := (hb9.cell (p := ⟨w1.heap.size, 0, none⟩) (by show w1.heap.size < w1.heap.size + 1; omega)).trans ((HBwq.out.cell (p := ⟨w1.heap.size, 0, none⟩) (by show w1.heap.size < wr.heap.size; omega)).trans HY0.out); have t1 := (hb9.cell (p := ⟨w1.heap.size, 1, none⟩) (by show w1.heap.size < w1.heap.size + 1; omega)).trans s1; have t2 := (hb9.frozen (p := ⟨w1.heap.size, 1, none⟩) (by show w1.heap.size < w1.heap.size + 1; omega)).trans s2; obtain ⟨a8, c8, hv8⟩ := hrw9.val; have hz9 := hb9.size; clear hrw9 hb9; generalize (L ++ [(⟨mirV x, .slice zo2 m2 zc2⟩ : Rw)]).length = l9 at hv8; subst hv8)
            go_roundw
            case rel =>
              refine ⟨k + 1, _, _, by omega, by go_num, ?_, ?_, ?_, rw_other HR9.out _ _ _ (Nat.lt_succ_self _), by rw [List.map_append, HMap.out, HT2.out]; rfl, ?_, ?_⟩
              · rw [ss.other_at (by omega)]; exact t0
              · exact ss.same_at t1
              · rw [World.frozen?_setCell]; exact t2
              · exact ((HBr.out.trans (HBwq.out.mono (by omega))).trans (HB9.out.mono (by omega))).setCell (Nat.le_refl _) _
              · simp; omega
            case measure => simp [intOf]; omega
      · obtain rfl : k = n := by omega
        have HEq : Hid (L.map Rw.r = R) := hid (by rw [HMap.out, HN.out, List.take_length, HR2.out])
        obtain ⟨a9, c9, hv9⟩ := HRw.out.val
        have hLl : L.length = R.length := by rw [← HEq.out, List.length_map]
        rw [hLl] at hv9
        have HOw := hid (HRw.out.iown)
        rw [HEq.out] at HOw
        obtain ⟨c0', c1', d0, d1, e0, e1⟩ := HX.out wr (HBx.out.trans (HBr.out.mono hz1))
        obtain ⟨r9, hr9⟩ : ∃ r, r = R.length := ⟨_, rfl⟩
        rw [← hr9] at hv9
        have HR9 := hid hr9
        clear hr9 hLl HX c0'
        subst hv9
        go_wp2
        refine bodyPost_ret (v := .tuple #[.agg #[.int .i64 c, .slice a9 r9 c9], .int .i64 0]) (by simp [results, Tryd.results29, go_sem, d0, d1]) rfl ⟨a9, c9, by rw [HC2.out, HK2.out, HR9.out], ?_, ?_⟩
        · rw [← HR9.out]
          have h2 := ct.iown_other (ct.iown_other HOw.out (w.heap.size + 1) 0 (.int .i64 c) (by omega)) (w.heap.size + 1) 1 (.slice a9 r9 c9) (by omega)
          have h3 := h2.lo (lo' := w.heap.size) (by omega)
          simpa using h3
        · exact (HBw.out.setCell (by simp) _).setCell (by simp) _

/-! ### For the law -/
theorem _root_.Go.Proofs.YtalioekeinohkaaDoor.ro.IOwn.infsN {w : World} {lo hi : Nat} {v : Value} {xs : List V} (h : IOwn w lo hi v xs) : cm.InfsN w hi v xs := iownN h
theorem lens_mir (xs : List V) : ss.lens (prs (xs.map mirV)) = ss.lens (prs xs) := by
  simp only [ss.lens, prs, List.map_map]
  apply List.map_congr_left
  intro x _
  show (mir x.ps).length = x.ps.length
  exact mir_len _
theorem mcR_tot (c : Int) (xs : List V) (h : ss.tot (prs xs) ≤ 1048576) : ss.tot (prs (mcR c xs)) ≤ 1048576 := by
  unfold mcR
  split
  · unfold ss.tot ss.pre at h ⊢
    rw [lens_mir]
    simpa [prs] using h
  · simp [ss.tot, ss.pre, prs, ss.lens]
end Go.Proofs.YtalioekeinohkaaDoor.cm
