/-
  In one file: Crw, Cmi, Cms.
-/
import Derived.Test.YtbbnheiibkcgiabDoorRw2
import Derived.Test.YtbbnheiibkcgiabDoorSr
import Derived.Test.YtbbnheiibkcgiabDoorMs1
import Derived.Test.YtbbnheiibkcgiabDoorIv
import Derived.Test.YtbbnheiibkcgiabDoorRed
import Derived.Test.YtbbnheiibkcgiabDoorKam
import Derived.Test.YtbbnheiibkcgiabDoorCt1
import Derived.Test.YtbbnheiibkcgiabDoorKas
/- Rows of charts that a call builds by append: what it owns. -/
namespace Go.Proofs.YtbbnheiibkcgiabDoor.ro
open Go.RowKit Go.Proofs.YtbbnheiibkcgiabDoor.sl Go.Proofs.YtbbnheiibkcgiabDoor.br Go.Proofs.YtbbnheiibkcgiabDoor.ss
set_option linter.unusedVariables false

structure Rw where
  r : V
  f : Value
def dz : Rw := ⟨iz, .slice none 0 0⟩
def flatW (L : List Rw) : List Value := L.flatMap fun k => [.int .i64 k.r.a0, .int .i64 k.r.a1, k.f]
theorem flatW_app (L M : List Rw) : flatW (L ++ M) = flatW L ++ flatW M := by simp [flatW]
theorem flatW_one (k : Rw) : flatW [k] = [.int .i64 k.r.a0, .int .i64 k.r.a1, k.f] := rfl
theorem flatW_len (L : List Rw) : (flatW L).length = L.length * 3 := by
  induction L with
  | nil => rfl
  | cons k L ih => simp only [flatW, List.flatMap_cons, List.length_append, List.length_cons, List.length_nil] at ih ⊢; omega
theorem flatW_at : ∀ (L : List Rw) (j : Nat), j < L.length → (flatW L)[j * 3]? = some (.int .i64 (L.getD j dz).r.a0) ∧ (flatW L)[j * 3 + 1]? = some (.int .i64 (L.getD j dz).r.a1) ∧ (flatW L)[j * 3 + 2]? = some (L.getD j dz).f
  | [], j, h => by simp at h
  | x :: L, 0, h => ⟨rfl, rfl, rfl⟩
  | x :: L, j + 1, h => by
    have := flatW_at L j (by simpa using h)
    rw [show (j + 1) * 3 = j * 3 + 1 + 1 + 1 from by omega]
    exact this
theorem getD_app1 (L : List Rw) (k : Rw) (j : Nat) (h : j < L.length) : (L ++ [k]).getD j dz = L.getD j dz := by simp [List.getD, List.getElem?_append_left h]
theorem getD_app2 (L : List Rw) (k : Rw) : (L ++ [k]).getD L.length dz = k := by simp [List.getD]

structure RW (W : World) (lo : Nat) (v : Value) (L : List Rw) : Prop where
  row : W.ownsRow lo 50 3 v L.length (flatW L)
  els : ∃ Lo Hi : Nat → Nat, ∀ j, j < L.length → sl.Own W (Lo j) (Hi j) (L.getD j dz).f (L.getD j dz).r.ps ∧ lo ≤ Lo j ∧ (∀ g, v.ownBlock = some g → g < Lo j ∨ Hi j ≤ g) ∧ ∀ i, i < j → Hi i ≤ Lo j ∨ Hi j ≤ Lo i
theorem RW.below {W W' : World} {lo : Nat} {v : Value} {L : List Rw} (h : RW W lo v L) (b : Below W.heap.size W W') : RW W' lo v L := by
  obtain ⟨Lo, Hi, he⟩ := h.els
  refine ⟨World.ownsRow.kept h.row (wk.grN b) (by cases v.ownBlock <;> simp), Lo, Hi, fun j hj => ?_⟩
  obtain ⟨h1, h2⟩ := he j hj
  exact ⟨h1.chg (Chg.ofBelow (lo := 0) b) (.inr (.inr (Nat.zero_le _))), h2⟩
theorem RW.start {W : World} {lo : Nat} {v : Value} (h : W.ownsRow lo 50 3 v 0 []) : RW W lo v [] :=
  ⟨h, fun _ => 0, fun _ => 0, fun j hj => by simp at hj⟩
theorem RW.nil (W : World) (lo : Nat) : RW W lo (.slice none 0 0) [] := RW.start (World.ownsRow_nil _ _ _ _)
theorem RW.val {W : World} {lo : Nat} {v : Value} {L : List Rw} (h : RW W lo v L) : ∃ ao cap, v = .slice ao L.length cap := by
  rcases h.row.2 with ⟨h1, h2⟩ | ⟨g, c, cur, h1, _⟩
  · exact ⟨none, 0, by rw [h1, h2]⟩
  · exact ⟨_, c, h1⟩
theorem RW.low {W : World} {lo lo' : Nat} {v : Value} {L : List Rw} (h : RW W lo v L) (hl : lo' ≤ lo) : RW W lo' v L := by
  obtain ⟨Lo, Hi, he⟩ := h.els
  refine ⟨⟨h.row.1, ?_⟩, Lo, Hi, fun j hj => ?_⟩
  · rcases h.row.2 with h1 | ⟨g, c, cur, h1, h2, h3⟩
    · exact .inl h1
    · exact .inr ⟨g, c, cur, h1, by omega, h3⟩
  · obtain ⟨a1, a2, a3⟩ := he j hj
    exact ⟨a1, by omega, a3⟩
theorem map_at (L : List Rw) (j : Nat) (h : j < L.length) : (L.map Rw.r).getD j iz = (L.getD j dz).r := by simp [List.getD, h]
/-- The rows as an answer. -/
theorem RW.iown {W : World} {lo : Nat} {v : Value} {L : List Rw} (h : RW W lo v L) : IOwn W lo W.heap.size v (L.map Rw.r) := by
  refine ⟨Nat.le_refl _, ?_⟩
  rcases h.row.2 with ⟨hv, hn⟩ | ⟨g, cap, cur, hv, hb, hg, hrest⟩
  · exact .inl ⟨by rw [List.length_eq_zero_iff.1 hn]; rfl, none, 0, by rw [hv]⟩
  · by_cases hL : L = []
    · subst hL
      exact .inl ⟨rfl, _, _, hv⟩
    · have hp : 0 < L.length := List.length_pos_iff.2 hL
      obtain ⟨Lo, Hi, he⟩ := h.els
      have hown : v.ownBlock = some g := by rw [hv]; rfl
      have hlt := h.row.lt g hown
      have hrow := h.row
      rw [hv] at hrow
      refine .inr ⟨by rw [List.length_map]; exact hp, g, cap, fun j => (L.getD j dz).f, Lo, Hi, by rw [List.length_map]; exact hv, hb, hlt.2, fun o ho => hrow.frozenAt o, fun j hj => ?_⟩
      rw [List.length_map] at hj
      obtain ⟨a1, a2, a3, a4⟩ := he j hj
      have hc := flatW_at L j hj
      have e0 := h.row.cells hown (j * 3) _ hc.1
      have e1 := h.row.cells hown (j * 3 + 1) _ hc.2.1
      have e2 := h.row.cells hown (j * 3 + 2) _ hc.2.2
      rw [Addr.add_lit] at e0 e1 e2
      rw [map_at L j hj]
      exact ⟨⟨hlt.2, by simpa using e0, by simpa [Nat.zero_add] using e1, by simpa [Nat.zero_add] using e2⟩, a1, a2, a1.2.2, a3 g hown, a4⟩

theorem infoRw : (Tryd.prog.info? 50).map (fun i => (i.zero, i.size, i.bytes)) = some (some (.agg #[.int .i64 0, .int .i64 0, .slice none 0 0]), 3, 40) := by kernel_rfl

/-- append(rows, row): the row's list lies in a block that is newer than the rows so far. -/
theorem wp_appW {ops : Array Oper} {rest : List Oper} {o : Oper} {a : Act} {Q : Exit → Act → World → Prop} {Wr W1 : World} (hgd : o.guard = none) (s x : Operand)
    (hop : o.op = .call { callee := .builtin .append, args := #[s, x], argTypes := #[26, 26] })
    (lo : Nat) (v : Value) (L : List Rw) (k : Rw) (h : RW Wr lo v L) (b : Below Wr.heap.size Wr W1) (oy : sl.Own W1 Wr.heap.size W1.heap.size k.f k.r.ps) (hy1 : k.f.oneCell' = true) (hs : a.eval s = v) (hx : a.eval x = .slice (some ⟨W1.heap.size, 0, none⟩) 1 1) (hlo : lo ≤ Wr.heap.size) (hn : L.length ≤ 1048576)
    (hK : ∀ v' w', RW w' lo v' (L ++ [k]) → Below lo W1 w' → wpList Tryd.prog ops Q rest (a.put o.dst v') w') : wpList Tryd.prog ops Q (o :: rest) a (W1.alloc (.cells #[.int .i64 k.r.a0, .int .i64 k.r.a1, k.f] 50)) := by
  obtain ⟨i0, hi', hz0, hz1, hz2⟩ := info_parts infoRw
  have b2 : Below W1.heap.size W1 (W1.alloc (.cells #[.int .i64 k.r.a0, .int .i64 k.r.a1, k.f] 50)) := (Below.refl _ _).alloc (Nat.le_refl _) _
  have hs1 := b.size
  have hs2 := b2.size
  have h2 := (h.below b).below b2
  obtain ⟨v', w', hr, e2, e3, e4, e5⟩ := run_append_own_at (P := Tryd.prog) (W1.alloc (.cells #[.int .i64 k.r.a0, .int .i64 k.r.a1, k.f] 50)) lo 26 o.type 50 i0 (.agg #[.int .i64 0, .int .i64 0, .slice none 0 0]) 3 40 Tryd.underlying26 hi' hz0 hz1 hz2 rfl (by decide) v L.length (flatW L) h2.row ⟨W1.heap.size, 0, none⟩ 1 1 [.int .i64 k.r.a0, .int .i64 k.r.a1, k.f] (by simp)
    (fun j u hj => by
      match j, hj with
      | 0, hj =>
        simp only [List.getElem?_cons_zero, Option.some.injEq] at hj
        subst hj
        rw [Addr.add_lit, World.cell?_alloc_at _ _ _ _ rfl]; rfl
      | 1, hj =>
        simp only [List.getElem?_cons_succ, List.getElem?_cons_zero, Option.some.injEq] at hj
        subst hj
        rw [Addr.add_lit, World.cell?_alloc_at _ _ _ _ rfl]; rfl
      | 2, hj =>
        simp only [List.getElem?_cons_succ, List.getElem?_cons_zero, Option.some.injEq] at hj
        subst hj
        rw [Addr.add_lit, World.cell?_alloc_at _ _ _ _ rfl]; rfl)
    (fun u hu => by
      simp at hu
      rcases hu with e | e | e
      · rw [e]; rfl
      · rw [e]; rfl
      · rw [e]; exact hy1) (by unfold maxLen; omega) (by omega) (by simp; omega)
  have hlt : ∀ g, v.ownBlock = some g → lo ≤ g ∧ g < Wr.heap.size := fun g hg => h.row.lt g hg
  have oy2 := oy.chg (Chg.ofBelow (lo := 0) b2) (.inr (.inr (Nat.zero_le _)))
  obtain ⟨Lo, Hi, he⟩ := h.els
  refine wpList_plain hgd fun K hKK => ?_
  unfold Oper.wp execOp
  simp only [hop, resolve, invoke, builtin, Sem.run_bind, Sem.run_pure, Result.andThen_ok, List.map_toArray, List.map_cons, List.map_nil, hs, hx, hr]
  refine hKK _ _ (hK v' w' ⟨by rw [flatW_app, flatW_one, List.length_append]; exact e2, fun j => if j < L.length then Lo j else Wr.heap.size, fun j => if j < L.length then Hi j else W1.heap.size, fun j hj => ?_⟩ ⟨e3.os.trans b2.os, e3.tape.trans b2.tape, e3.output.trans b2.output, Nat.le_trans b2.size e3.size, fun q hq => ?_⟩)
  · simp only [List.length_append, List.length_cons, List.length_nil, Nat.zero_add] at hj
    by_cases hl : j < L.length
    · rw [getD_app1 L k j hl]
      obtain ⟨a1, a2, a3, a4⟩ := he j hl
      have hh := a1.2.2
      have o2 := (a1.chg (Chg.ofBelow (lo := 0) b) (.inr (.inr (Nat.zero_le _)))).chg (Chg.ofBelow (lo := 0) b2) (.inr (.inr (Nat.zero_le _)))
      simp only [if_pos hl]
      refine ⟨wk.own_by o2 e3 a3, a2, fun g e => ?_, fun i hi => ?_⟩
      · rcases e5 with e5 | e5
        · exact a3 g (by rw [← e5]; exact e)
        · rw [e5] at e
          simp only [Option.some.injEq] at e
          omega
      · rw [if_pos (show i < L.length by omega)]
        rw [if_pos (show i < L.length by omega)]
        exact a4 i hi
    · obtain rfl : j = L.length := by omega
      rw [getD_app2 L k]
      simp only [if_neg (Nat.lt_irrefl _)]
      refine ⟨wk.own_by oy2 e3 fun q hq => .inl (hlt q hq).2, hlo, fun g e => ?_, fun i hi => ?_⟩
      · rcases e5 with e5 | e5
        · exact .inl (hlt g (by rw [← e5]; exact e)).2
        · rw [e5] at e
          simp only [Option.some.injEq] at e
          omega
      · simp only [if_pos hi]
        have := (he i hi).1.2.2
        omega
  · rw [e3.block q (by omega) (by intro e; have := (hlt q e.symm).1; omega)]
    exact b2.block q (by omega)
end Go.Proofs.YtbbnheiibkcgiabDoor.ro

/- MirrorChart of the program. -/
namespace Go.Proofs.YtbbnheiibkcgiabDoor.cm
open Go.RowKit Go.Sort Go.Proofs.YtbbnheiibkcgiabDoor.sl Go.Proofs.YtbbnheiibkcgiabDoor.br Go.Proofs.YtbbnheiibkcgiabDoor.bw Go.Proofs.YtbbnheiibkcgiabDoor.st Go.Proofs.YtbbnheiibkcgiabDoor.cx Go.Proofs.YtbbnheiibkcgiabDoor.ro
set_option linter.unusedVariables false
set_option linter.unusedSimpArgs false
set_option maxRecDepth 100000

/-- The first k stitches mirrored. -/
def mirTo (ks : List Int) (k : Nat) : List Int := (ks.take k).map mi ++ ks.drop k
theorem mirTo_zero (ks : List Int) : mirTo ks 0 = ks := by simp [mirTo]
theorem mirTo_all (ks : List Int) : mirTo ks ks.length = ks.map mi := by simp [mirTo]
theorem mirTo_len (ks : List Int) (k : Nat) (h : k ≤ ks.length) : (mirTo ks k).length = ks.length := by simp [mirTo]; omega
theorem mirTo_at (ks : List Int) (k : Nat) (h : k < ks.length) : (mirTo ks k).getD k 0 = ks.getD k 0 := by
  simp only [mirTo, List.getD]
  rw [List.getElem?_append_right (by simp; omega)]
  simp [Nat.min_eq_left (Nat.le_of_lt h)]
theorem mirTo_set (ks : List Int) (k : Nat) (h : k < ks.length) : (mirTo ks k).set k (mi (ks.getD k 0)) = mirTo ks (k + 1) := by
  apply List.ext_getElem?
  intro m
  have hl : ((ks.take k).map mi).length = k := by simp; omega
  have hl2 : ((ks.take (k + 1)).map mi).length = k + 1 := by simp; omega
  rw [List.getElem?_set]
  by_cases e : k = m
  · subst e
    rw [if_pos rfl, if_pos (by rw [mirTo_len ks k (by omega)]; exact h), mirTo, List.getElem?_append_left (by omega)]
    simp [List.getD, h]
  · rw [if_neg e, mirTo, mirTo]
    by_cases hm : m < k
    · rw [List.getElem?_append_left (by omega), List.getElem?_append_left (by omega)]
      simp [List.getElem?_map, List.getElem?_take, hm, show m < k + 1 by omega]
    · rw [List.getElem?_append_right (by omega), List.getElem?_append_right (by omega), hl, hl2, List.getElem?_drop, List.getElem?_drop]
      congr 1; omega



/-- Rows whose lists are nil or have an address. -/
def InfsN (w : World) (B : Nat) (v : Value) (xs : List V) : Prop :=
  (xs = [] ∧ ∃ ao cap, v = .slice ao 0 cap) ∨
  (0 < xs.length ∧ ∃ (b off cap : Nat) (F : Nat → Value), v = .slice (some ⟨b, off, none⟩) xs.length cap ∧ b < B ∧ ∀ j, j < xs.length → At w b (off + j * 3) (xs.getD j iz) (F j) ∧ Ints w B (F j) (xs.getD j iz).ps ∧ fn.NilOk (F j))
theorem InfsN.infs {w : World} {B : Nat} {v : Value} {xs : List V} (h : InfsN w B v xs) : Infs w B v xs := by
  rcases h with h | ⟨hp, b, off, cap, F, hv, hb, hc⟩
  · exact .inl h
  · exact .inr ⟨hp, b, off, cap, F, hv, hb, fun j hj => ⟨(hc j hj).1, (hc j hj).2.1⟩⟩
theorem iownN {w : World} {lo hi : Nat} {v : Value} {xs : List V} (h : IOwn w lo hi v xs) : InfsN w hi v xs := by
  rcases h.2 with h | ⟨hp, g, cap, F, L, H, hv, h1, h2, h3, h4⟩
  · exact .inl h
  · exact .inr ⟨hp, g, 0, cap, F, hv, h2, fun j hj => ⟨(h4 j hj).1, (h4 j hj).2.1.ints.mono (h4 j hj).2.2.2.1, fn.nilok_own (h4 j hj).2.1⟩⟩
def mcC (c : Int) (xs : List V) : Int := if chB c xs then c else 0
def mcR (c : Int) (xs : List V) : List V := if chB c xs then xs.map mirV else []
theorem ch_dir {c : Int} {xs : List V} (h : chB c xs = true) (j : Nat) (hj : j < xs.length) : (xs.getD j iz).a0 = 1 ∨ (xs.getD j iz).a0 = -1 := by
  simp only [chB, Bool.and_eq_true] at h
  have h2 := h.2.2
  rw [okTo, List.all_eq_true] at h2
  have h3 := h2 j (by simpa using hj)
  simp only [rowOk, Bool.and_eq_true] at h3
  exact dir_of h3.1
theorem ch_len {c : Int} {xs : List V} (h : chB c xs = true) : 1 ≤ xs.length ∧ xs.length ≤ 8 := by
  simp only [chB, Bool.and_eq_true, decide_eq_true_eq] at h
  exact h.2.1
theorem mcR_small (c : Int) (xs : List V) (hq : Small xs) : Small (mcR c xs) := by
  unfold mcR
  split
  · refine ⟨by rw [List.length_map]; exact hq.len, fun j hj => ?_⟩
    rw [mirV_at]
    by_cases h : j < xs.length
    · show (mir _).length ≤ _
      rw [mir_len]; exact hq.short j h
    · rw [List.length_map] at hj; omega
  · exact ⟨by simp, fun j hj => by simp at hj⟩
theorem map_take_succ (xs : List V) (k : Nat) (h : k < xs.length) : (xs.take (k + 1)).map mirV = (xs.take k).map mirV ++ [mirV (xs.getD k iz)] := by
  rw [List.take_succ_eq_append_getElem h, List.map_append]
  simp [List.getD, List.getElem?_eq_getElem h]

end Go.Proofs.YtbbnheiibkcgiabDoor.cm

/- MirrorChart of the model. -/
namespace Go.Proofs.YtbbnheiibkcgiabDoor.cm
open Go.RowKit Go.Sort Go.Proofs.YtbbnheiibkcgiabDoor.sl Go.Proofs.YtbbnheiibkcgiabDoor.br Go.Proofs.YtbbnheiibkcgiabDoor.bw Go.Proofs.YtbbnheiibkcgiabDoor.st Go.Proofs.YtbbnheiibkcgiabDoor.cx Go.Proofs.YtbbnheiibkcgiabDoor.ro
set_option linter.unusedVariables false
set_option linter.unusedSimpArgs false
set_option maxRecDepth 100000

theorem rw_other {W : World} {lo : Nat} {v : Value} {L : List Rw} (h : RW W lo v L) (b o : Nat) (u : Value) (hb : b < lo) : RW (W.setCell ⟨b, o, none⟩ u) lo v L := by
  obtain ⟨Lo, Hi, he⟩ := h.els
  have ch := chg_set W b o u
  have hg : W.grownBy (W.setCell ⟨b, o, none⟩ u) (some b) := ⟨ch.os, ch.tape, ch.output, ch.size, fun k hk hne => ch.block k hk (fun hh => hne (by congr 1; omega))⟩
  refine ⟨World.ownsRow.kept h.row hg ?_, Lo, Hi, fun j hj => ?_⟩
  · cases hv : v.ownBlock with
    | none => exact .inl rfl
    | some g =>
      right
      intro e
      simp only [Option.some.injEq] at e
      have := (h.row.lt g hv).1
      omega
  · obtain ⟨h1, h2, h3, h4⟩ := he j hj
    exact ⟨own_other h1 b o u (by omega), h2, h3, h4⟩
theorem mir_take (ps : List Int) (q : Nat) (h : q < ps.length) : (mir ps).take (q + 1) = (mir ps).take q ++ [mi (ps.getD (ps.length - 1 - q) 0)] := by
  have hl : q < (mir ps).length := by rw [mir_len]; exact h
  rw [List.take_succ_eq_append_getElem hl, ← mir_at ps q h]
  simp [List.getD, List.getElem?_eq_getElem hl]


/-! ### For the law -/
theorem _root_.Go.Proofs.YtbbnheiibkcgiabDoor.ro.IOwn.infsN {w : World} {lo hi : Nat} {v : Value} {xs : List V} (h : IOwn w lo hi v xs) : cm.InfsN w hi v xs := iownN h
theorem lens_mir (xs : List V) : ss.lens (prs (xs.map mirV)) = ss.lens (prs xs) := by
  simp only [ss.lens, prs, List.map_map]
  apply List.map_congr_left
  intro x _
  show (mir x.ps).length = x.ps.length
  exact mir_len _
theorem mcR_tot (c : Int) (xs : List V) (h : ss.tot (prs xs) ≤ 1048576) : ss.tot (prs (mcR c xs)) ≤ 1048576 := by
  unfold mcR
  split
  · unfold ss.tot ss.pre at h ⊢
    rw [lens_mir]
    simpa [prs] using h
  · simp [ss.tot, ss.pre, prs, ss.lens]
end Go.Proofs.YtbbnheiibkcgiabDoor.cm
