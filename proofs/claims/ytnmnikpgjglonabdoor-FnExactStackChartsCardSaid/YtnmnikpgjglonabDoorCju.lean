/-
  Two charts as arguments of a law whose answer is a chart: what the walk of the law needs in a region whose order is drawn.
-/
import Derived.Test.YtnmnikpgjglonabDoorChm
import Derived.Test.YtnmnikpgjglonabDoorCto
import Derived.Test.YtnmnikpgjglonabDoorMkh
namespace Go.Proofs.YtnmnikpgjglonabDoor.cj
open Go.RowKit Go.Proofs.YtnmnikpgjglonabDoor.sl Go.Proofs.YtnmnikpgjglonabDoor.br
set_option linter.unusedVariables false

theorem _root_.Go.Proofs.YtnmnikpgjglonabDoor.cm.InfsN.chg {w w' : World} {B lo hi : Nat} {v : Value} {xs : List ro.V} (h : cm.InfsN w B v xs) (c : Chg lo hi w w') (h1 : B ≤ lo ∨ hi ≤ lo) : cm.InfsN w' B v xs := by
  rcases h with h | ⟨hp, b, off, cap, F, hv, hb, hc⟩
  · exact .inl h
  · exact .inr ⟨hp, b, off, cap, F, hv, hb, fun j hj => ⟨(hc j hj).1.blk c.size (c.block b (hc j hj).1.lt (by omega)), (hc j hj).2.1.chg c h1, (hc j hj).2.2⟩⟩
theorem _root_.Go.Proofs.YtnmnikpgjglonabDoor.cm.InfsN.mono {w : World} {B B' : Nat} {v : Value} {xs : List ro.V} (h : cm.InfsN w B v xs) (hB : B ≤ B') : cm.InfsN w B' v xs := by
  rcases h with h | ⟨hp, b, off, cap, F, hv, hb, hc⟩
  · exact .inl h
  · exact .inr ⟨hp, b, off, cap, F, hv, by omega, fun j hj => ⟨(hc j hj).1, (hc j hj).2.1.mono hB, (hc j hj).2.2⟩⟩

/-- What is kept in W since Wn: both boxes and their rows, and all memory. -/
def Kc (w Wn : World) (a0 a1 : Int) (v0 : Value) (xs0 : List ro.V) (v1 : Value) (xs1 : List ro.V) (W : World) : Prop :=
  (ro.Infs W w.heap.size v0 xs0 ∧ ro.Infs W w.heap.size v1 xs1 ∧ Wn.heap.size ≤ W.heap.size ∧ Below Wn.heap.size Wn W) ∧ w.heap.size + 1 < Wn.heap.size ∧
  W.cell? ⟨w.heap.size, 0, none⟩ = some (.int .i64 a0) ∧ W.cell? ⟨w.heap.size, 1, none⟩ = some v0 ∧ W.cell? ⟨w.heap.size + 1, 0, none⟩ = some (.int .i64 a1) ∧ W.cell? ⟨w.heap.size + 1, 1, none⟩ = some v1
theorem Kc.below {w Wn W W' : World} {a0 a1 : Int} {v0 v1 : Value} {xs0 xs1 : List ro.V} (h : Kc w Wn a0 a1 v0 xs0 v1 xs1 W) (b : Below W.heap.size W W') : Kc w Wn a0 a1 v0 xs0 v1 xs1 W' := by
  obtain ⟨⟨i0, i1, hs, hb⟩, hl, c0, c1, c2, c3⟩ := h
  refine ⟨⟨i0.chg (Chg.ofBelow (lo := 0) b) (.inr (Nat.zero_le _)), i1.chg (Chg.ofBelow (lo := 0) b) (.inr (Nat.zero_le _)), Nat.le_trans hs b.size, hb.trans (b.mono hs)⟩, hl, ?_, ?_, ?_, ?_⟩
  · exact (b.cell (p := ⟨w.heap.size, 0, none⟩) (by show w.heap.size < W.heap.size; omega)).trans c0
  · exact (b.cell (p := ⟨w.heap.size, 1, none⟩) (by show w.heap.size < W.heap.size; omega)).trans c1
  · exact (b.cell (p := ⟨w.heap.size + 1, 0, none⟩) (by show w.heap.size + 1 < W.heap.size; omega)).trans c2
  · exact (b.cell (p := ⟨w.heap.size + 1, 1, none⟩) (by show w.heap.size + 1 < W.heap.size; omega)).trans c3
theorem Kc.alloc {w Wn W : World} {a0 a1 : Int} {v0 v1 : Value} {xs0 xs1 : List ro.V} (h : Kc w Wn a0 a1 v0 xs0 v1 xs1 W) (o : Obj) : Kc w Wn a0 a1 v0 xs0 v1 xs1 (W.alloc o) := h.below ((Below.refl _ _).alloc (Nat.le_refl _) o)
theorem Kc.drew {w Wn W : World} {a0 a1 : Int} {v0 v1 : Value} {xs0 xs1 : List ro.V} (h : Kc w Wn a0 a1 v0 xs0 v1 xs1 W) : Kc w Wn a0 a1 v0 xs0 v1 xs1 W.drew := h.below (Below.refl _ _).drew

def Ic (W : World) (v : Value) (xs : List ro.V) : Prop := ∃ B, B ≤ W.heap.size ∧ cm.InfsN W B v xs
theorem Ic.below {W W' : World} {v : Value} {xs : List ro.V} (h : Ic W v xs) (b : Below W.heap.size W W') : Ic W' v xs := by
  obtain ⟨B, h1, h2⟩ := h
  exact ⟨B, Nat.le_trans h1 b.size, h2.chg (Chg.ofBelow (lo := 0) b) (.inr (Nat.zero_le _))⟩
theorem Ic.alloc {W : World} {v : Value} {xs : List ro.V} (h : Ic W v xs) (o : Obj) : Ic (W.alloc o) v xs := h.below ((Below.refl _ _).alloc (Nat.le_refl _) o)
theorem Ic.drew {W : World} {v : Value} {xs : List ro.V} (h : Ic W v xs) : Ic W.drew v xs := h.below (Below.refl _ _).drew

theorem toCq (a : Int) (v : Value) (xs : List ro.V) (hq : ro.Small xs) (W : World) (B : Nat) (hi : ro.Infs W B v xs) (hB : B ≤ W.heap.size) :
    Calls Tryd.prog 20 #[.agg #[.int .i64 a, v]] W fun e W' => ∃ f', e = .returned (.agg #[.int .i64 a, f']) ∧ Ic W' f' xs ∧ (∃ ao cap, f' = .slice ao xs.length cap) ∧ Below W.heap.size W W' := by
  refine (ct.toC a xs v _ _ hi hB hq).mono ?_
  rintro e W' ⟨f', rfl, o, b⟩
  exact ⟨f', rfl, ⟨_, Nat.le_refl _, o.infsN⟩, ro.iown_val o, b⟩

/-- The answer in a box of its own, in X. -/
def Rc (Wn : World) (sr : Int) (zr : List ro.V) (g : Nat) (ao : Option Addr) (cap : Nat) (X : World) : Prop :=
  X.cell? ⟨g, 0, none⟩ = some (.int .i64 sr) ∧ X.cell? ⟨g, 1, none⟩ = some (.slice ao zr.length cap) ∧ ro.IOwn X Wn.heap.size X.heap.size (.slice ao zr.length cap) zr ∧ Wn.heap.size ≤ g ∧ g < X.heap.size ∧ Below Wn.heap.size Wn X
theorem meetA {Wn Y : World} {sr : Int} {zr : List ro.V} {lo : Nat} {ao : Option Addr} {cap : Nat} (hb : Below Wn.heap.size Wn Y) (o : ro.IOwn Y lo Y.heap.size (.slice ao zr.length cap) zr) (hlo : Wn.heap.size ≤ lo) :
    Rc Wn sr zr Y.heap.size ao cap (Y.alloc (.cells #[.int .i64 sr, .slice ao zr.length cap] 40)) := by
  refine ⟨World.cell?_alloc_at _ _ _ _ rfl, World.cell?_alloc_at _ _ _ _ rfl, ?_, hb.size, by simp, hb.alloc hb.size _⟩
  exact ((o.chg (Chg.ofBelow (lo := 0) ((Below.refl Y.heap.size Y).alloc (Nat.le_refl _) _)) (.inr (.inr (Nat.zero_le _)))).lo hlo).hi (by simp) (Nat.le_refl _)
theorem meetB {Wn Y : World} {sr : Int} {zr : List ro.V} {lo : Nat} {ao : Option Addr} {cap : Nat} (hb : Below Wn.heap.size Wn Y) (o : ro.IOwn Y lo Y.heap.size (.slice ao zr.length cap) zr) (hlo : Wn.heap.size ≤ lo) (g : Nat) (hg1 : Wn.heap.size ≤ g) (hg2 : g < lo) (hg3 : g < Y.heap.size) {x0 x1 : Value} (c0 : Y.cell? ⟨g, 0, none⟩ = some x0) (c1 : Y.cell? ⟨g, 1, none⟩ = some x1) :
    Rc Wn sr zr g ao cap ((Y.setCell ⟨g, 0, none⟩ (.int .i64 sr)).setCell ⟨g, 1, none⟩ (.slice ao zr.length cap)) := by
  refine ⟨(World.cell?_setCell_other _ _ _ _ (by simp)).trans (World.cell?_setCell_same _ _ _ c0), World.cell?_setCell_same _ _ _ ((World.cell?_setCell_other _ _ _ _ (by simp)).trans c1), ?_, hg1, by simpa using hg3, (hb.setCell hg1 _).setCell hg1 _⟩
  exact ((ct.iown_other (ct.iown_other o g 0 _ (.inl hg2)) g 1 _ (.inl hg2)).lo hlo).hi (by simp) (Nat.le_refl _)

theorem keep2 {Y : World} {g b q : Nat} {x y : Value} (h : b < g) : ((Y.setCell ⟨g, 0, none⟩ x).setCell ⟨g, 1, none⟩ y).cell? ⟨b, q, none⟩ = Y.cell? ⟨b, q, none⟩ :=
  (World.cell?_setCell_other _ _ _ _ (fun e => by injection e with e1; omega)).trans (World.cell?_setCell_other _ _ _ _ (fun e => by injection e with e1; omega))
theorem markC2 (s : Int) (xs : List ro.V) (f : Value) (lo hi : Nat) (k0 : Int) (w : World) (ho : ro.IOwn w lo hi f xs) (hq : ro.Small xs) (ht : ss.tot (ro.prs xs) ≤ 1048576) (hk0 : 0 ≤ k0) (hk1 : k0 ≤ 100000000) :
    Calls Tryd.prog 23 #[.agg #[.int .i64 s, f], .int .i64 k0] w fun e w' => ∃ k1 : Int, e = .returned (.int .i64 k1) ∧ (0 ≤ k1 ∧ k1 ≤ k0 + 10000000) ∧ Chg lo hi w w' := by
  have hB := (Below.refl w.heap.size w).alloc (Nat.le_refl _) (.cells #[.int .i64 s, f] 40)
  have hC0 : Chg lo hi w (w.alloc (.cells #[.int .i64 s, f] 40)) := ⟨hB.os, hB.tape, hB.output, hB.size, fun k hk _ => hB.block k hk⟩
  have HM := hid (ct.markWS xs f lo hi k0 _ (ho.chg (Chg.ofBelow (lo := 0) hB) (.inr (.inr (Nat.zero_le _)))) hq ht hk0 (by omega))
  have HC0 := hid hC0
  obtain ⟨ao, cap, hv⟩ := ro.infs_val ho.infs
  have hpb := ct.preW_bound xs ht hq.len xs.length (Nat.le_refl _)
  have hkp : 0 ≤ k0 + (ct.preW xs xs.length : Int) ∧ k0 + (ct.preW xs xs.length : Int) ≤ k0 + 10000000 := by omega
  clear hB hC0 ho hq ht
  generalize ct.preW xs xs.length = t at *
  generalize xs.length = n at *
  subst hv
  go_enter Tryd.func23, Tryd.ntmps23
  go_wp2_with fail
  refine HM.out.mono ?_
  rintro e w1 ⟨rfl, c1⟩
  have HC := hid (HC0.out.trans c1)
  clear c1
  go_wp2
  go_ret
  exact ⟨_, rfl, hkp, HC.out⟩

theorem sSK (c : Int) (xs : List ro.V) (d : Int) (ys : List ro.V) (f u : Value) (B C : Nat) (w : World) (ha : cm.InfsN w B f xs) (hB : B ≤ w.heap.size) (hb : cm.InfsN w C u ys) (hC : C ≤ w.heap.size) (hq : ro.Small xs) (hq2 : ro.Small ys) :
    Calls Tryd.prog 25 #[.agg #[.int .i64 c, f], .agg #[.int .i64 d, u]] w fun e w' => ∃ ao cap, e = .returned (.tuple #[.agg #[.int .i64 (cy.skC c xs d ys), .slice ao (cy.skR c xs d ys).length cap], .int .i64 (cy.skK c xs d ys)]) ∧ ro.IOwn w' w.heap.size w'.heap.size (.slice ao (cy.skR c xs d ys).length cap) (cy.skR c xs d ys) ∧ Below w.heap.size w w' :=
  cy.specSK c xs f d ys u w.heap.size w (ha.mono hB) (hb.mono hC) (Nat.le_refl _) hq hq2
theorem iSK (c : Int) (xs : List ro.V) (d : Int) (ys : List ro.V) (f u : Value) (B C : Nat) (w : World) (ha : cm.InfsN w B f xs) (hB : B ≤ w.heap.size) (hb : cm.InfsN w C u ys) (hC : C ≤ w.heap.size) (hq : ro.Small xs) (hq2 : ro.Small ys) (hT : stb.Tab w) :
    Calls Tryd.prog 26 #[.agg #[.int .i64 c, f], .agg #[.int .i64 d, u]] w fun e w' => ∃ ao cap, e = .returned (.tuple #[.agg #[.int .i64 (cy.skC c xs d ys), .slice ao (cy.skR c xs d ys).length cap], .int .i64 (cy.skK c xs d ys)]) ∧ ro.IOwn w' w.heap.size w'.heap.size (.slice ao (cy.skR c xs d ys).length cap) (cy.skR c xs d ys) ∧ Below w.heap.size w w' :=
  cy.implSK c xs f d ys u w.heap.size w (ha.mono hB) (hb.mono hC) (Nat.le_refl _) hq hq2 hT
end Go.Proofs.YtnmnikpgjglonabDoor.cj
