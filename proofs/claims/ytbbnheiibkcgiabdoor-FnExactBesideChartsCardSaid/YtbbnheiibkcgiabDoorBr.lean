/-
  Braids in memory: contracts of the laws' helpers toBraid, eqBraid, markBraid, heldBraid, szBraid.
-/
import Derived.Test.YtbbnheiibkcgiabDoorAp
import Derived.Test.YtbbnheiibkcgiabDoorPerm
import Derived.Test.YtbbnheiibkcgiabDoorBrm
namespace Go.Proofs.YtbbnheiibkcgiabDoor.br
open Go.RowKit Go.Proofs.YtbbnheiibkcgiabDoor.sl Go.Proofs.YtbbnheiibkcgiabDoor.pm

theorem ints_val {w : World} {B : Nat} {v : Value} {xs : List Int} (h : Ints w B v xs) : ∃ ao cap, v = .slice ao xs.length cap := by
  rcases h with ⟨rfl, ao, cap, rfl⟩ | ⟨hp, b, off, cap, rfl, hb', hc⟩ <;> exact ⟨_, _, rfl⟩

theorem ints_al {w : World} {B : Nat} {v : Value} {xs : List Int} (h : Ints w B v xs) (o : Obj) : Ints (w.alloc o) B v xs :=
  h.chg (lo := 0) (hi := 0) ⟨rfl, rfl, rfl, by simp, fun k hk _ => Below.heap_alloc w o k hk⟩ (.inr (Nat.zero_le _))
theorem own_val {w : World} {lo hi : Nat} {v : Value} {xs : List Int} (o : Own w lo hi v xs) : ∃ ao cap, v = .slice ao xs.length cap := by
  rcases o.1.2 with ⟨h, h0⟩ | ⟨g, c, cur, h, _⟩
  · exact ⟨none, 0, by rw [h, h0]⟩
  · exact ⟨_, _, h⟩
theorem chg_set (w : World) (b o : Nat) (u : Value) : Chg b (b + 1) w (w.setCell ⟨b, o, none⟩ u) :=
  ⟨rfl, rfl, rfl, by simp, fun k hk hk' => heap_setCell_other _ _ _ _ (by intro e; simp at e; omega)⟩
theorem own_other {w : World} {lo hi : Nat} {v : Value} {xs : List Int} (h : Own w lo hi v xs) (b o : Nat) (u : Value) (hb : b < lo ∨ hi ≤ b) : Own (w.setCell ⟨b, o, none⟩ u) lo hi v xs :=
  h.chg (chg_set w b o u) (by omega)
theorem bcell {W w1 : World} (hb : Below W.heap.size W w1) : (∀ b o, b < W.heap.size → w1.cell? ⟨b, o, none⟩ = W.cell? ⟨b, o, none⟩) ∧ (∀ b o, b < W.heap.size → w1.frozen? ⟨b, o, none⟩ = W.frozen? ⟨b, o, none⟩) :=
  ⟨fun b o h => hb.cell (p := ⟨b, o, none⟩) h, fun b o h => hb.frozen (p := ⟨b, o, none⟩) h⟩

/-- Both braids are equal. -/
def sameBr (s t : Int) (xs ys : List Int) : Bool := decide (s = t) && sameB xs ys

theorem chg_alloc (lo hi : Nat) (w : World) (o : Obj) : Chg lo hi w (w.alloc o) := ⟨rfl, rfl, rfl, by simp, fun k hk _ => Below.heap_alloc w o k hk⟩
theorem own_al {w : World} {lo hi : Nat} {v : Value} {xs : List Int} (h : Own w lo hi v xs) (o : Obj) : Own (w.alloc o) lo hi v xs :=
  h.chg (chg_alloc 0 0 w o) (by omega)

/-- What is left of a budget. -/
def szL (left : Int) (n : Nat) : Int := if left - (n : Int) < 0 then -1 else left - (n : Int)
theorem szI (ao : Option Addr) (n cap : Nat) (left : Int) (w : World) (hn : n ≤ 9223372036854775807) (h0 : 0 ≤ left) (h1 : left ≤ 1048576) :
    Calls Tryd.prog 43 #[.slice ao n cap, .int .i64 left] w fun e w' => e = .returned (.int .i64 (szL left n)) ∧ w = w' := by
  by_cases h : left - (n : Int) < 0
  · have HF : Hid (szL left n = -1) := hid (by rw [szL, if_pos h])
    go_enter Tryd.func43, Tryd.ntmps43
    go_wp2
    go_ret
    exact ⟨by rw [HF.out]; rfl, rfl⟩
  · have HF : Hid (szL left n = left - (n : Int)) := hid (by rw [szL, if_neg h])
    go_enter Tryd.func43, Tryd.ntmps43
    go_wp2
    go_ret
    exact ⟨by rw [HF.out]; rfl, rfl⟩
end Go.Proofs.YtbbnheiibkcgiabDoor.br
