/-
  Contracts of WidenBraid, of the program and of its model.
-/
import Derived.Test.YtnmnikpgjglonabDoorCc
import Derived.StillTailTactics
namespace Go.Proofs.YtnmnikpgjglonabDoor.br
open Go.RowKit Go.Proofs.YtnmnikpgjglonabDoor.sl Go.Proofs.YtnmnikpgjglonabDoor.pm Go.Proofs.YtnmnikpgjglonabDoor.bw Go.Proofs.YtnmnikpgjglonabDoor.fn

theorem box3 {w w1 : World} {c0 c1 c2 : Array Value} {T0 T1 T2 : TypeId} (h : Below (((w.alloc (.cells c0 T0)).alloc (.cells c1 T1)).alloc (.cells c2 T2)).heap.size (((w.alloc (.cells c0 T0)).alloc (.cells c1 T1)).alloc (.cells c2 T2)) w1) :
    (∀ j, w1.cell? ⟨w.heap.size, j, none⟩ = c0[j]?) ∧ (∀ j, w1.cell? ⟨w.heap.size + 1, j, none⟩ = c1[j]?) ∧ (∀ j, w1.cell? ⟨w.heap.size + 1 + 1, j, none⟩ = c2[j]? ∧ w1.frozen? ⟨w.heap.size + 1 + 1, j, none⟩ = false) ∧ Below w.heap.size w w1 ∧ w.heap.size + 3 ≤ w1.heap.size := by
  have h2 := box2 (w := w.alloc (.cells c0 T0)) h
  have h1 := box1 h2.2.2.1
  have hz : (w.alloc (.cells c0 T0)).heap.size = w.heap.size + 1 := by simp
  rw [hz] at h2
  exact ⟨h1.1, h2.1, h2.2.1, h1.2.1, h2.2.2.2⟩

def rngB (l r : Int) : Bool := decide (0 ≤ l ∧ l ≤ 12) && decide (0 ≤ r ∧ r ≤ 12)
def widOk (s : Int) (xs : List Int) (l r : Int) : Bool := okB s xs && rngB l r && decide (l + s + r ≤ 12)
def widS (s : Int) (xs : List Int) (l r : Int) : Int := if widOk s xs l r = true then l + s + r else 0
def widW (s : Int) (xs : List Int) (l r : Int) : List Int := if widOk s xs l r = true then xs.map (widF l) else []
def widC (s : Int) (xs : List Int) (l r : Int) : Int := if okB s xs = false then 1 else if rngB l r = false then 2 else if l + s + r ≤ 12 then 0 else 5
theorem widW_len (s : Int) (xs : List Int) (l r : Int) : (widW s xs l r).length ≤ 1000 := by
  unfold widW
  split
  · rename_i h
    simp only [widOk, Bool.and_eq_true] at h
    have := (ok_parts h.1.1).2.2.1
    simp; omega
  · simp
theorem wid_no {s : Int} {xs : List Int} {l r : Int} (h : widOk s xs l r = false) : widS s xs l r = 0 ∧ widW s xs l r = [] := by
  exact ⟨by rw [widS, h]; rfl, by rw [widW, h]; rfl⟩
theorem wid_yes {s : Int} {xs : List Int} {l r : Int} (h : widOk s xs l r = true) : widS s xs l r = l + s + r ∧ widW s xs l r = xs.map (widF l) := by
  exact ⟨by rw [widS, if_pos h], by rw [widW, if_pos h]⟩
theorem wid_join {s : Int} {xs : List Int} {l r : Int} (h : okB s xs = true) (hr : rngB l r = true) : joinS (l + s + r) [xs.map (widF l)] = widS s xs l r ∧ joinW (l + s + r) [xs.map (widF l)] = widW s xs l r ∧ joinC (l + s + r) [xs.map (widF l)] = widC s xs l r := by
  have h40 := (ok_parts h).2.2.1
  have e : joinOk (l + s + r) [xs.map (widF l)] = widOk s xs l r := by
    simp only [joinOk, widOk, h, hr, Bool.true_and, List.flatten_cons, List.flatten_nil, List.append_nil, List.length_map]
    rw [decide_eq_true h40, Bool.and_true]
  refine ⟨by rw [joinS, widS, e], by rw [joinW, widW, e]; simp, ?_⟩
  rw [joinC, widC, e, h, hr]
  simp only [widOk, h, hr, Bool.true_and, decide_eq_true_eq]
  simp

theorem wds_one (w : World) (lo hi : Nat) (ao : Option Addr) (n cap : Nat) (ys : List Int) (o : Own w lo hi (.slice ao n cap) ys) (hn : n = ys.length) (T : TypeId) :
    Wds (w.alloc (.cells #[.slice ao n cap] T)) hi w.heap.size [ys] := by
  intro j hj
  obtain rfl : j = 0 := by simp at hj; omega
  subst hn
  exact ⟨ao, cap, World.cell?_alloc_at _ _ _ _ rfl, (own_al o _).ints, nilok_own o⟩

theorem i64_add (a b : Int) (h : -1000 ≤ a ∧ a ≤ 1000) (h2 : -1000 ≤ b ∧ b ≤ 1000) : IntKind.i64.wrap (a + b) = a + b := IntWalk.i64_in _ (by omega)

end Go.Proofs.YtnmnikpgjglonabDoor.br
