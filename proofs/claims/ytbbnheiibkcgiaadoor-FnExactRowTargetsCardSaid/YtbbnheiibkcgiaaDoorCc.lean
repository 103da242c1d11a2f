/-
  Words that are joined: contracts of slices.Grow at the nil slice, slices.Concat and impl.joined.
-/
import Derived.Test.YtbbnheiibkcgiaaDoorMr
import Derived.Test.YtbbnheiibkcgiaaDoorWd
import Derived.Lib.AppendZeros
namespace Go.Proofs.YtbbnheiibkcgiaaDoor.br
open Go.RowKit Go.Proofs.YtbbnheiibkcgiaaDoor.sl Go.Proofs.YtbbnheiibkcgiaaDoor.pm Go.Proofs.YtbbnheiibkcgiaaDoor.bw Go.Proofs.YtbbnheiibkcgiaaDoor.fn

theorem infoInt : Tryd.prog.underlying 3 = some (.int .i64) := by kernel_rfl

/-- A slice of slices of numbers. -/
def Wds (w : World) (B : Nat) (g : Nat) (L : List (List Int)) : Prop :=
  ∀ j, j < L.length → ∃ ao cap, w.cell? ⟨g, j, none⟩ = some (.slice ao (L.getD j []).length cap) ∧ Ints w B (.slice ao (L.getD j []).length cap) (L.getD j []) ∧ NilOk (.slice ao (L.getD j []).length cap)
theorem Wds.below {w w' : World} {B g lo : Nat} {L : List (List Int)} (h : Wds w B g L) (hb : Below lo w w') (h1 : g < lo) (h2 : B ≤ lo) : Wds w' B g L := by
  intro j hj
  obtain ⟨ao, cap, hc, hi, hn⟩ := h j hj
  exact ⟨ao, cap, (hb.cell (p := ⟨g, j, none⟩) h1).trans hc, hi.chg (lo := lo) (hi := w.heap.size) ⟨hb.os, hb.tape, hb.output, hb.size, fun k hk hk' => hb.block k (by omega)⟩ (.inl h2), hn⟩
def tot (L : List (List Int)) (k : Nat) : Nat := ((L.take k).flatten).length
theorem flat_snoc (L : List (List Int)) (k : Nat) (h : k < L.length) : (L.take (k + 1)).flatten = (L.take k).flatten ++ L.getD k [] := by
  rw [List.take_succ_eq_append_getElem h, List.flatten_append]; simp [List.getD, List.getElem?_eq_getElem h]
theorem tot_succ (L : List (List Int)) (k : Nat) (h : k < L.length) : tot L (k + 1) = tot L k + (L.getD k []).length := by
  rw [tot, flat_snoc L k h, List.length_append]; rfl
theorem tot_le (L : List (List Int)) (k : Nat) : tot L k ≤ L.flatten.length := by
  have h : L.flatten = (L.take k).flatten ++ (L.drop k).flatten := by rw [← List.flatten_append, List.take_append_drop]
  rw [tot, h, List.length_append]; omega

/-- What joined answers. -/
def joinOk (s : Int) (L : List (List Int)) : Bool := decide (s ≤ 12) && decide (L.flatten.length ≤ 40)
def joinS (s : Int) (L : List (List Int)) : Int := if joinOk s L = true then s else 0
def joinW (s : Int) (L : List (List Int)) : List Int := if joinOk s L = true then L.flatten else []
def joinC (s : Int) (L : List (List Int)) : Int := if joinOk s L = true then 0 else 5

end Go.Proofs.YtbbnheiibkcgiaaDoor.br
