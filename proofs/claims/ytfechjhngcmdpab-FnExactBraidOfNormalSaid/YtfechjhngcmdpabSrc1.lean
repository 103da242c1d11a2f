/-
  The model's source of choices: contracts of next, pick, one and among. What they choose is left open; only its bounds are told.
-/
import Derived.Test.YtfechjhngcmdpabComp
import Derived.Test.YtfechjhngcmdpabWd
import Derived.BigQuiet
import Derived.Laws.BitsAllLaws
namespace Go.Proofs.Ytfechjhngcmdpab.sr
open Go.RowKit Go.Proofs.Ytfechjhngcmdpab.sl Go.Proofs.Ytfechjhngcmdpab.pm Go.Proofs.Ytfechjhngcmdpab.fn

/-- A slice of n bytes in a block below B. -/
def Bytes (w : World) (B : Nat) (v : Value) (n : Nat) : Prop :=
  (n = 0 ∧ ∃ ao cap, v = .slice ao 0 cap) ∨
  (0 < n ∧ ∃ b off cap, v = .slice (some ⟨b, off, none⟩) n cap ∧ b < B ∧ ∀ j, j < n → ∃ x : Nat, x < 256 ∧ w.cell? ⟨b, off + j, none⟩ = some (.int .u8 (x : Int)))
theorem bytes_val {w : World} {B : Nat} {v : Value} {n : Nat} (h : Bytes w B v n) : ∃ ao cap, v = .slice ao n cap := by
  rcases h with ⟨rfl, ao, cap, rfl⟩ | ⟨_, b, off, cap, rfl, _⟩ <;> exact ⟨_, _, rfl⟩
theorem Bytes.chg {w w' : World} {B n lo hi : Nat} {v : Value} (h : Bytes w B v n) (c : Chg lo hi w w') (h1 : B ≤ lo ∨ hi ≤ lo) : Bytes w' B v n := by
  rcases h with h | ⟨hp, b, off, cap, hv, hb, hc⟩
  · exact .inl h
  · refine .inr ⟨hp, b, off, cap, hv, hb, fun j hj => ?_⟩
    obtain ⟨x, hx, hcx⟩ := hc j hj
    have hlt := World.block_lt_of_cell? w _ hcx
    refine ⟨x, hx, ?_⟩
    rw [World.cell?_of_block (w := w) (w' := w') (a := ⟨b, off + j, none⟩) (c.block b hlt (by omega))]
    exact hcx

/-- The source in block g: the bytes, how many steps were made (at most m), the seed. -/
def Src (w : World) (g : Nat) (v : Value) (n m : Nat) : Prop :=
  g < w.heap.size ∧ Bytes w g v n ∧ w.cell? ⟨g, 0, none⟩ = some v ∧
  (∃ k : Nat, k ≤ m ∧ w.cell? ⟨g, 1, none⟩ = some (.int .i64 (k : Int))) ∧ (∃ s : Nat, s < 18446744073709551616 ∧ w.cell? ⟨g, 2, none⟩ = some (.int .u64 (s : Int))) ∧
  w.frozen? ⟨g, 1, none⟩ = false ∧ w.frozen? ⟨g, 2, none⟩ = false

theorem Src.drewN {w : World} {g n m : Nat} {v : Value} (h : Src w g v n m) (q : Nat) : Src (w.drewN q) g v n m :=
  ⟨h.1, h.2.1.chg (lo := g) (hi := g) ⟨rfl, rfl, rfl, Nat.le_refl _, fun _ _ _ => rfl⟩ (.inl (Nat.le_refl _)), h.2.2⟩
theorem Src.more {w : World} {g n m : Nat} {v : Value} (h : Src w g v n m) (q : Nat) : Src w g v n (m + q) := by
  obtain ⟨a, b, c, ⟨k, hk, d⟩, r⟩ := h
  exact ⟨a, b, c, ⟨k, by omega, d⟩, r⟩
theorem src_set {w : World} {g n m k s : Nat} {v : Value} (h : Src w g v n m) (hk : k ≤ m) (hs : s < 18446744073709551616) :
    Src ((w.setCell ⟨g, 1, none⟩ (.int .i64 ((k : Int) + 1))).setCell ⟨g, 2, none⟩ (.int .u64 (s : Int))) g v n (m + 1) ∧
    Chg g (g + 1) w ((w.setCell ⟨g, 1, none⟩ (.int .i64 ((k : Int) + 1))).setCell ⟨g, 2, none⟩ (.int .u64 (s : Int))) ∧
    ((w.setCell ⟨g, 1, none⟩ (.int .i64 ((k : Int) + 1))).setCell ⟨g, 2, none⟩ (.int .u64 (s : Int))).cell? ⟨g, 0, none⟩ = some v ∧
    ((w.setCell ⟨g, 1, none⟩ (.int .i64 ((k : Int) + 1))).setCell ⟨g, 2, none⟩ (.int .u64 (s : Int))).cell? ⟨g, 1, none⟩ = some (.int .i64 ((k : Int) + 1)) ∧
    ((w.setCell ⟨g, 1, none⟩ (.int .i64 ((k : Int) + 1))).setCell ⟨g, 2, none⟩ (.int .u64 (s : Int))).cell? ⟨g, 2, none⟩ = some (.int .u64 (s : Int)) := by
  obtain ⟨hg, hby, h0, ⟨k', _, h1⟩, ⟨s', _, h2⟩, f1, f2⟩ := h
  have c1 : Chg g (g + 1) w (w.setCell ⟨g, 1, none⟩ (.int .i64 ((k : Int) + 1))) :=
    ⟨rfl, rfl, rfl, by simp, fun b hb hb' => heap_setCell_other _ _ _ _ (by intro e; simp at e; omega)⟩
  have c2 : Chg g (g + 1) (w.setCell ⟨g, 1, none⟩ (.int .i64 ((k : Int) + 1))) ((w.setCell ⟨g, 1, none⟩ (.int .i64 ((k : Int) + 1))).setCell ⟨g, 2, none⟩ (.int .u64 (s : Int))) :=
    ⟨rfl, rfl, rfl, by simp, fun b hb hb' => heap_setCell_other _ _ _ _ (by intro e; simp at e; omega)⟩
  have a0 : (w.setCell ⟨g, 1, none⟩ (.int .i64 ((k : Int) + 1))).cell? ⟨g, 0, none⟩ = some v := (World.cell?_setCell_other _ _ _ _ (by simp)).trans h0
  have a1 : (w.setCell ⟨g, 1, none⟩ (.int .i64 ((k : Int) + 1))).cell? ⟨g, 1, none⟩ = some (.int .i64 ((k : Int) + 1)) := World.cell?_setCell_same _ _ _ h1
  have a2 : (w.setCell ⟨g, 1, none⟩ (.int .i64 ((k : Int) + 1))).cell? ⟨g, 2, none⟩ = some (.int .u64 (s' : Int)) := (World.cell?_setCell_other _ _ _ _ (by simp)).trans h2
  have b0 := (World.cell?_setCell_other (w.setCell ⟨g, 1, none⟩ (.int .i64 ((k : Int) + 1))) ⟨g, 2, none⟩ ⟨g, 0, none⟩ (.int .u64 (s : Int)) (by simp)).trans a0
  have b1 := (World.cell?_setCell_other (w.setCell ⟨g, 1, none⟩ (.int .i64 ((k : Int) + 1))) ⟨g, 2, none⟩ ⟨g, 1, none⟩ (.int .u64 (s : Int)) (by simp)).trans a1
  have b2 := World.cell?_setCell_same (w.setCell ⟨g, 1, none⟩ (.int .i64 ((k : Int) + 1))) ⟨g, 2, none⟩ (.int .u64 (s : Int)) a2
  refine ⟨⟨by simpa using hg, hby.chg (c1.trans c2) (.inl (Nat.le_refl _)), b0, ⟨k + 1, by omega, by rw [b1]; simp⟩, ⟨s, hs, b2⟩, ?_, ?_⟩, c1.trans c2, b0, b1, b2⟩
  · rw [World.frozen?_setCell, World.frozen?_setCell]; exact f1
  · rw [World.frozen?_setCell, World.frozen?_setCell]; exact f2

theorem wrap_nat (z : Int) : ∃ s : Nat, IntKind.u64.wrap z = (s : Int) ∧ s < 18446744073709551616 := by
  have h : IntKind.u64.wrap z = z % 18446744073709551616 := IntKind.wrap_u64 z
  refine ⟨(z % 18446744073709551616).toNat, ?_, ?_⟩ <;> omega

end Go.Proofs.Ytfechjhngcmdpab.sr
