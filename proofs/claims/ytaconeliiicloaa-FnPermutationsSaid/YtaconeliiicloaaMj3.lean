/-
  Sorting by a pair set: contracts of math/bits.Len below 13, pdqsortCmpFunc (at most twelve things) and slices.SortFunc with the closure.
-/
import Derived.Test.YtaconeliiicloaaMj2
namespace Go.Proofs.Ytaconeliiicloaa.mj
open Go.RowKit Go.Proofs.Ytaconeliiicloaa.sl Go.Proofs.Ytaconeliiicloaa.bt Go.Proofs.Ytaconeliiicloaa.la

set_option maxRecDepth 100000 in
theorem len64 (x : Nat) (hx : x ≤ 12) (w : World) : Calls Try.prog 147 #[.int .u64 x] w fun e w' => (∃ l : Int, e = .returned (.int .i64 l)) ∧ w' = w := by
  have h1 : decide ((4294967296 : Int) ≤ (x : Int)) = false := by simp; omega
  have h2 : decide ((65536 : Int) ≤ (x : Int)) = false := by simp; omega
  have h3 : decide ((256 : Int) ≤ (x : Int)) = false := by simp; omega
  go_enter Try.func147, Try.ntmps147
  have hs : x < Lib.len8tab.size := by
    have : Lib.len8tab.size = 256 := by kernel_rfl
    omega
  go_wp2
  go_ret
  exact ⟨⟨_, rfl⟩, rfl⟩

theorem len (x : Nat) (hx : x ≤ 12) (w : World) : Calls Try.prog 114 #[.int .u64 x] w fun e w' => (∃ l : Int, e = .returned (.int .i64 l)) ∧ w' = w := by
  go_enter Try.func114, Try.ntmps114
  go_wp2_with fail
  refine (len64 x hx w).mono ?_
  rintro e w1 ⟨⟨l, rfl⟩, rfl⟩
  go_wp2
  go_ret
  exact ⟨⟨_, rfl⟩, rfl⟩

/-- What a sort by the pair set is told. -/
structure Told (f : Nat → Nat) (c g n cap lo hi : Nat) (L : List Nat) (w : World) : Prop where
  len : n = L.length
  n12 : n ≤ 12
  small : ∀ x ∈ L, x < 12
  rows : ∀ i, i < 12 → f i < 65536
  asym : ∀ x y, ltB f x y = true → ltB f y x = false
  ntr : ∀ x y z, ltB f x y = false → ltB f y z = false → ltB f x z = false
  mine : Own w lo hi (.slice (some ⟨g, 0, none⟩) n cap) (nums L)
  box : Rows12 w c 79 f
  far : ¬ (lo ≤ c ∧ c < hi)

end Go.Proofs.Ytaconeliiicloaa.mj
