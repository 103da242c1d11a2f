/-
  Sorting by a pair set: contracts of math/bits.Len below 13, pdqsortCmpFunc (at most twelve things) and slices.SortFunc with the closure.
-/
import Derived.Test.YtnnbhgiaaelkiabMj2
namespace Go.Proofs.Ytnnbhgiaaelkiab.mj
open Go.RowKit Go.Proofs.Ytnnbhgiaaelkiab.sl Go.Proofs.Ytnnbhgiaaelkiab.bt Go.Proofs.Ytnnbhgiaaelkiab.la

set_option maxRecDepth 100000 in
theorem len64 (x : Nat) (hx : x ≤ 12) (w : World) : Calls Try.prog 103 #[.int .u64 x] w fun e w' => (∃ l : Int, e = .returned (.int .i64 l)) ∧ w' = w := by
  have h1 : decide ((4294967296 : Int) ≤ (x : Int)) = false := by simp; omega
  have h2 : decide ((65536 : Int) ≤ (x : Int)) = false := by simp; omega
  have h3 : decide ((256 : Int) ≤ (x : Int)) = false := by simp; omega
  go_enter Try.func103, Try.ntmps103
  have hs : x < Lib.len8tab.size := by
    have : Lib.len8tab.size = 256 := by kernel_rfl
    omega
  go_wp2
  go_ret
  exact ⟨⟨_, rfl⟩, rfl⟩

theorem len (x : Nat) (hx : x ≤ 12) (w : World) : Calls Try.prog 92 #[.int .u64 x] w fun e w' => (∃ l : Int, e = .returned (.int .i64 l)) ∧ w' = w := by
  go_enter Try.func92, Try.ntmps92
  go_wp2_with fail
  refine (len64 x hx w).mono ?_
  rintro e w1 ⟨⟨l, rfl⟩, rfl⟩
  go_wp2
  go_ret
  exact ⟨⟨_, rfl⟩, rfl⟩

/-- What a sort by the pair set is told. -/
structure Told (f : Nat → Nat) (c g n cap lo hi : Nat) (L : List Nat) (w : World) : Prop where
  len : n = L.length
  n12 : n ≤ 12
  small : ∀ x ∈ L, x < 12
  rows : ∀ i, i < 12 → f i < 65536
  asym : ∀ x y, ltB f x y = true → ltB f y x = false
  ntr : ∀ x y z, ltB f x y = false → ltB f y z = false → ltB f x z = false
  mine : Own w lo hi (.slice (some ⟨g, 0, none⟩) n cap) (nums L)
  box : Rows12 w c 86 f
  far : ¬ (lo ≤ c ∧ c < hi)

set_option maxRecDepth 100000 in
theorem pdq (f : Nat → Nat) (c g n cap lo hi : Nat) (L : List Nat) (lim : Int) (w : World) (H : Told f c g n cap lo hi L w) :
    Calls Try.prog 91 #[.slice (some ⟨g, 0, none⟩) n cap, .int .i64 0, .int .i64 n, .int .i64 lim, .func (.func 89) #[] #[.pointer (some ⟨c, 0, none⟩)]] w fun e w' =>
      e = .returned (.tuple #[]) ∧ ∃ L', L'.Perm L ∧ SortedTo (ltB f) L' n ∧ Own w' lo hi (.slice (some ⟨g, 0, none⟩) n cap) (nums L') ∧ Chg lo hi w w' := by
  have HI := hid (insSort f c g n cap lo hi L w H.len H.n12 H.small H.rows H.asym H.ntr H.mine H.box H.far)
  have hn12 := H.n12
  have hd : decide ((n : Int) ≤ 12) = true := by simp; omega
  clear H
  go_enter Try.func91, Try.ntmps91
  go_wp2
  refine wp_loop_rounds 1 ?_
  rw [rounds_succ]
  go_wp2_with fail
  refine HI.out.mono ?_
  rintro e w1 ⟨rfl, L1, h1, h2, h3, h4⟩
  have H1 := hid h1
  have H2 := hid h2
  have H3 := hid h3
  have H4 := hid h4
  clear h1 h2 h3 h4 HI
  go_wp2
  (try simp only [Exit.inBlock, Exit.then])
  refine bodyPost_ret (results_none rfl _ _ _) rfl ?_
  exact ⟨rfl, L1, H1.out, H2.out, H3.out, H4.out⟩

set_option maxRecDepth 100000 in
theorem sort (f : Nat → Nat) (c g n cap lo hi : Nat) (L : List Nat) (w : World) (H : Told f c g n cap lo hi L w) :
    Calls Try.prog 88 #[.slice (some ⟨g, 0, none⟩) n cap, .func (.func 89) #[] #[.pointer (some ⟨c, 0, none⟩)]] w fun e w' =>
      e = .returned (.tuple #[]) ∧ ∃ L', L'.Perm L ∧ SortedTo (ltB f) L' n ∧ Own w' lo hi (.slice (some ⟨g, 0, none⟩) n cap) (nums L') ∧ Chg lo hi w w' := by
  have HI := hid (fun l => pdq f c g n cap lo hi L l w H)
  have hn12 := H.n12
  clear H
  go_enter Try.func88, Try.ntmps88
  go_wp2_with fail
  refine (len n hn12 w).mono ?_
  rintro e w1 ⟨⟨l, rfl⟩, rfl⟩
  go_wp2_with fail
  refine (HI.out l).mono ?_
  rintro e w2 ⟨rfl, L1, h1, h2, h3, h4⟩
  have H1 := hid h1
  have H2 := hid h2
  have H3 := hid h3
  have H4 := hid h4
  clear h1 h2 h3 h4 HI
  go_wp2
  go_end0
  exact ⟨rfl, L1, H1.out, H2.out, H3.out, H4.out⟩

end Go.Proofs.Ytnnbhgiaaelkiab.mj
