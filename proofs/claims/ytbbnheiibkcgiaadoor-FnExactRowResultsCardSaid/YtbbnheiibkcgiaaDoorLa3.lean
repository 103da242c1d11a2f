/-
  layOut of the program.
-/
import Derived.Test.YtbbnheiibkcgiaaDoorLa2
import Derived.Deep.RegionHeld3
import Derived.Deep.CutRange
namespace Go.Proofs.YtbbnheiibkcgiaaDoor.la
open Go.RowKit Go.Proofs.YtbbnheiibkcgiaaDoor.sl Go.Proofs.YtbbnheiibkcgiaaDoor.pm Go.Proofs.YtbbnheiibkcgiaaDoor.br Go.Proofs.YtbbnheiibkcgiaaDoor.bw Go.Proofs.YtbbnheiibkcgiaaDoor.st Go.Proofs.YtbbnheiibkcgiaaDoor.wk Go.Proofs.YtbbnheiibkcgiaaDoor.rl
set_option linter.unusedVariables false
set_option maxRecDepth 100000

theorem numT (xs : List Int) (v : Value) (B : Nat) (w : World) (ha : Ints w B v xs) (hB : B ≤ w.heap.size) (hl : lst xs = true) (hT : stb.Tab w) :
    Calls Tryd.prog 55 #[.func (.func 56) #[] #[], v] w fun e w' => ∃ v' vals, e = .returned v' ∧ SR w' w.heap.size v' vals (numL tk xs xs.length) ∧ Below w.heap.size w w' :=
  numb tk 56 xs v B w ha hB (lst_parts hl).1 (fun k hk => tk_bound ((lst_parts hl).2 k hk)) (fun x W' b => implTaken x W' (stb.carry hT b)) (fun _ _ => rfl)
theorem numM (xs : List Int) (v : Value) (B : Nat) (w : World) (ha : Ints w B v xs) (hB : B ≤ w.heap.size) (hl : lst xs = true) (hT : stb.Tab w) :
    Calls Tryd.prog 55 #[.func (.func 57) #[] #[], v] w fun e w' => ∃ v' vals, e = .returned v' ∧ SR w' w.heap.size v' vals (numL md xs xs.length) ∧ Below w.heap.size w w' :=
  numb md 57 xs v B w ha hB (lst_parts hl).1 (fun k hk => by have := md_bound ((lst_parts hl).2 k hk); omega) (fun x W' b => implMade x W' (stb.carry hT b)) (fun _ _ => rfl)

def zLaid : Value := .agg #[.int .i64 0, .int .i64 0, .slice none 0 0, .slice none 0 0, .slice none 0 0]
set_option maxHeartbeats 4000000 in
theorem layNo (d c : Int) (xs : List Int) (v : Value) (B : Nat) (w : World) (ha : Ints w B v xs) (hB : B ≤ w.heap.size) (hq : l5.Small xs) (hT : stb.Tab w) (h0 : ¬ laC d c xs = 0) :
    Calls Tryd.prog 42 #[.agg #[.int .i64 d, .int .i64 c, v]] w fun e w' => e = .returned (.tuple #[zLaid, .int .i64 (laC d c xs)]) ∧ Below w.heap.size w w' := by
  have b0 := (Below.refl w.heap.size w).alloc (Nat.le_refl _) (.cells #[.int .i64 d, .int .i64 c, v] 40)
  have b1 := b0.alloc (by simp) (.cells #[.int .i64 0, .int .i64 0, .slice none 0 0, .slice none 0 0, .slice none 0 0] 69)
  have HI := hid (fun W (b : Below w.heap.size w W) => implLay d c xs v B W (ha.chg (Chg.ofBelow (lo := 0) b) (.inr (Nat.zero_le _))) (Nat.le_trans hB b.size) hq (stb.carry hT b))
  have HB := hid b1
  have hd : (laC d c xs != 0) = true := by simpa using h0
  have hs : ((w.alloc (.cells #[.int .i64 d, .int .i64 c, v] 40)).alloc (.cells #[.int .i64 0, .int .i64 0, .slice none 0 0, .slice none 0 0, .slice none 0 0] 69)).heap.size = w.heap.size + 2 := by simp
  obtain ⟨ao, cap, hv⟩ := ints_val ha
  clear ha b0 b1 h0 hT hq
  generalize laC d c xs = cd at *
  obtain ⟨n, hn⟩ : ∃ n, n = xs.length := ⟨_, rfl⟩
  rw [← hn] at hv
  clear hn
  subst hv
  go_enter Tryd.func42, Tryd.ntmps42
  go_wp2_with fail
  refine (HI.out _ HB.out).mono ?_
  rintro e w1 ⟨rfl, b1⟩
  have HB1 := hid (HB.out.trans (b1.mono HB.out.size))
  have x0 := (b1.cell (p := ⟨w.heap.size + 1, 0, none⟩) (by show w.heap.size + 1 < _; omega)).trans (show ((w.alloc (.cells #[.int .i64 d, .int .i64 c, .slice ao n cap] 40)).alloc (.cells #[.int .i64 0, .int .i64 0, .slice none 0 0, .slice none 0 0, .slice none 0 0] 69)).cell? ⟨w.heap.size + 1, 0, none⟩ = some (.int .i64 0) from World.cell?_alloc_at _ _ _ _ (by simp))
  have y0 := (b1.frozen (p := ⟨w.heap.size + 1, 0, none⟩) (by show w.heap.size + 1 < _; omega)).trans (show ((w.alloc (.cells #[.int .i64 d, .int .i64 c, .slice ao n cap] 40)).alloc (.cells #[.int .i64 0, .int .i64 0, .slice none 0 0, .slice none 0 0, .slice none 0 0] 69)).frozen? ⟨w.heap.size + 1, 0, none⟩ = false from World.frozen?_alloc_at _ _ _ _ (by simp))
  have x1 := (b1.cell (p := ⟨w.heap.size + 1, 1, none⟩) (by show w.heap.size + 1 < _; omega)).trans (show ((w.alloc (.cells #[.int .i64 d, .int .i64 c, .slice ao n cap] 40)).alloc (.cells #[.int .i64 0, .int .i64 0, .slice none 0 0, .slice none 0 0, .slice none 0 0] 69)).cell? ⟨w.heap.size + 1, 1, none⟩ = some (.int .i64 0) from World.cell?_alloc_at _ _ _ _ (by simp))
  have y1 := (b1.frozen (p := ⟨w.heap.size + 1, 1, none⟩) (by show w.heap.size + 1 < _; omega)).trans (show ((w.alloc (.cells #[.int .i64 d, .int .i64 c, .slice ao n cap] 40)).alloc (.cells #[.int .i64 0, .int .i64 0, .slice none 0 0, .slice none 0 0, .slice none 0 0] 69)).frozen? ⟨w.heap.size + 1, 1, none⟩ = false from World.frozen?_alloc_at _ _ _ _ (by simp))
  have x2 := (b1.cell (p := ⟨w.heap.size + 1, 2, none⟩) (by show w.heap.size + 1 < _; omega)).trans (show ((w.alloc (.cells #[.int .i64 d, .int .i64 c, .slice ao n cap] 40)).alloc (.cells #[.int .i64 0, .int .i64 0, .slice none 0 0, .slice none 0 0, .slice none 0 0] 69)).cell? ⟨w.heap.size + 1, 2, none⟩ = some (.slice none 0 0) from World.cell?_alloc_at _ _ _ _ (by simp))
  have y2 := (b1.frozen (p := ⟨w.heap.size + 1, 2, none⟩) (by show w.heap.size + 1 < _; omega)).trans (show ((w.alloc (.cells #[.int .i64 d, .int .i64 c, .slice ao n cap] 40)).alloc (.cells #[.int .i64 0, .int .i64 0, .slice none 0 0, .slice none 0 0, .slice none 0 0] 69)).frozen? ⟨w.heap.size + 1, 2, none⟩ = false from World.frozen?_alloc_at _ _ _ _ (by simp))
  have x3 := (b1.cell (p := ⟨w.heap.size + 1, 3, none⟩) (by show w.heap.size + 1 < _; omega)).trans (show ((w.alloc (.cells #[.int .i64 d, .int .i64 c, .slice ao n cap] 40)).alloc (.cells #[.int .i64 0, .int .i64 0, .slice none 0 0, .slice none 0 0, .slice none 0 0] 69)).cell? ⟨w.heap.size + 1, 3, none⟩ = some (.slice none 0 0) from World.cell?_alloc_at _ _ _ _ (by simp))
  have y3 := (b1.frozen (p := ⟨w.heap.size + 1, 3, none⟩) (by show w.heap.size + 1 < _; omega)).trans (show ((w.alloc (.cells #[.int .i64 d, .int .i64 c, .slice ao n cap] 40)).alloc (.cells #[.int .i64 0, .int .i64 0, .slice none 0 0, .slice none 0 0, .slice none 0 0] 69)).frozen? ⟨w.heap.size + 1, 3, none⟩ = false from World.frozen?_alloc_at _ _ _ _ (by simp))
  have x4 := (b1.cell (p := ⟨w.heap.size + 1, 4, none⟩) (by show w.heap.size + 1 < _; omega)).trans (show ((w.alloc (.cells #[.int .i64 d, .int .i64 c, .slice ao n cap] 40)).alloc (.cells #[.int .i64 0, .int .i64 0, .slice none 0 0, .slice none 0 0, .slice none 0 0] 69)).cell? ⟨w.heap.size + 1, 4, none⟩ = some (.slice none 0 0) from World.cell?_alloc_at _ _ _ _ (by simp))
  have y4 := (b1.frozen (p := ⟨w.heap.size + 1, 4, none⟩) (by show w.heap.size + 1 < _; omega)).trans (show ((w.alloc (.cells #[.int .i64 d, .int .i64 c, .slice ao n cap] 40)).alloc (.cells #[.int .i64 0, .int .i64 0, .slice none 0 0, .slice none 0 0, .slice none 0 0] 69)).frozen? ⟨w.heap.size + 1, 4, none⟩ = false from World.frozen?_alloc_at _ _ _ _ (by simp))
  clear b1 hs
  go_wp2
  refine bodyPost_ret (v := .tuple #[zLaid, .int .i64 cd]) (by simp [results, Tryd.results42, go_sem, x0, x1, x2, x3, x4, zLaid]) rfl ⟨rfl, ?_⟩
  repeat (first | exact HB1.out | refine Below.setCell ?_ (by simp) _)

set_option maxHeartbeats 4000000 in
theorem layYes (d c : Int) (xs : List Int) (v : Value) (B : Nat) (w : World) (ha : Ints w B v xs) (hB : B ≤ w.heap.size) (hq : l5.Small xs) (hT : stb.Tab w) (h0 : laC d c xs = 0) :
    Calls Tryd.prog 42 #[.agg #[.int .i64 d, .int .i64 c, v]] w fun e w' => ∃ v1 vals1 v2 vals2, e = .returned (.tuple #[.agg #[.int .i64 d, .int .i64 c, v, v1, v2], .int .i64 0]) ∧ SR w' w.heap.size v1 vals1 (numL tk xs xs.length) ∧ SR w' w.heap.size v2 vals2 (numL md xs xs.length) ∧ Below w.heap.size w w' := by
  have b0 := (Below.refl w.heap.size w).alloc (Nat.le_refl _) (.cells #[.int .i64 d, .int .i64 c, v] 40)
  have b1 := b0.alloc (by simp) (.cells #[.int .i64 0, .int .i64 0, .slice none 0 0, .slice none 0 0, .slice none 0 0] 69)
  have HI := hid (fun W (b : Below w.heap.size w W) => implLay d c xs v B W (ha.chg (Chg.ofBelow (lo := 0) b) (.inr (Nat.zero_le _))) (Nat.le_trans hB b.size) hq (stb.carry hT b))
  have HT := hid (fun W (b : Below w.heap.size w W) => numT xs v B W (ha.chg (Chg.ofBelow (lo := 0) b) (.inr (Nat.zero_le _))) (Nat.le_trans hB b.size) (row_lst (la_row h0)) (stb.carry hT b))
  have HM := hid (fun W (b : Below w.heap.size w W) => numM xs v B W (ha.chg (Chg.ofBelow (lo := 0) b) (.inr (Nat.zero_le _))) (Nat.le_trans hB b.size) (row_lst (la_row h0)) (stb.carry hT b))
  have HB := hid b1
  have hs : ((w.alloc (.cells #[.int .i64 d, .int .i64 c, v] 40)).alloc (.cells #[.int .i64 0, .int .i64 0, .slice none 0 0, .slice none 0 0, .slice none 0 0] 69)).heap.size = w.heap.size + 2 := by simp
  obtain ⟨ao, cap, hv⟩ := ints_val ha
  have hL1 := numL_len tk xs xs.length
  have hL2 := numL_len md xs xs.length
  rw [h0] at HI
  clear ha b0 b1 h0 hT hq
  generalize numL tk xs xs.length = L1 at *
  generalize numL md xs xs.length = L2 at *
  obtain ⟨n, hn⟩ : ∃ n, n = xs.length := ⟨_, rfl⟩
  rw [← hn] at hv hL1 hL2
  clear hn
  have HT := hid (fun W (b : Below w.heap.size w W) => (HT.out W b).mono fun e w' h => show ∃ a c vals, e = .returned (.slice a n c) ∧ SR w' W.heap.size (.slice a n c) vals L1 ∧ Below W.heap.size W w' from by obtain ⟨u, vals, rfl, s, b⟩ := h; obtain ⟨a, c, rfl⟩ := s.val; rw [hL1] at s ⊢; exact ⟨a, c, vals, rfl, s, b⟩)
  have HM := hid (fun W (b : Below w.heap.size w W) => (HM.out W b).mono fun e w' h => show ∃ a c vals, e = .returned (.slice a n c) ∧ SR w' W.heap.size (.slice a n c) vals L2 ∧ Below W.heap.size W w' from by obtain ⟨u, vals, rfl, s, b⟩ := h; obtain ⟨a, c, rfl⟩ := s.val; rw [hL2] at s ⊢; exact ⟨a, c, vals, rfl, s, b⟩)
  clear hL1 hL2
  subst hv
  go_enter Tryd.func42, Tryd.ntmps42
  go_wp2_with fail
  refine (HI.out _ HB.out).mono ?_
  rintro e w1 ⟨rfl, b1⟩
  have HB1 := hid (HB.out.trans (b1.mono HB.out.size))
  have hz1 : w.heap.size + 2 ≤ w1.heap.size := by have := b1.size; omega
  have x0 := (b1.cell (p := ⟨w.heap.size + 1, 0, none⟩) (by show w.heap.size + 1 < _; omega)).trans (show ((w.alloc (.cells #[.int .i64 d, .int .i64 c, .slice ao n cap] 40)).alloc (.cells #[.int .i64 0, .int .i64 0, .slice none 0 0, .slice none 0 0, .slice none 0 0] 69)).cell? ⟨w.heap.size + 1, 0, none⟩ = some (.int .i64 0) from World.cell?_alloc_at _ _ _ _ (by simp))
  have y0 := (b1.frozen (p := ⟨w.heap.size + 1, 0, none⟩) (by show w.heap.size + 1 < _; omega)).trans (show ((w.alloc (.cells #[.int .i64 d, .int .i64 c, .slice ao n cap] 40)).alloc (.cells #[.int .i64 0, .int .i64 0, .slice none 0 0, .slice none 0 0, .slice none 0 0] 69)).frozen? ⟨w.heap.size + 1, 0, none⟩ = false from World.frozen?_alloc_at _ _ _ _ (by simp))
  have x1 := (b1.cell (p := ⟨w.heap.size + 1, 1, none⟩) (by show w.heap.size + 1 < _; omega)).trans (show ((w.alloc (.cells #[.int .i64 d, .int .i64 c, .slice ao n cap] 40)).alloc (.cells #[.int .i64 0, .int .i64 0, .slice none 0 0, .slice none 0 0, .slice none 0 0] 69)).cell? ⟨w.heap.size + 1, 1, none⟩ = some (.int .i64 0) from World.cell?_alloc_at _ _ _ _ (by simp))
  have y1 := (b1.frozen (p := ⟨w.heap.size + 1, 1, none⟩) (by show w.heap.size + 1 < _; omega)).trans (show ((w.alloc (.cells #[.int .i64 d, .int .i64 c, .slice ao n cap] 40)).alloc (.cells #[.int .i64 0, .int .i64 0, .slice none 0 0, .slice none 0 0, .slice none 0 0] 69)).frozen? ⟨w.heap.size + 1, 1, none⟩ = false from World.frozen?_alloc_at _ _ _ _ (by simp))
  have x2 := (b1.cell (p := ⟨w.heap.size + 1, 2, none⟩) (by show w.heap.size + 1 < _; omega)).trans (show ((w.alloc (.cells #[.int .i64 d, .int .i64 c, .slice ao n cap] 40)).alloc (.cells #[.int .i64 0, .int .i64 0, .slice none 0 0, .slice none 0 0, .slice none 0 0] 69)).cell? ⟨w.heap.size + 1, 2, none⟩ = some (.slice none 0 0) from World.cell?_alloc_at _ _ _ _ (by simp))
  have y2 := (b1.frozen (p := ⟨w.heap.size + 1, 2, none⟩) (by show w.heap.size + 1 < _; omega)).trans (show ((w.alloc (.cells #[.int .i64 d, .int .i64 c, .slice ao n cap] 40)).alloc (.cells #[.int .i64 0, .int .i64 0, .slice none 0 0, .slice none 0 0, .slice none 0 0] 69)).frozen? ⟨w.heap.size + 1, 2, none⟩ = false from World.frozen?_alloc_at _ _ _ _ (by simp))
  have x3 := (b1.cell (p := ⟨w.heap.size + 1, 3, none⟩) (by show w.heap.size + 1 < _; omega)).trans (show ((w.alloc (.cells #[.int .i64 d, .int .i64 c, .slice ao n cap] 40)).alloc (.cells #[.int .i64 0, .int .i64 0, .slice none 0 0, .slice none 0 0, .slice none 0 0] 69)).cell? ⟨w.heap.size + 1, 3, none⟩ = some (.slice none 0 0) from World.cell?_alloc_at _ _ _ _ (by simp))
  have y3 := (b1.frozen (p := ⟨w.heap.size + 1, 3, none⟩) (by show w.heap.size + 1 < _; omega)).trans (show ((w.alloc (.cells #[.int .i64 d, .int .i64 c, .slice ao n cap] 40)).alloc (.cells #[.int .i64 0, .int .i64 0, .slice none 0 0, .slice none 0 0, .slice none 0 0] 69)).frozen? ⟨w.heap.size + 1, 3, none⟩ = false from World.frozen?_alloc_at _ _ _ _ (by simp))
  have x4 := (b1.cell (p := ⟨w.heap.size + 1, 4, none⟩) (by show w.heap.size + 1 < _; omega)).trans (show ((w.alloc (.cells #[.int .i64 d, .int .i64 c, .slice ao n cap] 40)).alloc (.cells #[.int .i64 0, .int .i64 0, .slice none 0 0, .slice none 0 0, .slice none 0 0] 69)).cell? ⟨w.heap.size + 1, 4, none⟩ = some (.slice none 0 0) from World.cell?_alloc_at _ _ _ _ (by simp))
  have y4 := (b1.frozen (p := ⟨w.heap.size + 1, 4, none⟩) (by show w.heap.size + 1 < _; omega)).trans (show ((w.alloc (.cells #[.int .i64 d, .int .i64 c, .slice ao n cap] 40)).alloc (.cells #[.int .i64 0, .int .i64 0, .slice none 0 0, .slice none 0 0, .slice none 0 0] 69)).frozen? ⟨w.heap.size + 1, 4, none⟩ = false from World.frozen?_alloc_at _ _ _ _ (by simp))
  have j0 := (b1.cell (p := ⟨w.heap.size, 0, none⟩) (by show w.heap.size < _; omega)).trans (show ((w.alloc (.cells #[.int .i64 d, .int .i64 c, .slice ao n cap] 40)).alloc (.cells #[.int .i64 0, .int .i64 0, .slice none 0 0, .slice none 0 0, .slice none 0 0] 69)).cell? ⟨w.heap.size, 0, none⟩ = some (.int .i64 d) from (World.cell?_alloc_past _ _ _ (by simp)).trans (World.cell?_alloc_at _ _ _ _ rfl))
  have j1 := (b1.cell (p := ⟨w.heap.size, 1, none⟩) (by show w.heap.size < _; omega)).trans (show ((w.alloc (.cells #[.int .i64 d, .int .i64 c, .slice ao n cap] 40)).alloc (.cells #[.int .i64 0, .int .i64 0, .slice none 0 0, .slice none 0 0, .slice none 0 0] 69)).cell? ⟨w.heap.size, 1, none⟩ = some (.int .i64 c) from (World.cell?_alloc_past _ _ _ (by simp)).trans (World.cell?_alloc_at _ _ _ _ rfl))
  have j2 := (b1.cell (p := ⟨w.heap.size, 2, none⟩) (by show w.heap.size < _; omega)).trans (show ((w.alloc (.cells #[.int .i64 d, .int .i64 c, .slice ao n cap] 40)).alloc (.cells #[.int .i64 0, .int .i64 0, .slice none 0 0, .slice none 0 0, .slice none 0 0] 69)).cell? ⟨w.heap.size, 2, none⟩ = some (.slice ao n cap) from (World.cell?_alloc_past _ _ _ (by simp)).trans (World.cell?_alloc_at _ _ _ _ rfl))
  clear b1 hs
  have HT := hid (fun W (b : Below w1.heap.size w1 W) => HT.out W (HB1.out.trans (b.mono HB1.out.size)))
  have HM := hid (fun W (b : Below w1.heap.size w1 W) => HM.out W (HB1.out.trans (b.mono HB1.out.size)))
  have bD := hid ((Below.refl w1.heap.size w1).drew)
  go_wp2_with fail
  go_region_held3 (fun w' => w'.cell? ⟨w.heap.size, 0, none⟩ = some (.int .i64 d) ∧ w'.cell? ⟨w.heap.size, 1, none⟩ = some (.int .i64 c) ∧ w'.cell? ⟨w.heap.size, 2, none⟩ = some (.slice ao n cap)) (go_keep)
    (first
    | (go_at_call 55
       have hchk := HFB
       with_reducible refine (HT.out _ HBw2.out).mono ?_
       rintro e w3 ⟨aA, cA, valsA, rfl, sA, b3⟩
       have HGA := hid (sA.low (lo' := w1.heap.size) HBw2.out.size)
       have HGB := hid (HFB.out.below b3)
       have HBw3 := hid (HBw2.out.trans (b3.mono HBw2.out.size))
       have l0 := (b3.cell (p := ⟨w.heap.size, 0, none⟩) (by show w.heap.size < w2.heap.size; omega)).trans m0
       have l1 := (b3.cell (p := ⟨w.heap.size, 1, none⟩) (by show w.heap.size < w2.heap.size; omega)).trans m1
       have l2 := (b3.cell (p := ⟨w.heap.size, 2, none⟩) (by show w.heap.size < w2.heap.size; omega)).trans m2
       have xw0 := (b3.cell (p := ⟨w.heap.size + 1, 0, none⟩) (by show w.heap.size + 1 < w2.heap.size; omega)).trans xx0
       have yw0 := (b3.frozen (p := ⟨w.heap.size + 1, 0, none⟩) (by show w.heap.size + 1 < w2.heap.size; omega)).trans yy0
       have xw1 := (b3.cell (p := ⟨w.heap.size + 1, 1, none⟩) (by show w.heap.size + 1 < w2.heap.size; omega)).trans xx1
       have yw1 := (b3.frozen (p := ⟨w.heap.size + 1, 1, none⟩) (by show w.heap.size + 1 < w2.heap.size; omega)).trans yy1
       have xw2 := (b3.cell (p := ⟨w.heap.size + 1, 2, none⟩) (by show w.heap.size + 1 < w2.heap.size; omega)).trans xx2
       have yw2 := (b3.frozen (p := ⟨w.heap.size + 1, 2, none⟩) (by show w.heap.size + 1 < w2.heap.size; omega)).trans yy2
       have xw3 := (b3.cell (p := ⟨w.heap.size + 1, 3, none⟩) (by show w.heap.size + 1 < w2.heap.size; omega)).trans xx3
       have yw3 := (b3.frozen (p := ⟨w.heap.size + 1, 3, none⟩) (by show w.heap.size + 1 < w2.heap.size; omega)).trans yy3
       have xw4 := (b3.cell (p := ⟨w.heap.size + 1, 4, none⟩) (by show w.heap.size + 1 < w2.heap.size; omega)).trans xx4
       have yw4 := (b3.frozen (p := ⟨w.heap.size + 1, 4, none⟩) (by show w.heap.size + 1 < w2.heap.size; omega)).trans yy4
       clear b3 sA hchk HFB m0 m1 m2 xx0 yy0 xx1 yy1 xx2 yy2 xx3 yy3 xx4 yy4)
    | (go_at_call 55
       have hchk := HFA
       with_reducible refine (HM.out _ HBw2.out).mono ?_
       rintro e w3 ⟨aB, cB, valsB, rfl, sB, b3⟩
       have HGB := hid (sB.low (lo' := w1.heap.size) HBw2.out.size)
       have HGA := hid (HFA.out.below b3)
       have HBw3 := hid (HBw2.out.trans (b3.mono HBw2.out.size))
       have l0 := (b3.cell (p := ⟨w.heap.size, 0, none⟩) (by show w.heap.size < w2.heap.size; omega)).trans m0
       have l1 := (b3.cell (p := ⟨w.heap.size, 1, none⟩) (by show w.heap.size < w2.heap.size; omega)).trans m1
       have l2 := (b3.cell (p := ⟨w.heap.size, 2, none⟩) (by show w.heap.size < w2.heap.size; omega)).trans m2
       have xw0 := (b3.cell (p := ⟨w.heap.size + 1, 0, none⟩) (by show w.heap.size + 1 < w2.heap.size; omega)).trans xx0
       have yw0 := (b3.frozen (p := ⟨w.heap.size + 1, 0, none⟩) (by show w.heap.size + 1 < w2.heap.size; omega)).trans yy0
       have xw1 := (b3.cell (p := ⟨w.heap.size + 1, 1, none⟩) (by show w.heap.size + 1 < w2.heap.size; omega)).trans xx1
       have yw1 := (b3.frozen (p := ⟨w.heap.size + 1, 1, none⟩) (by show w.heap.size + 1 < w2.heap.size; omega)).trans yy1
       have xw2 := (b3.cell (p := ⟨w.heap.size + 1, 2, none⟩) (by show w.heap.size + 1 < w2.heap.size; omega)).trans xx2
       have yw2 := (b3.frozen (p := ⟨w.heap.size + 1, 2, none⟩) (by show w.heap.size + 1 < w2.heap.size; omega)).trans yy2
       have xw3 := (b3.cell (p := ⟨w.heap.size + 1, 3, none⟩) (by show w.heap.size + 1 < w2.heap.size; omega)).trans xx3
       have yw3 := (b3.frozen (p := ⟨w.heap.size + 1, 3, none⟩) (by show w.heap.size + 1 < w2.heap.size; omega)).trans yy3
       have xw4 := (b3.cell (p := ⟨w.heap.size + 1, 4, none⟩) (by show w.heap.size + 1 < w2.heap.size; omega)).trans xx4
       have yw4 := (b3.frozen (p := ⟨w.heap.size + 1, 4, none⟩) (by show w.heap.size + 1 < w2.heap.size; omega)).trans yy4
       clear b3 sB hchk HFA m0 m1 m2 xx0 yy0 xx1 yy1 xx2 yy2 xx3 yy3 xx4 yy4)
    | (go_at_call 55
       with_reducible refine (HT.out _ bD.out).mono ?_
       rintro e w2 ⟨aA, cA, valsA, rfl, sA, b2⟩
       have HFA := hid (show SR w2 w1.heap.size _ _ _ from sA)
       have HBw2 := hid (bD.out.trans b2)
       have hz2 := HBw2.out.size
       have m0 := (b2.cell (p := ⟨w.heap.size, 0, none⟩) (by show w.heap.size < w1.heap.size; omega)).trans j0
       have m1 := (b2.cell (p := ⟨w.heap.size, 1, none⟩) (by show w.heap.size < w1.heap.size; omega)).trans j1
       have m2 := (b2.cell (p := ⟨w.heap.size, 2, none⟩) (by show w.heap.size < w1.heap.size; omega)).trans j2
       have xx0 := (b2.cell (p := ⟨w.heap.size + 1, 0, none⟩) (by show w.heap.size + 1 < w1.heap.size; omega)).trans x0
       have yy0 := (b2.frozen (p := ⟨w.heap.size + 1, 0, none⟩) (by show w.heap.size + 1 < w1.heap.size; omega)).trans y0
       have xx1 := (b2.cell (p := ⟨w.heap.size + 1, 1, none⟩) (by show w.heap.size + 1 < w1.heap.size; omega)).trans x1
       have yy1 := (b2.frozen (p := ⟨w.heap.size + 1, 1, none⟩) (by show w.heap.size + 1 < w1.heap.size; omega)).trans y1
       have xx2 := (b2.cell (p := ⟨w.heap.size + 1, 2, none⟩) (by show w.heap.size + 1 < w1.heap.size; omega)).trans x2
       have yy2 := (b2.frozen (p := ⟨w.heap.size + 1, 2, none⟩) (by show w.heap.size + 1 < w1.heap.size; omega)).trans y2
       have xx3 := (b2.cell (p := ⟨w.heap.size + 1, 3, none⟩) (by show w.heap.size + 1 < w1.heap.size; omega)).trans x3
       have yy3 := (b2.frozen (p := ⟨w.heap.size + 1, 3, none⟩) (by show w.heap.size + 1 < w1.heap.size; omega)).trans y3
       have xx4 := (b2.cell (p := ⟨w.heap.size + 1, 4, none⟩) (by show w.heap.size + 1 < w1.heap.size; omega)).trans x4
       have yy4 := (b2.frozen (p := ⟨w.heap.size + 1, 4, none⟩) (by show w.heap.size + 1 < w1.heap.size; omega)).trans y4
       clear b2 sA j0 j1 j2 x0 y0 x1 y1 x2 y2 x3 y3 x4 y4)
    | (go_at_call 55
       with_reducible refine (HM.out _ bD.out).mono ?_
       rintro e w2 ⟨aB, cB, valsB, rfl, sB, b2⟩
       have HFB := hid (show SR w2 w1.heap.size _ _ _ from sB)
       have HBw2 := hid (bD.out.trans b2)
       have hz2 := HBw2.out.size
       have m0 := (b2.cell (p := ⟨w.heap.size, 0, none⟩) (by show w.heap.size < w1.heap.size; omega)).trans j0
       have m1 := (b2.cell (p := ⟨w.heap.size, 1, none⟩) (by show w.heap.size < w1.heap.size; omega)).trans j1
       have m2 := (b2.cell (p := ⟨w.heap.size, 2, none⟩) (by show w.heap.size < w1.heap.size; omega)).trans j2
       have xx0 := (b2.cell (p := ⟨w.heap.size + 1, 0, none⟩) (by show w.heap.size + 1 < w1.heap.size; omega)).trans x0
       have yy0 := (b2.frozen (p := ⟨w.heap.size + 1, 0, none⟩) (by show w.heap.size + 1 < w1.heap.size; omega)).trans y0
       have xx1 := (b2.cell (p := ⟨w.heap.size + 1, 1, none⟩) (by show w.heap.size + 1 < w1.heap.size; omega)).trans x1
       have yy1 := (b2.frozen (p := ⟨w.heap.size + 1, 1, none⟩) (by show w.heap.size + 1 < w1.heap.size; omega)).trans y1
       have xx2 := (b2.cell (p := ⟨w.heap.size + 1, 2, none⟩) (by show w.heap.size + 1 < w1.heap.size; omega)).trans x2
       have yy2 := (b2.frozen (p := ⟨w.heap.size + 1, 2, none⟩) (by show w.heap.size + 1 < w1.heap.size; omega)).trans y2
       have xx3 := (b2.cell (p := ⟨w.heap.size + 1, 3, none⟩) (by show w.heap.size + 1 < w1.heap.size; omega)).trans x3
       have yy3 := (b2.frozen (p := ⟨w.heap.size + 1, 3, none⟩) (by show w.heap.size + 1 < w1.heap.size; omega)).trans y3
       have xx4 := (b2.cell (p := ⟨w.heap.size + 1, 4, none⟩) (by show w.heap.size + 1 < w1.heap.size; omega)).trans x4
       have yy4 := (b2.frozen (p := ⟨w.heap.size + 1, 4, none⟩) (by show w.heap.size + 1 < w1.heap.size; omega)).trans y4
       clear b2 sB j0 j1 j2 x0 y0 x1 y1 x2 y2 x3 y3 x4 y4))
  all_goals
    have hz3 := HBw3.out.size
    have HCs := hid (chg_set (i := 4) (chg_set (i := 3) (chg_set (i := 2) (chg_set (i := 1) (chg_set (i := 0) (Chg.refl (w.heap.size + 1) (w.heap.size + 2) w3) (.int .i64 d) (Nat.le_refl _) (by omega)) (.int .i64 c) (Nat.le_refl _) (by omega)) (.slice ao n cap) (Nat.le_refl _) (by omega)) (.slice aA n cA) (Nat.le_refl _) (by omega)) (.slice aB n cB) (Nat.le_refl _) (by omega))
    go_wp2
    refine bodyPost_ret (v := .tuple #[.agg #[.int .i64 d, .int .i64 c, .slice ao n cap, .slice aA n cA, .slice aB n cB], .int .i64 0]) (by simp [results, Tryd.results42, go_sem, xw0, xw1, xw2, xw3, xw4]) rfl ⟨_, _, _, _, rfl, (srx.sr_chg HGA.out HCs.out (by omega)).low (by omega), (srx.sr_chg HGB.out HCs.out (by omega)).low (by omega), ?_⟩
    have hbf := HB1.out.trans (HBw3.out.mono HB1.out.size)
    repeat (first | exact hbf | refine Below.setCell ?_ (by simp) _)
end Go.Proofs.YtbbnheiibkcgiaaDoor.la
