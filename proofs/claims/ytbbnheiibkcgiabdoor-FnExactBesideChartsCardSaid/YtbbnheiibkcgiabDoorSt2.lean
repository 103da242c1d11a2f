/-
  Lists of stitches: a test of all elements (impl.allAre), areStitches, areColumns, l14Ok, l14Stacks.
-/
import Derived.Test.YtbbnheiibkcgiabDoorSt1
import Derived.Test.YtbbnheiibkcgiabDoorFv
namespace Go.Proofs.YtbbnheiibkcgiabDoor.st
open Go.RowKit Go.Proofs.YtbbnheiibkcgiabDoor.sl Go.Proofs.YtbbnheiibkcgiabDoor.pm Go.Proofs.YtbbnheiibkcgiabDoor.br
set_option linter.unusedVariables false
set_option maxRecDepth 100000

theorem any_not (p : Int → Bool) (xs : List Int) : (!(xs.any fun x => !p x)) = xs.all p := by
  induction xs with
  | nil => rfl
  | cons x xs ih => simp only [List.any_cons, List.all_cons, Bool.not_or, Bool.not_not, ih]

theorem implAll1 (g : Nat) (p : Int → Bool) (b : Nat) (x : Int) (w : World) (h0 : w.cell? ⟨b, 0, none⟩ = some (.func (.func g) #[] #[]))
    (eg : ∀ args w, (callFunc g args).run Tryd.prog w = .ok (.enter g args) w) (hg : ∀ W : World, Calls Tryd.prog g #[.int .i64 x] W fun e w' => e = .returned (.bool (p x)) ∧ W = w') :
    Calls Tryd.prog 88 #[.int .i64 x, .pointer (some ⟨b, 0, none⟩)] w fun e w' => e = .returned (.bool (!(p x))) ∧ Below w.heap.size w w' := by
  have HG := hid hg
  clear hg
  generalize p x = q at *
  go_enter Tryd.func88, Tryd.ntmps88
  go_wp2_with fail
  refine (HG.out _).mono ?_
  rintro e w1 ⟨rfl, rfl⟩
  go_wp2
  go_ret
  exact ⟨rfl, Below.refl _ _⟩

theorem implAll (g : Nat) (p : Int → Bool) (xs : List Int) (v : Value) (B : Nat) (w : World) (ha : Ints w B v xs) (hB : B ≤ w.heap.size) (hn : xs.length ≤ 1099511627776)
    (eg : ∀ args w, (callFunc g args).run Tryd.prog w = .ok (.enter g args) w) (hg : ∀ (x : Int) (W : World), Calls Tryd.prog g #[.int .i64 x] W fun e w' => e = .returned (.bool (p x)) ∧ W = w') :
    Calls Tryd.prog 80 #[.func (.func g) #[] #[], v] w fun e w' => e = .returned (.bool (xs.all p)) ∧ Below w.heap.size w w' := by
  have HC := hid (fv.contFuncC (fun x => !p x) 88 (.pointer (some ⟨w.heap.size, 0, none⟩)) xs v B (w.alloc (.cells #[.func (.func g) #[] #[]] 102)) (ints_al ha _) (by simp; omega) hn (fun _ _ => rfl) (fun x W b => implAll1 g p _ x W ((b.cell (p := ⟨w.heap.size, 0, none⟩) (by simp)).trans (World.cell?_alloc_at _ _ _ _ rfl)) eg (hg x)))
  have hq := any_not p xs
  generalize (xs.any fun x => !p x) = q at *
  obtain ⟨r, hr⟩ : ∃ r, r = xs.all p := ⟨_, rfl⟩
  rw [← hr] at hq ⊢
  have HQ := hid hq
  have hal := hid ((Below.refl w.heap.size w).alloc (Nat.le_refl _) (.cells #[.func (.func g) #[] #[]] 102))
  obtain ⟨ao, cap, hv⟩ := ints_val ha
  clear hq hr ha hg eg
  generalize xs.length = n at *
  subst hv
  go_enter Tryd.func80, Tryd.ntmps80
  go_wp2_with fail
  refine HC.out.mono ?_
  rintro e w1 ⟨rfl, b1⟩
  have B1 := hid (hal.out.trans (b1.mono hal.out.size))
  clear b1
  go_wp2
  go_ret
  exact ⟨by rw [← HQ.out]; rfl, B1.out⟩

theorem implStack (x : Int) (w : World) : Calls Tryd.prog 81 #[.int .i64 x] w fun e w' => e = .returned (.bool (stk x)) ∧ w = w' := by
  obtain ⟨q, hq⟩ : ∃ q, q = stk x := ⟨_, rfl⟩
  have H := hid (fun w1 => show Calls Tryd.prog 21 #[.int .i64 x, .int .i64 1, .int .i64 4] w1 fun e w2 => e = .returned (.bool q) ∧ w1 = w2 from by rw [hq]; exact within64 x 1 4 w1)
  rw [← hq]
  clear hq
  go_enter Tryd.func81, Tryd.ntmps81
  go_wp2_with fail
  refine (H.out _).mono ?_
  rintro e w1 ⟨rfl, rfl⟩
  go_wp2
  go_ret
  exact ⟨rfl, rfl⟩

theorem implSts (xs : List Int) (v : Value) (B : Nat) (w : World) (ha : Ints w B v xs) (hB : B ≤ w.heap.size) (hn : xs.length ≤ 1099511627776) :
    Calls Tryd.prog 70 #[v] w fun e w' => e = .returned (.bool (lst xs)) ∧ Below w.heap.size w w' := by
  have HC := hid (implAll 82 knd xs v B w ha hB hn (fun _ _ => rfl) (fun x W => implStitch x W))
  obtain ⟨ao, cap, hv⟩ := ints_val ha
  by_cases hl : xs.length ≤ 16
  · have hq := lst_short hl
    generalize xs.all knd = q at *
    have HQ := hid hq
    clear hq ha
    generalize xs.length = n at *
    subst hv
    have hd : decide ((n : Int) ≤ 16) = true := by simp; omega
    go_enter Tryd.func70, Tryd.ntmps70
    go_wp2_with fail
    refine HC.out.mono ?_
    rintro e w1 ⟨rfl, b1⟩
    have B1 := hid b1
    clear b1
    go_wp2
    go_ret
    exact ⟨by rw [HQ.out]; first | done | rfl, B1.out⟩
  · have HQ := hid (lst_long (xs := xs) (by omega))
    clear HC ha
    generalize xs.length = n at *
    subst hv
    have hd : decide ((n : Int) ≤ 16) = false := by simp; omega
    go_enter Tryd.func70, Tryd.ntmps70
    go_wp2
    go_ret
    exact ⟨by rw [HQ.out]; first | done | rfl, Below.refl _ _⟩

theorem implCols (xs : List Int) (v : Value) (B : Nat) (w : World) (ha : Ints w B v xs) (hB : B ≤ w.heap.size) (hn : xs.length ≤ 1099511627776) :
    Calls Tryd.prog 69 #[v] w fun e w' => e = .returned (.bool (stks xs)) ∧ Below w.heap.size w w' := by
  have HC := hid (implAll 81 stk xs v B w ha hB hn (fun _ _ => rfl) (fun x W => implStack x W))
  obtain ⟨ao, cap, hv⟩ := ints_val ha
  by_cases hl : xs.length ≤ 8
  · have hq := stks_short hl
    generalize xs.all stk = q at *
    have HQ := hid hq
    clear hq ha
    generalize xs.length = n at *
    subst hv
    have hd : decide ((n : Int) ≤ 8) = true := by simp; omega
    go_enter Tryd.func69, Tryd.ntmps69
    go_wp2_with fail
    refine HC.out.mono ?_
    rintro e w1 ⟨rfl, b1⟩
    have B1 := hid b1
    clear b1
    go_wp2
    go_ret
    exact ⟨by rw [HQ.out]; first | done | rfl, B1.out⟩
  · have HQ := hid (stks_long (xs := xs) (by omega))
    clear HC ha
    generalize xs.length = n at *
    subst hv
    have hd : decide ((n : Int) ≤ 8) = false := by simp; omega
    go_enter Tryd.func69, Tryd.ntmps69
    go_wp2
    go_ret
    exact ⟨by rw [HQ.out]; first | done | rfl, Below.refl _ _⟩

theorem specSts (xs : List Int) (v : Value) (B : Nat) (w : World) (ha : Ints w B v xs) (hB : B ≤ w.heap.size) (hn : xs.length ≤ 1099511627776) :
    Calls Tryd.prog 57 #[v] w fun e w' => e = .returned (.bool (lst xs)) ∧ w = w' := by
  have HK := hid (fun (x : Int) (W : World) => show Calls Tryd.prog 68 #[.int .i64 x] W fun e w2 => e = .returned (.bool (knd x)) ∧ W = w2 from specKind x W)
  rcases ha with ⟨rfl, ao, cap, rfl⟩ | ⟨hp, b, off, cap, rfl, hbb, hc⟩
  · have HF : Hid (lst [] = true) := hid rfl
    go_enter Tryd.func57, Tryd.ntmps57
    go_wp2
    refine wp_loop_rounds 1 ?_
    rw [rounds_succ]
    go_wp2
    go_ret
    exact ⟨by rw [HF.out]; first | done | rfl, rfl⟩
  · obtain ⟨n, hnn⟩ : ∃ n, n = xs.length := ⟨_, rfl⟩
    rw [← hnn] at hp hc hn ⊢
    have HN := hid hnn
    have HC := hid hc
    clear hnn hc
    go_enter Tryd.func57, Tryd.ntmps57
    go_wp2
    go_loop [3] (fun i => ∃ k : Nat, k ≤ n ∧ i = .int .i64 k ∧ Hid (∀ j, j < k → knd (xs.getD j 0) = true)) (fun i => n - (intOf i).toNat)
    case atStart => exact ⟨0, Nat.zero_le _, rfl, hid fun j hj => by omega⟩
    case round =>
      obtain ⟨k, hk, rfl, HG⟩ := hrel
      by_cases hlt : k < n
      · have h1 := HC.out k hlt
        have hkx := hid (HK.out (xs.getD k 0))
        cases hq : knd (xs.getD k 0)
        · have HF : Hid (lst xs = false) := hid (by
            by_cases hl : xs.length ≤ 16
            · rw [lst_short hl]; exact all_bad k (by rw [← HN.out]; exact hlt) hq
            · exact lst_long (by omega))
          rw [hq] at hkx
          clear hq
          generalize xs.getD k 0 = x at *
          go_wp2_with fail
          refine (hkx.out _).mono ?_
          rintro e w1 ⟨rfl, rfl⟩
          go_wp2
          go_ret
          exact ⟨by rw [HF.out]; first | done | rfl, rfl⟩
        · have HG2 : Hid (∀ j, j < k + 1 → knd (xs.getD j 0) = true) := hid (fun j hj => by
            rcases Nat.lt_or_ge j k with h | h
            · exact HG.out j h
            · obtain rfl : j = k := by omega
              exact hq)
          rw [hq] at hkx
          clear hq
          generalize xs.getD k 0 = x at *
          go_wp2_with fail
          refine (hkx.out _).mono ?_
          rintro e w1 ⟨rfl, rfl⟩
          go_wp2
          go_round
          case rel => exact ⟨k + 1, by omega, by go_num, HG2⟩
          case measure => simp [intOf]; omega
      · obtain rfl : k = n := by omega
        by_cases hl : k ≤ 16
        · have hd : decide ((k : Int) ≤ 16) = true := by simp; omega
          have HF : Hid (lst xs = true) := hid (by rw [lst_short (by rw [← HN.out]; exact hl)]; exact all_good (fun j hj => HG.out j (by rw [HN.out]; exact hj)))
          go_wp2
          go_ret
          exact ⟨by rw [HF.out]; first | done | rfl, rfl⟩
        · have hd : decide ((k : Int) ≤ 16) = false := by simp; omega
          have HF : Hid (lst xs = false) := hid (lst_long (by rw [← HN.out]; omega))
          go_wp2
          go_ret
          exact ⟨by rw [HF.out]; first | done | rfl, rfl⟩

theorem specStacks (xs : List Int) (v : Value) (B : Nat) (w : World) (ha : Ints w B v xs) (hB : B ≤ w.heap.size) (hn : xs.length ≤ 1099511627776) :
    Calls Tryd.prog 58 #[v] w fun e w' => e = .returned (.bool (stks xs)) ∧ w = w' := by
  have HK := hid (fun (x : Int) (W : World) => show Calls Tryd.prog 16 #[.int .i64 x, .int .i64 1, .int .i64 4] W fun e w2 => e = .returned (.bool (stk x)) ∧ W = w2 from pm.specIn x 1 4 W)
  rcases ha with ⟨rfl, ao, cap, rfl⟩ | ⟨hp, b, off, cap, rfl, hbb, hc⟩
  · have HF : Hid (stks [] = true) := hid rfl
    go_enter Tryd.func58, Tryd.ntmps58
    go_wp2
    refine wp_loop_rounds 1 ?_
    rw [rounds_succ]
    go_wp2
    go_ret
    exact ⟨by rw [HF.out]; first | done | rfl, rfl⟩
  · obtain ⟨n, hnn⟩ : ∃ n, n = xs.length := ⟨_, rfl⟩
    rw [← hnn] at hp hc hn ⊢
    have HN := hid hnn
    have HC := hid hc
    clear hnn hc
    go_enter Tryd.func58, Tryd.ntmps58
    go_wp2
    go_loop [3] (fun i => ∃ k : Nat, k ≤ n ∧ i = .int .i64 k ∧ Hid (∀ j, j < k → stk (xs.getD j 0) = true)) (fun i => n - (intOf i).toNat)
    case atStart => exact ⟨0, Nat.zero_le _, rfl, hid fun j hj => by omega⟩
    case round =>
      obtain ⟨k, hk, rfl, HG⟩ := hrel
      by_cases hlt : k < n
      · have h1 := HC.out k hlt
        have hkx := hid (HK.out (xs.getD k 0))
        cases hq : stk (xs.getD k 0)
        · have HF : Hid (stks xs = false) := hid (by
            by_cases hl : xs.length ≤ 8
            · rw [stks_short hl]; exact all_bad k (by rw [← HN.out]; exact hlt) hq
            · exact stks_long (by omega))
          rw [hq] at hkx
          clear hq
          generalize xs.getD k 0 = x at *
          go_wp2_with fail
          refine (hkx.out _).mono ?_
          rintro e w1 ⟨rfl, rfl⟩
          go_wp2
          go_ret
          exact ⟨by rw [HF.out]; first | done | rfl, rfl⟩
        · have HG2 : Hid (∀ j, j < k + 1 → stk (xs.getD j 0) = true) := hid (fun j hj => by
            rcases Nat.lt_or_ge j k with h | h
            · exact HG.out j h
            · obtain rfl : j = k := by omega
              exact hq)
          rw [hq] at hkx
          clear hq
          generalize xs.getD k 0 = x at *
          go_wp2_with fail
          refine (hkx.out _).mono ?_
          rintro e w1 ⟨rfl, rfl⟩
          go_wp2
          go_round
          case rel => exact ⟨k + 1, by omega, by go_num, HG2⟩
          case measure => simp [intOf]; omega
      · obtain rfl : k = n := by omega
        by_cases hl : k ≤ 8
        · have hd : decide ((k : Int) ≤ 8) = true := by simp; omega
          have HF : Hid (stks xs = true) := hid (by rw [stks_short (by rw [← HN.out]; exact hl)]; exact all_good (fun j hj => HG.out j (by rw [HN.out]; exact hj)))
          go_wp2
          go_ret
          exact ⟨by rw [HF.out]; first | done | rfl, rfl⟩
        · have hd : decide ((k : Int) ≤ 8) = false := by simp; omega
          have HF : Hid (stks xs = false) := hid (stks_long (by rw [← HN.out]; omega))
          go_wp2
          go_ret
          exact ⟨by rw [HF.out]; first | done | rfl, rfl⟩
end Go.Proofs.YtbbnheiibkcgiabDoor.st
