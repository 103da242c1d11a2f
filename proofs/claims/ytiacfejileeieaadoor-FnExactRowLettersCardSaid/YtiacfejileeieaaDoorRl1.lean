/-
  Letters of a row: the program.
-/
import Derived.Test.YtiacfejileeieaaDoorRl0
import Derived.Test.YtiacfejileeieaaDoorMk1
import Derived.Test.YtiacfejileeieaaDoorStb
namespace Go.Proofs.YtiacfejileeieaaDoor.rl
open Go.RowKit Go.Proofs.YtiacfejileeieaaDoor.sl Go.Proofs.YtiacfejileeieaaDoor.pm Go.Proofs.YtiacfejileeieaaDoor.br Go.Proofs.YtiacfejileeieaaDoor.bw Go.Proofs.YtiacfejileeieaaDoor.st
set_option linter.unusedVariables false
set_option maxRecDepth 100000

theorem ints_cut {w : World} {B : Nat} {ao : Option Addr} {n c : Nat} {xs : List Int} (h : Ints w B (.slice ao n c) xs) (t : Nat) (ht : t ≤ xs.length) : Ints w B (.slice ao t c) (xs.take t) := by
  by_cases h0 : t = 0
  · subst h0; exact .inl ⟨by simp, ao, c, rfl⟩
  · rcases h with ⟨rfl, _⟩ | ⟨hp, b, off, cap, hv, hb, hc⟩
    · simp at ht; omega
    · simp only [Value.slice.injEq] at hv
      obtain ⟨rfl, hl, rfl⟩ := hv
      have hlt : (xs.take t).length = t := by rw [List.length_take]; omega
      refine .inr ⟨by omega, b, off, c, by rw [hlt], hb, fun j hj => ?_⟩
      rw [hlt] at hj
      rw [hc j (by omega)]
      simp [List.getD, hj]
theorem withinQ (c lo hi : Int) (q : Bool) (hq : decide (lo ≤ c ∧ c ≤ hi) = q) (w : World) : Calls Tryd.prog 49 #[.int .i64 c, .int .i64 lo, .int .i64 hi] w fun e w' => e = .returned (.bool q) ∧ w = w' := by
  rw [← hq]; exact within64 c lo hi w
theorem inQ (c lo hi : Int) (q : Bool) (hq : decide (lo ≤ c ∧ c ≤ hi) = q) (w : World) : Calls Tryd.prog 45 #[.int .i64 c, .int .i64 lo, .int .i64 hi] w fun e w' => e = .returned (.bool q) ∧ w = w' := by
  rw [← hq]; exact pm.specIn c lo hi w

theorem built2 (w : World) (o : Obj) : Own ((w.alloc o).alloc (.cells #[] 2)) (w.heap.size + 1) ((w.alloc o).alloc (.cells #[] 2)).heap.size (.slice (some ⟨w.heap.size + 1, 0, none⟩) 0 0) [] := by
  have h := Own.built (w.alloc o) #[] rfl
  have e : (w.alloc o).heap.size = w.heap.size + 1 := by simp
  rw [e] at h
  exact h
set_option maxHeartbeats 2000000 in
theorem implBlocks (k : Int) (hk : knd k = true) (w : World) : Calls Tryd.prog 51 #[.int .i64 k] w fun e w' => e = .returned (.tuple #[.int .i64 (cbN k : Int), .int .i64 (cbS k)]) ∧ w = w' := by
  have h := knd_iff.1 hk
  have h1 : k = 1 ∨ k = 2 ∨ k = 3 ∨ k = 4 ∨ k = 5 ∨ k = 6 ∨ k = 7 ∨ k = 8 ∨ k = 9 ∨ k = 10 ∨ k = 11 := by omega
  clear h hk
  rcases h1 with rfl | rfl | rfl | rfl | rfl | rfl | rfl | rfl | rfl | rfl | rfl
  all_goals
    go_enter Tryd.func51, Tryd.ntmps51
    go_wp2
    go_ret2
    exact ⟨rfl, rfl⟩

set_option maxHeartbeats 4000000 in
theorem implLet (d c : Int) (xs : List Int) (v : Value) (B : Nat) (w : World) (ha : l5.IntsC w B v xs) (hB : B ≤ w.heap.size) (hl : lst xs = true) (hT : stb.Tab w) :
    Calls Tryd.prog 30 #[.agg #[.int .i64 d, .int .i64 c, v]] w fun e w' => ∃ v', e = .returned v' ∧ sl.Own w' w.heap.size w'.heap.size v' (rlT xs xs.length) ∧ Below w.heap.size w w' := by
  have hn16 := (lst_parts hl).1
  have HK := hid (fun j h => (lst_parts hl).2 j h)
  have HTk := hid (fun k u W (hi : Ints W B u (xs.take k)) (hb : B ≤ W.heap.size) (ht : stb.Tab W) => implTakenBy (xs.take k) u B W hi hb (by rw [List.length_take]; omega) ht)
  have HTe := hid (fun k h => tk_take hl k h)
  have HSb := hid (fun k h => sF_tk hl k h)
  have HTab := hid hT
  have hai := ha.ints
  have hcap := ha.cap
  clear hT ha
  rcases hai with ⟨rfl, ao, cap, rfl⟩ | ⟨hp, b, off, cap, rfl, hbb, hc⟩
  · go_enter Tryd.func30, Tryd.ntmps30
    go_wp2
    refine wp_loop_rounds 1 ?_
    rw [rounds_succ]
    go_wp2
    go_ret
    exact ⟨_, rfl, (built2 w (.cells #[.int .i64 d, .int .i64 c, .slice ao 0 cap] 28)).lo (lo' := w.heap.size) (by omega), ((Below.refl w.heap.size w).alloc (Nat.le_refl _) _).alloc (by simp) _⟩
  · have HA := hid (show Ints w B (.slice (some ⟨b, off, none⟩) xs.length cap) xs from .inr ⟨hp, b, off, cap, rfl, hbb, hc⟩)
    obtain ⟨n, hnn⟩ : ∃ n, n = xs.length := ⟨_, rfl⟩
    have hcp := hcap _ _ _ rfl
    rw [← hnn] at hp hc hn16 HA hcp HK HTe HSb ⊢
    have HN := hid hnn
    have HC := hid hc
    clear hnn hc hcap hl
    have hb0 := ((Below.refl w.heap.size w).alloc (Nat.le_refl _) (.cells #[.int .i64 d, .int .i64 c, .slice (some ⟨b, off, none⟩) n cap] 28)).alloc (by simp) (.cells #[] 2)
    have HB0 := hid hb0
    have HO0 := hid (built2 w (.cells #[.int .i64 d, .int .i64 c, .slice (some ⟨b, off, none⟩) n cap] 28))
    have r2 : ((w.alloc (.cells #[.int .i64 d, .int .i64 c, .slice (some ⟨b, off, none⟩) n cap] 28)).alloc (.cells #[] 2)).cell? ⟨w.heap.size, 2, none⟩ = some (.slice (some ⟨b, off, none⟩) n cap) := (World.cell?_alloc_past _ _ _ (by simp)).trans (World.cell?_alloc_at _ _ _ _ rfl)
    have HR2 := hid r2
    clear hb0 r2
    go_enter Tryd.func30, Tryd.ntmps30
    go_wp2
    go_loopw [3, 12] (fun s i wr => ∃ k : Nat, k ≤ n ∧ i = .int .i64 k ∧ Own wr (w.heap.size + 1) wr.heap.size s (rlT xs k) ∧ wr.cell? ⟨w.heap.size, 2, none⟩ = some (.slice (some ⟨b, off, none⟩) n cap) ∧ w.heap.size < wr.heap.size ∧ Below w.heap.size w wr) (fun _ i _ => n - (intOf i).toNat)
    case atStart => exact ⟨0, Nat.zero_le _, rfl, by rw [rlT_zero]; exact HO0.out, HR2.out, by simp; omega, HB0.out⟩
    case round =>
      obtain ⟨k, hk, rfl, hown, hr2, hsz, hbel⟩ := hrel
      have HO := hid hown
      have HB := hid hbel
      clear hown hbel HO0 HB0 HR2
      by_cases hlt : k < n
      · have h1 : wr.cell? ⟨b, off + k, none⟩ = some (.int .i64 (xs.getD k 0)) := (HB.out.cell (p := ⟨b, off + k, none⟩) (by show b < _; omega)).trans (HC.out k hlt)
        have hkx := HK.out k hlt
        have HX := hid (rlT_succ xs k)
        have hsb := HSb.out k hk
        have hl64 := rlT_len xs k
        have HTk1 := hid (HTk.out k (.slice (some ⟨b, off, none⟩) k cap) wr (ints_cut (HA.out.chg (Chg.ofBelow (lo := 0) HB.out) (.inr (Nat.zero_le _))) k (by rw [← HN.out]; exact hk)) (by omega) (stb.carry HTab.out HB.out))
        rw [HTe.out k hk] at HTk1
        generalize xs.getD k 0 = x at *
        have HBl := hid (fun W => implBlocks x hkx W)
        obtain ⟨t, ht⟩ : ∃ t, t = sF tk xs k := ⟨_, rfl⟩
        rw [← ht] at hsb HTk1 HX
        have HCr := hid (fun W => db.implCross (cbS x) t (cbN x) (cbN x) W (cbS_pm x) ⟨by omega, by omega⟩ (by have := cbN_le x; omega) (by have := cbN_le x; omega))
        have HLs : Hid (db.swO (cbS x) t (cbN x) (cbN x) = lsS x t) := hid (ls_same x t)
        have hls4 := lsS_len x t
        rw [HLs.out] at HCr
        clear ht hkx
        obtain ⟨L, hL⟩ : ∃ L, L = rlT xs k := ⟨_, rfl⟩
        rw [← hL] at HX hl64 HO
        clear hL
        generalize cbN x = q at *
        generalize cbS x = sg at *
        generalize lsS x t = ls at *
        go_wp2_with (first
          | (go_at_call 51; refine (HBl.out _).mono ?_; rintro e w1 ⟨rfl, rfl⟩)
          | (go_at_call 43; refine HTk1.out.mono ?_; rintro e w1 ⟨rfl, b1⟩; have HO1 := hid (HO.out.chg (Chg.ofBelow (lo := 0) b1) (.inr (.inr (Nat.zero_le _)))); have hz1 := b1.size; have hr3 := (b1.cell (p := ⟨w.heap.size, 2, none⟩) hsz).trans hr2; have HB1 := hid (HB.out.trans (b1.mono (by omega))); clear b1)
          | (go_at_call 52; refine (HCr.out _).mono ?_; rintro e w2 ⟨v2, rfl, o2, b2⟩; have HO2 := hid ((HO1.out.chg (Chg.ofBelow (lo := 0) b2) (.inr (.inr (Nat.zero_le _)))).hi (hi' := w2.heap.size) (by have := b2.size; omega) (Nat.le_refl _)); have hz2 := b2.size; have hr4 := (b2.cell (p := ⟨w.heap.size, 2, none⟩) (by show w.heap.size < w1.heap.size; omega)).trans hr3; have HB2 := hid (HB1.out.trans (b2.mono (by omega))); have HI2 := hid o2.ints; have HNi := hid (fn.nilok_own o2); have HL2 := hid (o2.lo (lo' := w1.heap.size) (Nat.le_refl _)); clear b2 o2)
          | (at_builtin; refine fn.wp_appendAll rfl _ _ rfl (w.heap.size + 1) w2.heap.size _ L HO2.out rfl _ ls w2.heap.size HI2.out HNi.out rfl (by omega) (by omega) ?_; intro v3 w3 o3 c3; have HO3 := hid o3; have HC3 := hid c3; clear o3 c3))
        have e3 : w3.cell? ⟨w.heap.size, 2, none⟩ = some (.slice (some ⟨b, off, none⟩) n cap) := (World.cell?_of_block (w := w2) (w' := w3) (a := ⟨w.heap.size, 2, none⟩) (HC3.out.block w.heap.size (by omega) (by omega))).trans hr4
        have hz3 := HC3.out.size
        have HB3 := hid (HB2.out.trans (HC3.out.below (by omega) (by omega)))
        go_roundw
        case rel => exact ⟨k + 1, by omega, by go_num, by rw [HX.out]; exact HO3.out, e3, by omega, HB3.out⟩
        case measure => simp [intOf]; omega
      · obtain rfl : k = n := by omega
        go_wp2
        go_ret
        exact ⟨_, rfl, HO.out.lo (by omega), HB.out⟩
end Go.Proofs.YtiacfejileeieaaDoor.rl
