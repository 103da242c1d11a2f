/-
  Sorting by a pair set: contracts of insertionSortCmpFunc, pdqsortCmpFunc (at most twelve things) and slices.SortFunc with the closure.
-/
import Derived.Test.YtnnbhgiaaelkiabMj1
namespace Go.Proofs.Ytnnbhgiaaelkiab.mj
open Go.RowKit Go.Proofs.Ytnnbhgiaaelkiab.sl Go.Proofs.Ytnnbhgiaaelkiab.bt Go.Proofs.Ytnnbhgiaaelkiab.la

/-! ### insertion, in plain words -/
def nums (l : List Nat) : List Int := l.map fun (x : Nat) => (x : Int)
theorem nums_len (l : List Nat) : (nums l).length = l.length := by simp [nums]
theorem nums_at (l : List Nat) (i : Nat) (h : i < l.length) : (nums l).getD i 0 = ((l.getD i 0 : Nat) : Int) := by
  simp [nums, List.getD, List.getElem?_eq_getElem h]
def SortedTo (lt : Nat → Nat → Bool) (l : List Nat) (i : Nat) : Prop := ∀ a b, a < b → b < i → lt (l.getD b 0) (l.getD a 0) = false
def InsTo (lt : Nat → Nat → Bool) (l : List Nat) (i j : Nat) : Prop := ∀ a b, a < b → b ≤ i → b ≠ j → lt (l.getD b 0) (l.getD a 0) = false
def swapN (l : List Nat) (k : Nat) : List Nat := (l.set (k + 1) (l.getD k 0)).set k (l.getD (k + 1) 0)
theorem swapN_len (l : List Nat) (k : Nat) : (swapN l k).length = l.length := by simp [swapN]
theorem getN_set (xs : List Nat) (i j x : Nat) (h : j < xs.length) : (xs.set i x).getD j 0 = if j = i then x else xs.getD j 0 := by
  by_cases e : j = i
  · subst e; simp [List.getD, h]
  · rw [if_neg e]; simp [List.getD, show ¬ i = j from fun h => e h.symm]
theorem swapN_at (l : List Nat) (k j : Nat) (hj : j < l.length) : (swapN l k).getD j 0 = if j = k then l.getD (k + 1) 0 else if j = k + 1 then l.getD k 0 else l.getD j 0 := by
  rw [swapN, getN_set _ _ _ _ (by simpa using hj), getN_set _ _ _ _ hj]
theorem swapN_nums (l : List Nat) (k : Nat) (hk : k + 1 < l.length) : nums (swapN l k) = ((nums l).set (k + 1) ((nums l).getD k 0)).set k ((nums l).getD (k + 1) 0) := by
  rw [nums_at l k (by omega), nums_at l (k + 1) hk]
  simp [nums, swapN, List.map_set]
theorem swapN_perm (l : List Nat) (k : Nat) (hk : k + 1 < l.length) : (swapN l k).Perm l := by
  have e : l = l.take k ++ l.getD k 0 :: l.getD (k + 1) 0 :: l.drop (k + 2) := by
    have h1 : l.getD k 0 = l[k] := by simp [List.getD, List.getElem?_eq_getElem (show k < l.length by omega)]
    have h2 : l.getD (k + 1) 0 = l[k + 1] := by simp [List.getD, List.getElem?_eq_getElem hk]
    rw [h1, h2, ← List.drop_eq_getElem_cons hk, ← List.drop_eq_getElem_cons (show k < l.length by omega), List.take_append_drop]
  have e2 : swapN l k = l.take k ++ l.getD (k + 1) 0 :: l.getD k 0 :: l.drop (k + 2) := by
    unfold swapN
    generalize l.getD k 0 = x at *
    generalize l.getD (k + 1) 0 = y at *
    have hl : (l.take k).length = k := by simp; omega
    generalize l.take k = A at *
    generalize l.drop (k + 2) = B at *
    subst e
    rw [List.set_append_right _ _ (by omega), List.set_append_right _ _ (by omega)]
    have a1 : k + 1 - A.length = 1 := by omega
    have a2 : k - A.length = 0 := by omega
    rw [a1, a2]; rfl
  rw [e2]
  conv => rhs; rw [e]
  exact List.Perm.append_left _ (List.Perm.swap _ _ _)
theorem ins_start {lt : Nat → Nat → Bool} {l : List Nat} {i : Nat} (h : SortedTo lt l i) : InsTo lt l i i := fun a b h1 h2 h3 => h a b h1 (by omega)
theorem ins_swap {lt : Nat → Nat → Bool} {l : List Nat} {i k : Nat} (h : InsTo lt l i (k + 1)) (hk : k + 1 ≤ i) (hi : i < l.length) (hl : lt (l.getD (k + 1) 0) (l.getD k 0) = true) (has : ∀ x y, lt x y = true → lt y x = false) : InsTo lt (swapN l k) i k := by
  intro a b hab hb hbk
  rw [swapN_at l k a (by omega), swapN_at l k b (by omega)]
  rw [if_neg hbk]
  by_cases h1 : b = k + 1
  · rw [if_pos h1]
    by_cases h2 : a = k
    · rw [if_pos h2]; exact has _ _ hl
    · rw [if_neg h2, if_neg (by omega)]; exact h a k (by omega) (by omega) (by omega)
  · rw [if_neg h1]
    by_cases h2 : a = k
    · rw [if_pos h2]; exact h (k + 1) b (by omega) hb h1
    · rw [if_neg h2]
      by_cases h3 : a = k + 1
      · rw [if_pos h3]; exact h k b (by omega) hb h1
      · rw [if_neg h3]; exact h a b hab hb h1
theorem ins_stop {lt : Nat → Nat → Bool} {l : List Nat} {i j : Nat} (h : InsTo lt l i j) (hj : j = 0 ∨ lt (l.getD j 0) (l.getD (j - 1) 0) = false) (hn : ∀ x y z, lt x y = false → lt y z = false → lt x z = false) : SortedTo lt l (i + 1) := by
  intro a b hab hb
  by_cases e : b = j
  · subst e
    rcases hj with h0 | h0
    · omega
    · by_cases h1 : a = b - 1
      · subst h1; exact h0
      · exact hn _ _ _ h0 (h a (b - 1) (by omega) (by omega) (by omega))
  · exact h a b hab (by omega) e

/-! ### worlds with new blocks -/
theorem below_grow (W : World) (n : Nat) (os : Array Obj) : Below W.heap.size W (Go.Sort.grow (W.drewN n) os) :=
  ⟨rfl, rfl, rfl, by simp, fun k hk => Go.Sort.heap_grow_old (W.drewN n) os hk⟩
theorem rows_grow {W : World} {c T : Nat} {f : Nat → Nat} (h : Rows12 W c T f) (n : Nat) (os : Array Obj) : Rows12 (Go.Sort.grow (W.drewN n) os) c T f := by
  unfold Rows12
  rw [Go.Sort.heap_grow_old (W.drewN n) os h.lt]
  exact h

def ltB (f : Nat → Nat) (x y : Nat) : Bool := decide (cf f x y < 0)

theorem enters (args : Array Value) (w : World) : (callFunc 89 args).run Try.prog w = .ok (.enter 89 args) w := enters_of Try.func89 (by kernel_rfl) rfl args w

set_option maxRecDepth 100000 in
set_option maxHeartbeats 1000000 in
theorem insSort (f : Nat → Nat) (c g n cap lo hi : Nat) (L : List Nat) (w : World) (hn : n = L.length) (hn12 : n ≤ 12) (hL : ∀ x ∈ L, x < 12) (hf : ∀ i, i < 12 → f i < 65536)
    (has : ∀ x y, ltB f x y = true → ltB f y x = false) (hnt : ∀ x y z, ltB f x y = false → ltB f y z = false → ltB f x z = false)
    (o : Own w lo hi (.slice (some ⟨g, 0, none⟩) n cap) (nums L)) (hr : Rows12 w c 86 f) (hc : ¬ (lo ≤ c ∧ c < hi)) :
    Calls Try.prog 94 #[.slice (some ⟨g, 0, none⟩) n cap, .int .i64 0, .int .i64 n, .func (.func 89) #[] #[.pointer (some ⟨c, 0, none⟩)]] w fun e w' =>
      e = .returned (.tuple #[]) ∧ ∃ L', L'.Perm L ∧ SortedTo (ltB f) L' n ∧ Own w' lo hi (.slice (some ⟨g, 0, none⟩) n cap) (nums L') ∧ Chg lo hi w w' := by
  have HN := hid hn
  have HL := hid hL
  have HF := hid hf
  have HAs := hid has
  have HNt := hid hnt
  have HO0 := hid o
  have HR := hid hr
  have eg := enters
  have mixed : Try.prog.follows .mixedOrders = true := by kernel_rfl
  clear hn hL hf has hnt o hr
  go_enter Try.func94, Try.ntmps94
  go_wp2
  go_loopw [8] (fun vi wr => ∃ (i : Nat) (L1 : List Nat), vi = .int .i64 i ∧ 1 ≤ i ∧ (i ≤ n ∨ i = 1) ∧ L1.Perm L ∧ SortedTo (ltB f) L1 i ∧ Own wr lo hi (.slice (some ⟨g, 0, none⟩) n cap) (nums L1) ∧ Chg lo hi w wr)
    (fun vi _ => n - (intOf vi).toNat)
  case atStart => exact ⟨1, L, rfl, Nat.le_refl _, .inr rfl, List.Perm.refl _, fun a b h1 h2 => by omega, HO0.out, Chg.refl _ _ _⟩
  case round =>
    obtain ⟨i, L1, rfl, hi1, hin, hp1, hs1, ho1, hc1⟩ := hrel
    obtain ⟨wo, hwo⟩ : ∃ wo : World, wo = wr := ⟨_, rfl⟩
    subst hwo
    have HP1 := hid hp1
    have HS1 := hid hs1
    have HO1 := hid ho1
    have HC1 := hid hc1
    clear hp1 hs1 ho1 hc1 HO0
    by_cases hlt : i < n
    · go_wp2
      go_loopw [9] (fun vj wx => ∃ (j : Nat) (L2 : List Nat), vj = .int .i64 j ∧ j ≤ i ∧ L2.Perm L ∧ InsTo (ltB f) L2 i j ∧ Own wx lo hi (.slice (some ⟨g, 0, none⟩) n cap) (nums L2) ∧ Chg lo hi w wx)
        (fun vj _ => (intOf vj).toNat)
      case atStart => exact ⟨i, L1, rfl, Nat.le_refl _, HP1.out, ins_start HS1.out, HO1.out, HC1.out⟩
      case round =>
        obtain ⟨j, L2, rfl, hji, hp2, hs2, ho2, hc2⟩ := hrel
        have HP2 := hid hp2
        have HS2 := hid hs2
        have HO2 := hid ho2
        have HC2 := hid hc2
        have HL2 : Hid (L2.length = n) := hid (by rw [HN.out]; exact hp2.length_eq)
        have HR2 := hid (HR.out.chg hc2 hc)
        clear hp2 hs2 ho2 hc2 HP1 HS1 HO1 HC1
        by_cases hj0 : 0 < j
        · obtain ⟨k, rfl⟩ : ∃ k, j = k + 1 := ⟨j - 1, by omega⟩
          have hk1 : k + 1 < L2.length := by rw [HL2.out]; omega
          obtain ⟨x, hx⟩ : ∃ x, x = L2.getD (k + 1) 0 := ⟨_, rfl⟩
          obtain ⟨y, hy⟩ : ∃ y, y = L2.getD k 0 := ⟨_, rfl⟩
          have hx12 : x < 12 := HL.out x (HP2.out.mem_iff.1 (by rw [hx, show L2.getD (k + 1) 0 = L2[k + 1] from by simp [List.getD, List.getElem?_eq_getElem hk1]]; exact List.getElem_mem _))
          have hy12 : y < 12 := HL.out y (HP2.out.mem_iff.1 (by rw [hy, show L2.getD k 0 = L2[k] from by simp [List.getD, List.getElem?_eq_getElem (show k < L2.length by omega)]]; exact List.getElem_mem _))
          have c1 : wr.cell? ⟨g, k + 1, none⟩ = some (.int .i64 (x : Int)) := by rw [(HO2.out.at' (k + 1) (by rw [nums_len]; omega)).1, nums_at L2 (k + 1) hk1, ← hx]
          have c0 : wr.cell? ⟨g, k, none⟩ = some (.int .i64 (y : Int)) := by rw [(HO2.out.at' k (by rw [nums_len]; omega)).1, nums_at L2 k (by omega), ← hy]
          have hgb : g < wr.heap.size := World.block_lt_of_cell? wr _ c0
          have l1 : ∀ n' os', (Go.Sort.grow (wr.drewN n') os').cell? ⟨g, k + 1, none⟩ = some (.int .i64 (x : Int)) := fun n' os' => cell_grown (a := ⟨g, k + 1, none⟩) hgb c1 n' os'
          have l0 : ∀ n' os', (Go.Sort.grow (wr.drewN n') os').cell? ⟨g, k, none⟩ = some (.int .i64 (y : Int)) := fun n' os' => cell_grown (a := ⟨g, k, none⟩) hgb c0 n' os'
          have hcg : ∀ n' os', Calls Try.prog 89 #[.int .i64 (x : Int), .int .i64 (y : Int), .pointer (some ⟨c, 0, none⟩)] (Go.Sort.grow (wr.drewN n') os') fun e w' => e = .returned (.int .i64 (cf f x y)) ∧ ∃ q os'', w' = Go.Sort.grow ((Go.Sort.grow (wr.drewN n') os').drewN q) os'' := fun n' os' => clos f c x y hx12 hy12 HF.out _ (rows_grow HR2.out n' os')
          have HX := hid hx
          have HY := hid hy
          have hj1 : (0 : Int) < (k : Int) + 1 := by omega
          have hd1 : decide ((0 : Int) < (k : Int) + 1) = true := decide_eq_true hj1
          have HCG := hid hcg
          have hkn : (k : Int) + 1 < (n : Int) := by omega
          have hkn0 : (k : Int) < (n : Int) := by omega
          have p0 : (0 : Int) ≤ (k : Int) + 1 := by omega
          have e0 : ((k : Int) + 1).toNat = k + 1 := by omega
          have hwp : IntKind.i64.wrap (k : Int) = (k : Int) := IntWalk.i64_in _ (by omega)
          clear hx hy c1 c0 hcg
          by_cases hv : cf f x y < 0
          · have hv1 : decide (cf f x y < 0) = true := by simpa using hv
            have HLT : Hid (ltB f (L2.getD (k + 1) 0) (L2.getD k 0) = true) := hid (by rw [← HX.out, ← HY.out]; exact hv1)
            generalize cf f x y = z at *
            go_wp2_with fail
            go_quiet_grown ((first | (go_at_call 89; exact Calls.grown_of (HCG.out _ _))))
            have m1 := l1 nq osq
            have m0 := l0 nq osq
            have bg := below_grow wr nq osq
            have HO3 := hid (HO2.out.chg (Chg.ofBelow (lo := 0) bg) (.inr (.inr (Nat.zero_le _))))
            have HC3 : Hid (Chg lo hi w (Go.Sort.grow (wr.drewN nq) osq)) := hid (HC2.out.trans ⟨bg.os, bg.tape, bg.output, bg.size, fun q hq _ => bg.block q hq⟩)
            clear l1 l0 bg HCG HO2 HC2
            generalize Go.Sort.grow (wr.drewN nq) osq = w3 at *
            have f1 := (HO3.out.at' (k + 1) (by rw [nums_len]; omega)).2
            have f0 := (HO3.out.at' k (by rw [nums_len]; omega)).2
            have HW := hid (rv.revWorld HO3.out (k + 1) k (y : Int) (x : Int))
            have HSw := hid (swapN_nums L2 k hk1)
            rw [nums_at L2 k (by omega), nums_at L2 (k + 1) hk1, ← HX.out, ← HY.out] at HSw
            rw [← HSw.out] at HW
            have HI := hid (ins_swap HS2.out hji (by rw [HL2.out]; omega) HLT.out HAs.out)
            have HPn := hid ((swapN_perm L2 k hk1).trans HP2.out)
            clear HSw HLT HX HY
            go_wp2
            go_region
            all_goals (try go_wp2)
            go_roundw
            case rel => exact ⟨k, swapN L2 k, by go_num, by omega, HPn.out, HI.out, HW.out.1.drewN 1, HC3.out.trans (HW.out.2.drewN 1)⟩
            case measure => simp [intOf]
          · have hv1 : decide (cf f x y < 0) = false := by simpa using hv
            have HLT : Hid (ltB f (L2.getD (k + 1) 0) (L2.getD k 0) = false) := hid (by rw [← HX.out, ← HY.out]; exact hv1)
            generalize cf f x y = z at *
            go_wp2_with fail
            go_quiet_grown ((first | (go_at_call 89; exact Calls.grown_of (HCG.out _ _))))
            have bg := below_grow wr nq osq
            have HO3 := hid (HO2.out.chg (Chg.ofBelow (lo := 0) bg) (.inr (.inr (Nat.zero_le _))))
            have HC3 : Hid (Chg lo hi w (Go.Sort.grow (wr.drewN nq) osq)) := hid (HC2.out.trans ⟨bg.os, bg.tape, bg.output, bg.size, fun q hq _ => bg.block q hq⟩)
            clear l1 l0 bg HCG HO2 HC2
            generalize Go.Sort.grow (wr.drewN nq) osq = w3 at *
            have HS := hid (ins_stop HS2.out (.inr (by simpa using HLT.out)) HNt.out)
            go_wp2
            go_roundw
            case rel => exact ⟨i + 1, L2, by go_num, by omega, by omega, HP2.out, HS.out, HO3.out, HC3.out⟩
            case measure => simp [intOf]; omega
        · obtain rfl : j = 0 := by omega
          have HS := hid (ins_stop HS2.out (.inl rfl) HNt.out)
          have hd1 : decide ((0 : Int) < ((0 : Nat) : Int)) = false := by simp
          go_wp2
          go_quiet (fail)
          go_wp2
          go_roundw
          case rel => exact ⟨i + 1, L2, by go_num, by omega, by omega, HP2.out, HS.out, HO2.out.drewN _, HC2.out.drewN _⟩
          case measure => simp [intOf]; omega
    · have hge : ¬ (i : Int) < (n : Int) := by omega
      have HS : Hid (SortedTo (ltB f) L1 n) := hid (fun a b h1 h2 => HS1.out a b h1 (by omega))
      go_wp2
      go_end0
      exact ⟨rfl, L1, HP1.out, HS.out, HO1.out, HC1.out⟩

end Go.Proofs.Ytnnbhgiaaelkiab.mj
