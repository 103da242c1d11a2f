/-
  Letters in groups: the program's.
-/
import Derived.Test.YtiacfejileeieaaPkl
import Derived.Test.YtiacfejileeieaaGrw
import Derived.Test.YtiacfejileeieaaMr
import Derived.Test.YtiacfejileeieaaFvm
import Derived.RegionTactic
import Derived.Deep.RegionLaw
namespace Go.Proofs.Ytiacfejileeieaa.pk
open Go.RowKit Go.Proofs.Ytiacfejileeieaa.sl Go.Proofs.Ytiacfejileeieaa.pm Go.Proofs.Ytiacfejileeieaa.br Go.Proofs.Ytiacfejileeieaa.bw Go.Proofs.Ytiacfejileeieaa.wk
set_option linter.unusedVariables false
set_option maxRecDepth 100000

def Rng (x : Int) : Prop := -100 ≤ x ∧ x ≤ 100

theorem SR_at {W : World} {lo : Nat} {v : Value} {vals : List Value} {L : List (List Int)} (h : SR W lo v vals L) (j : Nat) (hj : j < L.length) :
    ∃ g c, v = .slice (some ⟨g, 0, none⟩) L.length c ∧ g < W.heap.size ∧ W.cell? ⟨g, j, none⟩ = some (vals.getD j (.bool false)) ∧ Ints W W.heap.size (vals.getD j (.bool false)) (L.getD j []) := by
  have hrow := h.row
  rcases h.row.2 with ⟨_, h0⟩ | ⟨g, c, cur, hv, hb, hg, _⟩
  · omega
  · obtain ⟨Lo, Hi, he⟩ := h.els
    have hown : v.ownBlock = some g := by rw [hv]; rfl
    refine ⟨g, c, hv, (h.row.lt g hown).2, ?_, (he j hj).1.ints.mono (he j hj).1.2.2⟩
    have h1 := hrow.cells hown j (vals.getD j (.bool false)) (by
      have hj' : j < vals.length := by rw [h.len]; exact hj
      simp [List.getD, List.getElem?_eq_getElem hj'])
    rw [Addr.add_lit] at h1
    simpa using h1
theorem own_one (W : World) (x : Int) : Own (W.alloc (.cells #[.int .i64 x] 2)) W.heap.size (W.alloc (.cells #[.int .i64 x] 2)).heap.size (.slice (some ⟨W.heap.size, 0, none⟩) 1 1) [x] :=
  Own.mk' ⟨by simp, .inr ⟨W.heap.size, 1, #[.int .i64 x], rfl, Nat.le_refl _, heap_alloc_new W _, Nat.le_refl _, by unfold maxLen; omega, by simp, by simp⟩⟩

theorem implTouch (x y : Int) (hx : Rng x) (hy : Rng y) (w : World) : Calls Try.prog 113 #[.int .i64 x, .int .i64 y] w fun e w' => e = .returned (.bool (tchQ x y)) ∧ w = w' := by
  have HX := hid (fun W => implGen x hx W)
  have HY := hid (fun W => implGen y hy W)
  have hax : 0 ≤ ab x ∧ ab x ≤ 100 := by obtain ⟨h1, h2⟩ := hx; unfold ab; split <;> omega
  have hay : 0 ≤ ab y ∧ ab y ≤ 100 := by obtain ⟨h1, h2⟩ := hy; unfold ab; split <;> omega
  have HW := hid (fun W => show Calls Try.prog 59 #[.int .i64 (ab x - ab y), .int .i64 (-1), .int .i64 1] W fun e w' => e = .returned (.bool (tchQ x y)) ∧ W = w' from within64 (ab x - ab y) (-1) 1 W)
  have e1 : IntKind.i64.wrap (ab x - ab y) = ab x - ab y := IntWalk.i64_in _ (by omega)
  generalize tchQ x y = q at *
  generalize ab x = a at *
  generalize ab y = b at *
  go_enter Try.func113, Try.ntmps113
  go_wp2_with (first
    | (go_at_call_of 99 (Value.int .i64 x); refine (HX.out _).mono ?_; rintro e w1 ⟨rfl, rfl⟩)
    | (go_at_call 99; refine (HY.out _).mono ?_; rintro e w1 ⟨rfl, rfl⟩)
    | (go_at_call 59; refine (HW.out _).mono ?_; rintro e w1 ⟨rfl, rfl⟩))
  go_ret
  exact ⟨rfl, rfl⟩

theorem implPk1 (b : Nat) (x y : Int) (w : World) (hx : Rng x) (hy : Rng y) (h0 : w.cell? ⟨b, 0, none⟩ = some (.int .i64 x)) :
    Calls Try.prog 112 #[.int .i64 y, .pointer (some ⟨b, 0, none⟩)] w fun e w' => e = .returned (.bool (tchQ y x)) ∧ Below w.heap.size w w' := by
  have HT := hid (fun W => implTouch x y hx hy W)
  rw [tchQ_comm] at HT
  generalize tchQ y x = q at *
  go_enter Try.func112, Try.ntmps112
  go_wp2_with fail
  refine (HT.out _).mono ?_
  rintro e w1 ⟨rfl, rfl⟩
  go_wp2
  go_ret
  exact ⟨rfl, Below.refl _ _⟩

/-- A condition on elements that holds for those of a list alone. -/
theorem any_cong {p q : Int → Bool} {xs : List Int} (h : ∀ x ∈ xs, p x = q x) : xs.any p = xs.any q := by
  induction xs with
  | nil => rfl
  | cons x xs ih =>
    simp only [List.any_cons]
    rw [h x (by simp), ih (fun y hy => h y (by simp [hy]))]

set_option maxHeartbeats 4000000 in
theorem implPacked (x : Int) (lo : Nat) (v : Value) (vals : List Value) (L : List (List Int)) (n : Nat) (w : World) (h : SR w lo v vals L) (hlo : lo ≤ w.heap.size) (hx : Rng x) (hL : okL L n) (hn : n ≤ 40) (hr : ∀ y ∈ lastL L, Rng y) :
    Calls Try.prog 92 #[v, .int .i64 x] w fun e w' => ∃ v' vals', e = .returned v' ∧ SR w' lo v' vals' (pk L x) ∧ Below lo w w' := by
  have hal := (Below.refl w.heap.size w).alloc (Nat.le_refl _) (.cells #[.int .i64 x] 2)
  have H1 := hid (h.below hal)
  have kx : (w.alloc (.cells #[.int .i64 x] 2)).cell? ⟨w.heap.size, 0, none⟩ = some (.int .i64 x) := World.cell?_alloc_at _ _ _ _ rfl
  have hs0 : (w.alloc (.cells #[.int .i64 x] 2)).heap.size = w.heap.size + 1 := by simp
  have hlen := hL.1
  have hlz : ((w.alloc (.cells #[.int .i64 x] 2)).heap.size) = w.heap.size + 1 := hs0
  have hA : (w.alloc (.cells #[.int .i64 x] 2)).heap.size = w.heap.size + 1 := by simp
  have HOne : Hid (Own ((w.alloc (.cells #[.int .i64 x] 2)).alloc (.cells #[.int .i64 x] 2)) (w.alloc (.cells #[.int .i64 x] 2)).heap.size ((w.alloc (.cells #[.int .i64 x] 2)).alloc (.cells #[.int .i64 x] 2)).heap.size (.slice (some ⟨w.heap.size + 1, 0, none⟩) 1 1) [x]) := hid (by
    have h := own_one (w.alloc (.cells #[.int .i64 x] 2)) x
    rw [← hA]
    exact h)
  have HBA := hid hal
  by_cases h0 : L.length = 0
  · have hq : newQ L x = true := by simp [newQ, h0]
    have HPk : Hid (pk L x = L ++ [[x]]) := hid (by rw [pk, if_pos hq])
    obtain ⟨ao, cap, hv⟩ := h.val
    rw [h0] at hv
    subst hv
    clear hal h hL hr hlz hA hs0 hq
    go_enter Try.func92, Try.ntmps92
    go_wp2_with (at_builtin; refine wp_appR rfl _ _ rfl lo _ (.slice (some ⟨w.heap.size + 1, 0, none⟩) 1 1) vals L [x] H1.out ((Below.refl _ _).alloc (Nat.le_refl _) _) HOne.out rfl rfl (Eq.trans (b := Value.slice (some ⟨w.heap.size + 1 + 1, 0, none⟩) 1 1) rfl (by simp)) (by simp; omega) (by omega) ?_; intro v' w' s1 b1 g1 _; have HS1 := hid s1; have HB2 := hid b1; clear s1 b1 g1)
    go_ret
    exact ⟨_, _, rfl, by rw [HPk.out]; exact HS1.out, ((HBA.out.mono hlo).alloc (by simp; omega) _).trans HB2.out⟩
  · have hk : L.length - 1 < L.length := by omega
    obtain ⟨g, c, hv, hg, hcl, hin⟩ := SR_at H1.out (L.length - 1) hk
    have hin' : Ints (w.alloc (.cells #[.int .i64 x] 2)) (w.alloc (.cells #[.int .i64 x] 2)).heap.size (vals.getD (L.length - 1) (.bool false)) (lastL L) := hin
    have hok := hL.2 (L.length - 1) hk
    have hrl : (lastL L).length ≤ 40 ∧ 0 < (lastL L).length := ⟨by unfold lastL; omega, hok.1⟩
    have HCf := hid (fv.contFuncM (fun y => tchQ y x) 112 (.pointer (some ⟨w.heap.size, 0, none⟩)) (lastL L) _ _ _ hin' (Nat.le_refl _) (by omega) (fun _ _ => rfl) (fun y hy W b => implPk1 w.heap.size x y W hx (hr y hy) ((b.cell (p := ⟨w.heap.size, 0, none⟩) (by simp)).trans kx)))
    have hqq : newQ L x = (lastL L).any (fun y => tchQ y x) := by simp [newQ, h0, tch]
    rw [← hqq] at HCf
    obtain ⟨y, hy⟩ : ∃ y, y = vals.getD (L.length - 1) (.bool false) := ⟨_, rfl⟩
    obtain ⟨ya, yc, hyv⟩ := ints_val hin'
    rw [← hy] at hcl HCf hyv
    have HY := hid hy
    obtain ⟨m, hm⟩ : ∃ m, m = L.length := ⟨_, rfl⟩
    have hlast : (((m : Nat) : Int) - 1) = ((m - 1 : Nat) : Int) := by omega
    have hneg : decide (((m : Nat) : Int) - 1 < 0) = false := decide_eq_false (by omega)
    rw [← hm] at hv hcl hlen h0
    have HM := hid hm
    obtain ⟨r, hr0⟩ : ∃ r, r = (lastL L).length := ⟨_, rfl⟩
    rw [← hr0] at hyv hrl
    have HR := hid hr0
    have HL := hid hL
    have HHr := hid hr
    clear hr0 hm hy hin hin' hok hqq hr hL hs0 hlz
    subst hv hyv
    cases hq : newQ L x
    · have HPk : Hid (pk L x = L.set (L.length - 1) (lastL L ++ [x])) := hid (by rw [pk, if_neg (by rw [hq]; simp)])
      rw [hq] at HCf
      clear hq
      go_enter Try.func92, Try.ntmps92
      go_wp2_with (go_at_call 75; refine HCf.out.mono ?_; rintro e w2 ⟨rfl, b2⟩; have HB2 := hid b2; have k2 := (b2.cell (p := ⟨w.heap.size, 0, none⟩) (by simp)).trans kx; have hcl2 := (b2.cell (p := ⟨g, m - 1, none⟩) (by exact hg)).trans hcl; have hz2 := b2.size; clear b2)
      have hg2 : g < w2.heap.size := by omega
      have hw2 : w.heap.size < w2.heap.size := by omega
      have bD := (Below.refl w2.heap.size w2).drew
      have HS2 : Hid (SR w2.drew lo (.slice (some ⟨g, 0, none⟩) m c) vals L) := hid ((H1.out.below HB2.out).below bD)
      have bA : Below w2.heap.size w2 (w2.drew.alloc (.cells #[.int .i64 x] 2)) := bD.alloc (Nat.le_refl _) _
      have y0 := (bA.cell (p := ⟨w.heap.size, 0, none⟩) hw2).trans k2
      have y1 := (bA.cell (p := ⟨g, m - 1, none⟩) hg2).trans hcl2
      have HBw : Hid (Below lo w w2) := hid ((HBA.out.mono hlo).trans (HB2.out.mono (by omega)))
      clear bD bA
      go_region_law (refine step_growR rfl _ _ rfl lo g c (L.length - 1) (.slice (some ⟨g, 0, none⟩) m c) (.slice ya r yc) vals L x HS2.out (by rw [HM.out]) (by rw [← HM.out]; omega) (by show lo ≤ w2.heap.size; omega) (by have := hrl.1; have := HR.out; unfold lastL at this; omega) (by have := hrl.2; have := HR.out; unfold lastL at this; omega) HY.out rfl rfl ?_; intro y' w3 hy' G3; obtain ⟨ao3, c3, hv3⟩ := hy'; obtain ⟨q3, hq3⟩ : ∃ q, q = (L.getD (L.length - 1) []).length + 1 := ⟨_, rfl⟩; rw [← hq3] at hv3; clear hq3; subst hv3; have e3 := G3.cell; have e4 := G3.froz; rw [← HM.out] at e3 e4; have hs3 := G3.size; have HF3 : Hid (SR (w3.setCell ⟨g, m - 1, none⟩ (.slice ao3 q3 c3)) lo (.slice (some ⟨g, 0, none⟩) m c) (vals.set (L.length - 1) (.slice ao3 q3 c3)) (pk L x)) := hid (by have h := G3.sr; rw [HPk.out]; rw [HM.out] at h ⊢; exact h); have HG3 : Hid (Below lo w2 (w3.setCell ⟨g, m - 1, none⟩ (.slice ao3 q3 c3))) := hid (by have h := G3.below; rw [HM.out]; exact ⟨h.os, h.tape, h.output, h.size, h.block⟩); clear G3)
      all_goals (try go_wp2)
      all_goals go_ret
      all_goals exact ⟨_, _, rfl, HF3.out, HBw.out.trans HG3.out⟩
    · have HPk : Hid (pk L x = L ++ [[x]]) := hid (by rw [pk, if_pos hq])
      rw [hq] at HCf
      clear hq
      go_enter Try.func92, Try.ntmps92
      go_wp2_with (first
        | (go_at_call 75; refine HCf.out.mono ?_; rintro e w2 ⟨rfl, b2⟩; have HB2 := hid b2; have k2 := (b2.cell (p := ⟨w.heap.size, 0, none⟩) (by simp)).trans kx; have hz2 := b2.size; clear b2; have HS2 := hid (H1.out.below HB2.out))
        | (at_builtin; go_loud (refine wp_appR rfl _ _ rfl lo _ (.slice (some ⟨w2.heap.size, 0, none⟩) 1 1) vals L [x] HS2.out ((Below.refl _ _).alloc (Nat.le_refl _) _) (own_one w2 x) rfl rfl (Eq.trans (b := Value.slice (some ⟨w2.heap.size + 1, 0, none⟩) 1 1) rfl (by simp)) (by have := hz2; rw [hA] at this; omega) (by rw [← HM.out]; omega) ?_; intro v' w' s1 b1 g1 _; have HS1 := hid s1; have HB3 := hid b1; clear s1 b1 g1)))
      go_ret
      exact ⟨_, _, rfl, by rw [HPk.out]; exact HS1.out, (((HBA.out.mono hlo).trans (HB2.out.mono (by omega))).alloc (by omega) _).trans HB3.out⟩

def okR (L : List (List Int)) : Prop := ∀ r ∈ L, ∀ y ∈ r, Rng y
theorem lastL_mem {L : List (List Int)} (h : okR L) : ∀ y ∈ lastL L, Rng y := by
  intro y hy
  unfold lastL at hy
  by_cases hl : L.length - 1 < L.length
  · rw [show L.getD (L.length - 1) [] = L[L.length - 1] from by simp [List.getD, List.getElem?_eq_getElem hl]] at hy
    exact h _ (List.getElem_mem hl) y hy
  · rw [show L.getD (L.length - 1) [] = [] from by simp [List.getD, List.getElem?_eq_none (Nat.le_of_not_lt hl)]] at hy
    simp at hy
theorem okR_pk {L : List (List Int)} {x : Int} (h : okR L) (hx : Rng x) : okR (pk L x) := by
  unfold pk
  split
  · intro r hr y hy
    rcases List.mem_append.1 hr with h1 | h1
    · exact h r h1 y hy
    · simp only [List.mem_singleton] at h1
      subst h1
      simp only [List.mem_singleton] at hy
      subst hy; exact hx
  · intro r hr y hy
    rcases List.mem_or_eq_of_mem_set hr with h1 | h1
    · exact h r h1 y hy
    · subst h1
      rcases List.mem_append.1 hy with h2 | h2
      · exact lastL_mem h y h2
      · simp only [List.mem_singleton] at h2
        subst h2; exact hx
theorem okR_T {xs : List Int} (h : ∀ j, j < xs.length → Rng (xs.getD j 0)) : ∀ k, k ≤ xs.length → okR (pkT xs k)
  | 0, _ => fun r hr => by simp [pkT] at hr
  | k + 1, hk => by
    rw [pkT_succ xs k hk]
    exact okR_pk (okR_T h k (by omega)) (h k hk)

set_option maxHeartbeats 1000000 in
theorem implOver (xs : List Int) (v u : Value) (B lo : Nat) (w : World) (ha : Ints w B v xs) (hB : B ≤ lo) (hlo : lo ≤ w.heap.size) (hn : xs.length ≤ 40) (hr : ∀ j, j < xs.length → Rng (xs.getD j 0)) (vals : List Value) (hs : SR w lo u vals []) :
    Calls Try.prog 93 #[.func (.func 92) #[] #[], u, v] w fun e w' => ∃ v' vals', e = .returned v' ∧ SR w' lo v' vals' (pkT xs xs.length) ∧ Below lo w w' := by
  have HOk := hid (okL_T xs)
  have HRr := hid (okR_T hr)
  have HR0 := hid hr
  have HS0 := hid hs
  rcases ha with ⟨rfl, ao, cap, rfl⟩ | ⟨hp, b, off, cap, rfl, hbb, hc⟩
  · go_enter Try.func93, Try.ntmps93
    go_wp2
    refine wp_loop_rounds 1 ?_
    rw [rounds_succ]
    go_wp2
    go_ret
    exact ⟨_, _, rfl, HS0.out, Below.refl _ _⟩
  · obtain ⟨n, hnn⟩ : ∃ n, n = xs.length := ⟨_, rfl⟩
    rw [← hnn] at hp hc hn ⊢
    have HN := hid hnn
    have HC := hid hc
    clear hnn hc hs hr
    go_enter Try.func93, Try.ntmps93
    go_wp2
    go_loopw [1, 11] (fun s i wr => ∃ k : Nat, k ≤ n ∧ i = .int .i64 k ∧ (∃ vals, SR wr lo s vals (pkT xs k)) ∧ Below lo w wr) (fun _ i _ => n - (intOf i).toNat)
    case atStart => exact ⟨0, Nat.zero_le _, rfl, ⟨_, HS0.out⟩, Below.refl _ _⟩
    case round =>
      obtain ⟨k, hk, rfl, ⟨vk, hsr⟩, hbel⟩ := hrel
      have HS := hid hsr
      have HB := hid hbel
      clear hsr hbel
      by_cases hlt : k < n
      · have h1 : wr.cell? ⟨b, off + k, none⟩ = some (.int .i64 (xs.getD k 0)) := (HB.out.cell (p := ⟨b, off + k, none⟩) (by show b < _; omega)).trans (HC.out k hlt)
        have HX := hid (pkT_succ xs k (by rw [← HN.out]; exact hlt))
        have hxr := HR0.out k (by rw [← HN.out]; exact hlt)
        have hok := HOk.out k (by rw [← HN.out]; exact hk)
        have HP := hid (implPacked (xs.getD k 0) lo _ vk (pkT xs k) k wr HS.out (by have := HB.out.size; omega) hxr hok (by omega) (lastL_mem (HRr.out k (by rw [← HN.out]; exact hk))))
        rw [← HX.out] at HP
        clear hok hxr
        generalize xs.getD k 0 = x at *
        go_wp2_with fail
        refine HP.out.mono ?_
        rintro e w1 ⟨v1, vals1, rfl, s1, b1⟩
        have HS1 := hid s1
        have HB1 := hid (HB.out.trans b1)
        clear s1 b1
        go_wp2
        go_roundw
        case rel => exact ⟨k + 1, by omega, by go_num, ⟨vals1, HS1.out⟩, HB1.out⟩
        case measure => simp [intOf]; omega
      · obtain rfl : k = n := by omega
        go_wp2
        go_ret
        exact ⟨_, _, rfl, HS.out, HB.out⟩
end Go.Proofs.Ytiacfejileeieaa.pk
