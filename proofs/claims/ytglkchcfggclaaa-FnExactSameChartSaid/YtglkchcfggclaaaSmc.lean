/-
  SameChart of both sides.
-/
import Derived.Test.YtglkchcfggclaaaCto
import Derived.Test.YtglkchcfggclaaaSn
import Derived.Lib.QuietBelow
import Derived.BigQuiet
namespace Go.Proofs.Ytglkchcfggclaaa.ro
open Go.RowKit Go.Sort Go.Proofs.Ytglkchcfggclaaa.sl Go.Proofs.Ytglkchcfggclaaa.br Go.Proofs.Ytglkchcfggclaaa.ss Go.Proofs.Ytglkchcfggclaaa.nb
set_option linter.unusedVariables false
set_option linter.unusedSimpArgs false
theorem two_old (w : World) (cs : Array Value) (T : TypeId) (o : Obj) (j : Nat) : ((w.alloc (.cells cs T)).alloc o).cell? ⟨w.heap.size, j, none⟩ = cs[j]? :=
  (((Below.refl _ (w.alloc (.cells cs T))).alloc (Nat.le_refl _) o).cell (p := ⟨w.heap.size, j, none⟩) (by simp)).trans (World.cell?_alloc_at _ _ _ _ rfl)
theorem two_new (w : World) (o : Obj) (cs : Array Value) (T : TypeId) (j : Nat) : ((w.alloc o).alloc (.cells cs T)).cell? ⟨w.heap.size + 1, j, none⟩ = cs[j]? :=
  (by simp : (w.alloc o).heap.size = w.heap.size + 1) ▸ (World.cell?_alloc_at (w := w.alloc o) _ _ _ _ rfl)
def eqV (x y : V) : Bool := x.a0 == y.a0 && (x.a1 == y.a1 && sameB x.ps y.ps)
def sameI (xs ys : List V) : Bool := decide (xs.length = ys.length) && (List.range xs.length).all fun j => eqV (xs.getD j iz) (ys.getD j iz)
theorem sameI_len {xs ys : List V} (h : ¬ xs.length = ys.length) : sameI xs ys = false := by simp [sameI, h]
theorem sameI_bad {xs ys : List V} (k : Nat) (hk : k < xs.length) (h : eqV (xs.getD k iz) (ys.getD k iz) = false) : sameI xs ys = false := by
  simp only [sameI, Bool.and_eq_false_iff]
  right
  rw [List.all_eq_false]
  exact ⟨k, by simpa using hk, by rw [h]; simp⟩
theorem sameI_good {xs ys : List V} (hl : xs.length = ys.length) (h : ∀ k, k < xs.length → eqV (xs.getD k iz) (ys.getD k iz) = true) : sameI xs ys = true := by
  simp only [sameI, Bool.and_eq_true, decide_eq_true_eq]
  refine ⟨hl, ?_⟩
  rw [List.all_eq_true]
  intro j hj
  exact h j (by simpa using hj)

theorem hasYarn (x0 x1 : Int) (f : Value) (y0 y1 : Int) (g : Value) (w : World) (hf : ∃ a n c, f = .slice a n c) (hg : ∃ a n c, g = .slice a n c) :
    Calls Try.prog 31 #[.agg #[.int .i64 x0, .int .i64 x1, f], .agg #[.int .i64 y0, .int .i64 y1, g]] w fun e w' => e = .returned (.bool (x0 == y0 && x1 == y1)) ∧ Below w.heap.size w w' := by
  obtain ⟨a, n, c, rfl⟩ := hf
  obtain ⟨b, m, d, rfl⟩ := hg
  have HBl : Hid (Below w.heap.size w ((w.alloc (.cells #[.int .i64 x0, .int .i64 x1, .slice a n c] 27)).alloc (.cells #[.int .i64 y0, .int .i64 y1, .slice b m d] 27))) := hid (((Below.refl w.heap.size w).alloc (Nat.le_refl _) _).alloc (by simp) _)
  obtain ⟨q, hq⟩ : ∃ q, q = (x0 == y0 && x1 == y1) := ⟨_, rfl⟩
  rw [← hq]
  obtain ⟨b0, hb0⟩ : ∃ b, (x0 == y0) = b := ⟨_, rfl⟩
  rw [hb0] at hq
  cases b0 with
  | false =>
    have HQ : Hid (q = false) := hid (by rw [hq]; simp)
    clear hq
    go_enter Try.func31, Try.ntmps31
    go_wp2
    go_ret
    exact ⟨by rw [HQ.out]; first | done | rfl, HBl.out⟩
  | true =>
    obtain ⟨b1, hb1⟩ : ∃ b, (x1 == y1) = b := ⟨_, rfl⟩
    rw [hb1] at hq
    have HQ : Hid (q = b1) := hid (by rw [hq]; simp)
    clear hq
    go_enter Try.func31, Try.ntmps31
    go_wp2
    go_ret
    exact ⟨by rw [HQ.out]; first | done | rfl, HBl.out⟩

set_option maxRecDepth 100000 in
theorem sameRow (x0 x1 : Int) (ps : List Int) (f : Value) (y0 y1 : Int) (qs : List Int) (g : Value) (B C : Nat) (w : World) (ha : Ints w B f ps) (hb : Ints w C g qs) (hn : ps.length ≤ 1048576) (hm : qs.length ≤ 1048576) :
    Calls Try.prog 24 #[.agg #[.int .i64 x0, .int .i64 x1, f], .agg #[.int .i64 y0, .int .i64 y1, g]] w fun e w' => e = .returned (.bool (eqV ⟨x0, x1, ps⟩ ⟨y0, y1, qs⟩)) ∧ Below w.heap.size w w' := by
  obtain ⟨q, hq⟩ : ∃ q, q = eqV ⟨x0, x1, ps⟩ ⟨y0, y1, qs⟩ := ⟨_, rfl⟩
  rw [← hq]
  simp only [eqV] at hq
  rw [← Bool.and_assoc] at hq
  have HE := hid (fun W ha hb => equalQ ps qs f g B C W ha hb (by omega) (by omega))
  obtain ⟨ao, cap, hv⟩ := ints_val ha
  obtain ⟨ao', cap', hu⟩ := ints_val hb
  have HY := hid (fun W => hasYarn x0 x1 f y0 y1 g W ⟨_, _, _, hv⟩ ⟨_, _, _, hu⟩)
  have HA := hid (ints_al (ints_al ha (.cells #[.int .i64 x0, .int .i64 x1, f] 27)) (.cells #[.int .i64 y0, .int .i64 y1, g] 27))
  have HB := hid (ints_al (ints_al hb (.cells #[.int .i64 x0, .int .i64 x1, f] 27)) (.cells #[.int .i64 y0, .int .i64 y1, g] 27))
  have HBl : Hid (Below w.heap.size w ((w.alloc (.cells #[.int .i64 x0, .int .i64 x1, f] 27)).alloc (.cells #[.int .i64 y0, .int .i64 y1, g] 27))) := hid (((Below.refl w.heap.size w).alloc (Nat.le_refl _) _).alloc (by simp) _)
  have hX : ∀ o, ((w.alloc (.cells #[.int .i64 x0, .int .i64 x1, f] 27)).alloc (.cells #[.int .i64 y0, .int .i64 y1, g] 27)).cell? ⟨w.heap.size, o, none⟩ = #[.int .i64 x0, .int .i64 x1, f][o]? := fun o => Go.Proofs.Ytglkchcfggclaaa.ro.two_old _ _ _ _ _
  have hY : ∀ o, ((w.alloc (.cells #[.int .i64 x0, .int .i64 x1, f] 27)).alloc (.cells #[.int .i64 y0, .int .i64 y1, g] 27)).cell? ⟨w.heap.size + 1, o, none⟩ = #[.int .i64 y0, .int .i64 y1, g][o]? := fun o => Go.Proofs.Ytglkchcfggclaaa.ro.two_new _ _ _ _ _
  have x2 := hX 2
  have y2 := hY 2
  have hzw : w.heap.size + 2 ≤ ((w.alloc (.cells #[.int .i64 x0, .int .i64 x1, f] 27)).alloc (.cells #[.int .i64 y0, .int .i64 y1, g] 27)).heap.size := by simp
  clear ha hb hX hY
  generalize sameB ps qs = r at *
  generalize ps.length = n at *
  generalize qs.length = m at *
  subst hv hu
  generalize (x0 == y0 && x1 == y1) = yb at *
  simp only [List.getElem?_toArray, List.getElem?_cons_succ, List.getElem?_cons_zero] at x2 y2
  cases yb with
  | false =>
    have HQ : Hid (q = false) := hid (by rw [hq]; rfl)
    clear hq x2 y2
    go_enter Try.func24, Try.ntmps24
    go_wp2_with fail
    refine (HY.out _).mono ?_
    rintro e w1 ⟨rfl, b1⟩
    have B1 := hid (HBl.out.trans (b1.mono HBl.out.size))
    clear b1
    go_wp2
    go_ret
    exact ⟨by rw [HQ.out]; first | done | rfl, B1.out⟩
  | true =>
    have HQ : Hid (q = r) := hid (by rw [hq]; rfl)
    clear hq
    go_enter Try.func24, Try.ntmps24
    go_wp2_with fail
    refine (HY.out _).mono ?_
    rintro e w1 ⟨rfl, b1⟩
    have B1 := hid (HBl.out.trans (b1.mono HBl.out.size))
    have z2 := (b1.cell (p := ⟨w.heap.size, 2, none⟩) (by show w.heap.size < _; omega)).trans x2
    have z3 := (b1.cell (p := ⟨w.heap.size + 1, 2, none⟩) (by show w.heap.size + 1 < _; omega)).trans y2
    have HA1 := hid (HA.out.chg (Chg.ofBelow (lo := 0) b1) (.inr (Nat.zero_le _)))
    have HB1 := hid (HB.out.chg (Chg.ofBelow (lo := 0) b1) (.inr (Nat.zero_le _)))
    clear b1 x2 y2 HA HB
    go_wp2_with fail
    refine (HE.out _ HA1.out HB1.out).mono ?_
    rintro e w2 ⟨rfl, q1, rfl⟩
    go_wp2
    go_ret
    exact ⟨by rw [HQ.out]; first | done | rfl, bdrewN B1.out _⟩

set_option maxRecDepth 100000 in
set_option maxHeartbeats 2000000 in
theorem equalI (xs ys : List V) (f g : Value) (B C : Nat) (w : World) (ha : Infs w B f xs) (hb : Infs w C g ys) (hq : Small xs) (hr : Small ys) :
    Calls Try.prog 23 #[f, g, .func (.func 24) #[] #[]] w fun e w' => e = .returned (.bool (sameI xs ys)) ∧ Below w.heap.size w w' := by
  have eg := enters_of Try.func24 (by kernel_rfl) rfl
  have hn := hq.len
  have hm := hr.len
  have HS := hid hq.short
  have HS' := hid hr.short
  clear hq hr
  by_cases hl : ¬ xs.length = ys.length
  · have HQ := hid (sameI_len hl)
    obtain ⟨ao, cap, rfl⟩ := infs_val ha
    obtain ⟨ao', cap', rfl⟩ := infs_val hb
    generalize sameI xs ys = q at *
    clear HS HS' ha hb
    generalize xs.length = n at *
    generalize ys.length = m at *
    have hd : ((n : Int) == (m : Int)) = false := by simp; omega
    have hd' : ((n : Int) != (m : Int)) = true := by simp; omega
    clear hl
    go_enter Try.func23, Try.ntmps23
    go_wp2
    go_ret
    exact ⟨by rw [HQ.out]; first | done | rfl, Below.refl _ _⟩
  replace hl : xs.length = ys.length := Decidable.not_not.1 hl
  have HBad := hid (fun k h1 h2 => sameI_bad (xs := xs) (ys := ys) k h1 h2)
  have HGood := hid (sameI_good (xs := xs) (ys := ys) hl)
  by_cases h0 : xs.length = 0
  · have HQ := hid (HGood.out (fun k hk => by omega))
    obtain ⟨ao, cap, rfl⟩ := infs_val ha
    obtain ⟨ao', cap', rfl⟩ := infs_val hb
    rw [← hl, h0]
    generalize sameI xs ys = q at *
    clear ha hb hl HBad HGood h0 HS HS'
    go_enter Try.func23, Try.ntmps23
    go_wp2
    refine wp_loop_rounds 1 ?_
    rw [rounds_succ]
    go_wp2
    go_ret
    exact ⟨by rw [HQ.out]; first | done | rfl, Below.refl _ _⟩
  rcases ha with ⟨h, _⟩ | ⟨hp, b, off, cap, F, rfl, hbb, hc⟩
  · exact absurd (by rw [h]; rfl) h0
  rcases hb with ⟨h, _⟩ | ⟨hp', b', off', cap', G, rfl, hbb', hc'⟩
  · exact absurd (by rw [hl, h]; rfl) h0
  have HC := hid hc
  have HC' := hid hc'
  clear hc hc' h0 hp'
  obtain ⟨n, hnn⟩ : ∃ n, n = xs.length := ⟨_, rfl⟩
  rw [← hnn] at hp hn HC HBad HGood hl HS ⊢
  rw [← hl] at HC' HS' ⊢
  clear hnn hl hm
  generalize sameI xs ys = q at *
  go_enter Try.func23, Try.ntmps23
  go_wp2
  go_loopw [17] (fun i wr => ∃ k : Nat, k ≤ n ∧ i = .int .i64 k ∧ (∀ j, j < k → eqV (xs.getD j iz) (ys.getD j iz) = true) ∧ Below w.heap.size w wr) (fun i _ => n - (intOf i).toNat)
  case atStart => exact ⟨0, Nat.zero_le _, rfl, fun j hj => by omega, Below.refl _ _⟩
  case round =>
    obtain ⟨k, hk, rfl, hall, hbel⟩ := hrel
    have HB := hid hbel
    have HAll := hid hall
    clear hbel hall
    by_cases hlt : k < n
    · have HA := ((HC.out k hlt).1).below HB.out
      have HA' := ((HC'.out k hlt).1).below HB.out
      have HI := hid (((HC.out k hlt).2).chg (Chg.ofBelow (lo := 0) HB.out) (.inr (Nat.zero_le _)))
      have HI' := hid (((HC'.out k hlt).2).chg (Chg.ofBelow (lo := 0) HB.out) (.inr (Nat.zero_le _)))
      have hsx := HS.out k hlt
      have hsy := HS'.out k hlt
      have HBd := hid (HBad.out k hlt)
      have HSt : Hid (eqV (xs.getD k iz) (ys.getD k iz) = true → ∀ j, j < k + 1 → eqV (xs.getD j iz) (ys.getD j iz) = true) := hid (fun h j hj => by
        rcases Nat.lt_or_ge j k with h' | h'
        · exact HAll.out j h'
        · obtain rfl : j = k := by omega
          exact h)
      generalize xs.getD k iz = x at HA HI HBd HSt hsx
      generalize ys.getD k iz = y at HA' HI' HBd HSt hsy
      generalize F k = fk at *
      generalize G k = gk at *
      obtain ⟨x0, x1, ps⟩ := x
      obtain ⟨y0, y1, qs⟩ := y
      simp only at HI HI' hsx hsy
      have hE1 := (Below.refl wr.heap.size wr).alloc (Nat.le_refl _) (.cells #[.int .i64 x0, .int .i64 x1, fk] 27)
      have hE2 := hE1.alloc (by simp) (.cells #[.int .i64 y0, .int .i64 y1, gk] 27)
      have c0 := HA.c0
      have c1 := HA.c1
      have c2 := HA.c2
      have e0 := (HA'.below hE1).c0
      have e1 := (HA'.below hE1).c1
      have e2 := (HA'.below hE1).c2
      simp only at c0 c1 c2 e0 e1 e2
      obtain ⟨ao, cp, hv⟩ := ints_val HI.out
      obtain ⟨ao', cp', hu⟩ := ints_val HI'.out
      have HBE := hid (HB.out.trans (hE2.mono HB.out.size))
      have HIx := hid (HI.out.chg (Chg.ofBelow (lo := 0) hE2) (.inr (Nat.zero_le _)))
      have HIy := hid (HI'.out.chg (Chg.ofBelow (lo := 0) hE2) (.inr (Nat.zero_le _)))
      have HF := hid (fun W i j => sameRow x0 x1 ps fk y0 y1 qs gk B C W i j hsx hsy)
      clear HA HA' hE1 hE2 HI HI' hsx hsy
      generalize ps.length = l1 at *
      generalize qs.length = l2 at *
      subst hv hu
      go_wp2_with fail
      clear c0 c1 c2 e0 e1 e2
      refine (HF.out _ HIx.out HIy.out).mono ?_
      rintro e w2 ⟨rfl, b2⟩
      have HB2 := hid (HBE.out.trans (b2.mono HBE.out.size))
      clear b2 HF HIx HIy HBE
      generalize eqV ⟨x0, x1, ps⟩ ⟨y0, y1, qs⟩ = r at *
      cases r with
      | true =>
        have HSt2 := hid (HSt.out rfl)
        go_wp2
        go_roundw
        case rel => exact ⟨k + 1, by omega, by go_num, HSt2.out, HB2.out⟩
        case measure => simp [intOf]; omega
      | false =>
        have HQ := hid (HBd.out rfl)
        go_wp2
        go_ret
        exact ⟨by rw [HQ.out]; first | done | rfl, HB2.out⟩
    · obtain rfl : k = n := by omega
      have HQ := hid (HGood.out HAll.out)
      go_wp2
      go_ret
      exact ⟨by rw [HQ.out]; first | done | rfl, HB.out⟩

/-- Both charts are equal. -/
def sameC (a : Int) (xs : List V) (c : Int) (ys : List V) : Bool := a == c && sameI xs ys
set_option maxRecDepth 100000 in
theorem implSC (a : Int) (xs : List V) (c : Int) (ys : List V) (f g : Value) (B C : Nat) (w : World) (ha : Infs w B f xs) (hB : B ≤ w.heap.size) (hb : Infs w C g ys) (hC : C ≤ w.heap.size) (hq : Small xs) (hr : Small ys) :
    Calls Try.prog 13 #[.agg #[.int .i64 a, f], .agg #[.int .i64 c, g]] w fun e w' => e = .returned (.bool (sameC a xs c ys)) ∧ Below w.heap.size w w' := by
  have HBl : Hid (Below w.heap.size w ((w.alloc (.cells #[.int .i64 a, f] 38)).alloc (.cells #[.int .i64 c, g] 38))) := hid (((Below.refl w.heap.size w).alloc (Nat.le_refl _) _).alloc (by simp) _)
  have HE := hid (equalI xs ys f g B C _ ((ha.al (.cells #[.int .i64 a, f] 38)).al (.cells #[.int .i64 c, g] 38)) ((hb.al (.cells #[.int .i64 a, f] 38)).al (.cells #[.int .i64 c, g] 38)) hq hr)
  obtain ⟨ao, cap, hv⟩ := infs_val ha
  obtain ⟨ao', cap', hu⟩ := infs_val hb
  obtain ⟨q, hqq⟩ : ∃ q, q = sameC a xs c ys := ⟨_, rfl⟩
  rw [← hqq]
  simp only [sameC] at hqq
  clear ha hb hq hr
  generalize sameI xs ys = r at *
  generalize xs.length = n at *
  generalize ys.length = m at *
  subst hv hu
  obtain ⟨b0, hb0⟩ : ∃ b, (a == c) = b := ⟨_, rfl⟩
  rw [hb0] at hqq
  cases b0 with
  | false =>
    have HQ : Hid (q = false) := hid (by rw [hqq]; rfl)
    clear hqq HE
    go_enter Try.func13, Try.ntmps13
    go_wp2
    go_ret
    exact ⟨by rw [HQ.out]; first | done | rfl, HBl.out⟩
  | true =>
    have HQ : Hid (q = r) := hid (by rw [hqq]; rfl)
    clear hqq
    go_enter Try.func13, Try.ntmps13
    go_wp2_with fail
    refine HE.out.mono ?_
    rintro e w1 ⟨rfl, b1⟩
    have B1 := hid (HBl.out.trans (b1.mono HBl.out.size))
    clear b1
    go_wp2
    go_ret
    exact ⟨by rw [HQ.out]; first | done | rfl, B1.out⟩

set_option maxRecDepth 100000 in
set_option maxHeartbeats 4000000 in
theorem specSC (a : Int) (xs : List V) (c : Int) (ys : List V) (f g : Value) (B C : Nat) (w : World) (ha : Infs w B f xs) (hB : B ≤ w.heap.size) (hb : Infs w C g ys) (hC : C ≤ w.heap.size) (hq : Small xs) (hr : Small ys) :
    Calls Try.prog 11 #[.agg #[.int .i64 a, f], .agg #[.int .i64 c, g]] w fun e w' => e = .returned (.bool (sameC a xs c ys)) ∧ Below w.heap.size w w' := by
  have hn := hq.len
  have hm := hr.len
  have HBl : Hid (Below w.heap.size w ((w.alloc (.cells #[.int .i64 a, f] 38)).alloc (.cells #[.int .i64 c, g] 38))) := hid (((Below.refl w.heap.size w).alloc (Nat.le_refl _) _).alloc (by simp) _)
  obtain ⟨q, hqq⟩ : ∃ q, q = sameC a xs c ys := ⟨_, rfl⟩
  rw [← hqq]
  simp only [sameC] at hqq
  obtain ⟨b0, hb0⟩ : ∃ b, (a == c) = b := ⟨_, rfl⟩
  have hb0' : (a != c) = !b0 := by rw [← hb0]; rfl
  rw [hb0] at hqq
  cases b0 with
  | false =>
    obtain ⟨ao, cap, hv⟩ := infs_val ha
    obtain ⟨ao', cap', hu⟩ := infs_val hb
    have HQ : Hid (q = false) := hid (by rw [hqq]; rfl)
    simp only [Bool.not_false] at hb0'
    clear hqq ha hb hq hr
    generalize xs.length = n at *
    generalize ys.length = m at *
    subst hv hu
    go_enter Try.func11, Try.ntmps11
    go_wp2
    go_ret
    exact ⟨by rw [HQ.out]; first | done | rfl, HBl.out⟩
  | true =>
    simp only [Bool.not_true] at hb0'
    by_cases hl : ¬ xs.length = ys.length
    · have HQ : Hid (q = false) := hid (by rw [hqq, sameI_len hl]; rfl)
      obtain ⟨ao, cap, hv⟩ := infs_val ha
      obtain ⟨ao', cap', hu⟩ := infs_val hb
      clear hqq ha hb hq hr
      generalize xs.length = n at *
      generalize ys.length = m at *
      subst hv hu
      have hd : ((n : Int) == (m : Int)) = false := by simp; omega
      have hd' : ((n : Int) != (m : Int)) = true := by simp; omega
      clear hl
      go_enter Try.func11, Try.ntmps11
      go_wp2
      go_ret
      exact ⟨by rw [HQ.out]; first | done | rfl, HBl.out⟩
    replace hl : xs.length = ys.length := Decidable.not_not.1 hl
    have HQ0 : Hid (q = sameI xs ys) := hid (by rw [hqq]; rfl)
    have HBad := hid (fun k h1 h2 => sameI_bad (xs := xs) (ys := ys) k h1 h2)
    have HGood := hid (sameI_good (xs := xs) (ys := ys) hl)
    have HS := hid hq.short
    have HS' := hid hr.short
    clear hqq hq hr
    by_cases h0 : xs.length = 0
    · have HQ := hid (HQ0.out.trans (HGood.out (fun k hk => by omega)))
      obtain ⟨ao, cap, hv⟩ := infs_val ha
      obtain ⟨ao', cap', hu⟩ := infs_val hb
      rw [h0] at hv
      rw [← hl, h0] at hu
      clear ha hb HBad HGood HQ0 HS HS' h0 hl hn hm
      subst hv hu
      go_enter Try.func11, Try.ntmps11
      go_wp2
      refine wp_loop_rounds 1 ?_
      rw [rounds_succ]
      go_wp2
      go_ret
      exact ⟨by rw [HQ.out]; first | done | rfl, HBl.out⟩
    rcases ha with ⟨h, _⟩ | ⟨hp, b, off, cap, F, rfl, hbb, hc⟩
    · exact absurd (by rw [h]; rfl) h0
    rcases hb with ⟨h, _⟩ | ⟨hp', b', off', cap', G, rfl, hbb', hc'⟩
    · exact absurd (by rw [hl, h]; rfl) h0
    have HC := hid hc
    have HC' := hid hc'
    clear hc hc' h0 hp'
    obtain ⟨n, hnn⟩ : ∃ n, n = xs.length := ⟨_, rfl⟩
    rw [← hnn] at hp hn HC HBad HGood hl HS HBl ⊢
    rw [← hl] at HC' HS' HBl ⊢
    clear hnn hl hm
    generalize sameI xs ys = si at *
    have hX : ∀ o, ((w.alloc (.cells #[.int .i64 a, .slice (some ⟨b, off, none⟩) n cap] 38)).alloc (.cells #[.int .i64 c, .slice (some ⟨b', off', none⟩) n cap'] 38)).cell? ⟨w.heap.size, o, none⟩ = #[.int .i64 a, .slice (some ⟨b, off, none⟩) n cap][o]? := fun o => ro.two_old _ _ _ _ _
    have hY : ∀ o, ((w.alloc (.cells #[.int .i64 a, .slice (some ⟨b, off, none⟩) n cap] 38)).alloc (.cells #[.int .i64 c, .slice (some ⟨b', off', none⟩) n cap'] 38)).cell? ⟨w.heap.size + 1, o, none⟩ = #[.int .i64 c, .slice (some ⟨b', off', none⟩) n cap'][o]? := fun o => ro.two_new _ _ _ _ _
    have HX1 := hid (hX 1)
    have HY1 := hid (hY 1)
    have hzw : w.heap.size + 2 ≤ ((w.alloc (.cells #[.int .i64 a, .slice (some ⟨b, off, none⟩) n cap] 38)).alloc (.cells #[.int .i64 c, .slice (some ⟨b', off', none⟩) n cap'] 38)).heap.size := by simp
    clear hX hY
    go_enter Try.func11, Try.ntmps11
    go_wp2
    generalize (w.alloc (.cells #[.int .i64 a, .slice (some ⟨b, off, none⟩) n cap] 38)).alloc (.cells #[.int .i64 c, .slice (some ⟨b', off', none⟩) n cap'] 38) = W0 at *
    go_loopw [5] (fun i wr => ∃ k : Nat, k ≤ n ∧ i = .int .i64 k ∧ (∀ j, j < k → eqV (xs.getD j iz) (ys.getD j iz) = true) ∧ Below W0.heap.size W0 wr) (fun i _ => n - (intOf i).toNat)
    case atStart => exact ⟨0, Nat.zero_le _, rfl, fun j hj => by omega, Below.refl _ _⟩
    case round =>
      obtain ⟨k, hk, rfl, hall, hbel⟩ := hrel
      have HB0 := hid hbel
      have HB := hid (HBl.out.trans (hbel.mono HBl.out.size))
      have HAll := hid hall
      have x1 := (hbel.cell (p := ⟨w.heap.size, 1, none⟩) (by show w.heap.size < _; omega)).trans HX1.out
      have y1 := (hbel.cell (p := ⟨w.heap.size + 1, 1, none⟩) (by show w.heap.size + 1 < _; omega)).trans HY1.out
      simp only [List.getElem?_toArray, List.getElem?_cons_succ, List.getElem?_cons_zero] at x1 y1
      clear hbel hall
      by_cases hlt : k < n
      · have HA := ((HC.out k hlt).1).below HB.out
        have HA' := ((HC'.out k hlt).1).below HB.out
        have HI := hid (((HC.out k hlt).2).chg (Chg.ofBelow (lo := 0) HB.out) (.inr (Nat.zero_le _)))
        have HI' := hid (((HC'.out k hlt).2).chg (Chg.ofBelow (lo := 0) HB.out) (.inr (Nat.zero_le _)))
        have hsx := HS.out k hlt
        have hsy := HS'.out k hlt
        have HBd := hid (HBad.out k hlt)
        have HSt : Hid (eqV (xs.getD k iz) (ys.getD k iz) = true → ∀ j, j < k + 1 → eqV (xs.getD j iz) (ys.getD j iz) = true) := hid (fun h j hj => by
          rcases Nat.lt_or_ge j k with h' | h'
          · exact HAll.out j h'
          · obtain rfl : j = k := by omega
            exact h)
        generalize xs.getD k iz = x at HA HI HBd HSt hsx
        generalize ys.getD k iz = y at HA' HI' HBd HSt hsy
        generalize F k = fk at *
        generalize G k = gk at *
        obtain ⟨u0, u1, ps⟩ := x
        obtain ⟨v0, v1, qs⟩ := y
        simp only at HI HI' hsx hsy
        have HEq : Hid (eqV ⟨u0, u1, ps⟩ ⟨v0, v1, qs⟩ = (u0 == v0 && (u1 == v1 && sameB ps qs))) := hid rfl
        obtain ⟨ao, cp, hv⟩ := ints_val HI.out
        obtain ⟨ao', cp', hu⟩ := ints_val HI'.out
        obtain ⟨r, hrr⟩ : ∃ r, sameB ps qs = r := ⟨_, rfl⟩
        have HF := hid (fun d => nb.sameQ' ps qs r hrr fk gk B C wr HI.out HI'.out (by omega) (by omega) d)
        rw [hrr] at HEq
        clear hrr
        generalize eqV ⟨u0, u1, ps⟩ ⟨v0, v1, qs⟩ = ev at *
        generalize ps.length = l1 at *
        generalize qs.length = l2 at *
        subst hv hu
        obtain ⟨g0, hg0⟩ : ∃ b, (u0 == v0) = b := ⟨_, rfl⟩
        have hh0 : (u0 != v0) = !g0 := by rw [← hg0]; rfl
        cases g0 with
        | false =>
          simp only [Bool.not_false] at hh0
          have HQ : Hid (q = false) := hid (by rw [HQ0.out]; exact HBd.out (by rw [HEq.out, hg0]; rfl))
          have c0 := HA.c0
          have c1 := HA.c1
          have c2 := HA.c2
          have e0 := HA'.c0
          have e1 := HA'.c1
          have e2 := HA'.c2
          simp only at c0 c1 c2 e0 e1 e2
          clear HA HA' HI HI' HF
          go_wp2_with fail
          go_quiet (fail)
          go_wp2
          go_ret
          exact ⟨by rw [HQ.out]; first | done | rfl, bdrewN HB.out _⟩
        | true =>
          simp only [Bool.not_true] at hh0
          obtain ⟨g1, hg1⟩ : ∃ b, (u1 == v1) = b := ⟨_, rfl⟩
          have hh1 : (u1 != v1) = !g1 := by rw [← hg1]; rfl
          cases g1 with
          | false =>
            simp only [Bool.not_false] at hh1
            have HQ : Hid (q = false) := hid (by rw [HQ0.out]; exact HBd.out (by rw [HEq.out, hg0, hg1]; rfl))
            have c0 := HA.c0
            have c1 := HA.c1
            have c2 := HA.c2
            have e0 := HA'.c0
            have e1 := HA'.c1
            have e2 := HA'.c2
            simp only at c0 c1 c2 e0 e1 e2
            clear HA HA' HI HI' HF
            go_wp2_with fail
            go_quiet (fail)
            go_wp2
            go_ret
            exact ⟨by rw [HQ.out]; first | done | rfl, bdrewN HB.out _⟩
          | true =>
            simp only [Bool.not_true] at hh1
            have HEr : Hid (ev = r) := hid (by rw [HEq.out, hg0, hg1]; rfl)
            have c0 := HA.c0
            have c1 := HA.c1
            have c2 := HA.c2
            have e0 := HA'.c0
            have e1 := HA'.c1
            have e2 := HA'.c2
            simp only at c0 c1 c2 e0 e1 e2
            clear HA HA' HI HI'
            cases r with
            | true =>
              have HSt2 := hid (HSt.out HEr.out)
              go_wp2_with fail
              go_quiet ((go_at_call 21; exact HF.out _))
              have HB1 := hid (bdrewN HB0.out nq)
              clear c0 c1 c2 e0 e1 e2 x1 y1 HF
              generalize wr.drewN nq = WD at *
              go_wp2
              go_roundw
              case rel => exact ⟨k + 1, by omega, by go_num, HSt2.out, HB1.out⟩
              case measure => simp [intOf]; omega
            | false =>
              have HQ : Hid (q = false) := hid (by rw [HQ0.out]; exact HBd.out HEr.out)
              go_wp2_with fail
              go_quiet ((go_at_call 21; exact HF.out _))
              go_wp2
              go_ret
              exact ⟨by rw [HQ.out]; first | done | rfl, bdrewN HB.out _⟩
      · obtain rfl : k = n := by omega
        have HQ := hid (HQ0.out.trans (HGood.out HAll.out))
        go_wp2
        go_ret
        exact ⟨by rw [HQ.out]; first | done | rfl, HB.out⟩
end Go.Proofs.Ytglkchcfggclaaa.ro
