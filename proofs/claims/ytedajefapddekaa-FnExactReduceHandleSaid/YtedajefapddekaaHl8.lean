/-
  Reducing handles until there is none: the program's handleForm.
-/
import Derived.Test.YtedajefapddekaaHl7
namespace Go.Proofs.Ytedajefapddekaa.hl
open Go.RowKit Go.Proofs.Ytedajefapddekaa.sl Go.Proofs.Ytedajefapddekaa.br Go.Proofs.Ytedajefapddekaa.bw Go.Proofs.Ytedajefapddekaa.fn
set_option linter.unusedVariables false

/-- The word, the steps and the code of handle reduction. -/
def hfR (b : Int) (xs : List Int) : Option (List Int × Int) := form b.toNat xs 0
def hfIn (b : Int) : Bool := decide (0 ≤ b ∧ b ≤ 5000)
def hfL (b : Int) (xs : List Int) : List Int := if hfIn b = true then (match hfR b xs with | some r => r.1 | none => []) else []
def hfS (b : Int) (xs : List Int) : Int := if hfIn b = true then (match hfR b xs with | some r => r.2 | none => 0) else 0
def hfC (b : Int) (xs : List Int) : Int := if hfIn b = true then (match hfR b xs with | some _ => 0 | none => 5) else 2
theorem hf_out {b : Int} {xs : List Int} (h : hfIn b = false) : hfL b xs = [] ∧ hfS b xs = 0 ∧ hfC b xs = 2 := by unfold hfL hfS hfC; rw [h]; exact ⟨rfl, rfl, rfl⟩
theorem hf_some {b : Int} {xs y : List Int} {s : Int} (h : hfIn b = true) (e : hfR b xs = some (y, s)) : hfL b xs = y ∧ hfS b xs = s ∧ hfC b xs = 0 := by unfold hfL hfS hfC; rw [h, e]; exact ⟨rfl, rfl, rfl⟩
theorem hf_none {b : Int} {xs : List Int} (h : hfIn b = true) (e : hfR b xs = none) : hfL b xs = [] ∧ hfS b xs = 0 ∧ hfC b xs = 5 := by unfold hfL hfS hfC; rw [h, e]; exact ⟨rfl, rfl, rfl⟩

/-- A block of one integer. -/
def Box (w : World) (C : Nat) (g : Int) : Prop := w.heap[C]? = some (.cells #[.int .i64 g] 2 (0, 0))
theorem Box.cell {w : World} {C : Nat} {g : Int} (h : Box w C g) : w.cell? ⟨C, 0, none⟩ = some (.int .i64 g) := by unfold Box at h; simp [World.cell?, h]
theorem Box.fz {w : World} {C : Nat} {g : Int} (h : Box w C g) : w.frozen? ⟨C, 0, none⟩ = false := by unfold Box at h; simp [World.frozen?, h]
theorem Box.set {w : World} {C : Nat} {g : Int} (h : Box w C g) (v : Int) : Box (w.setCell ⟨C, 0, none⟩ (.int .i64 v)) C v := by
  unfold Box at h ⊢
  simp [World.setCell, Array.getElem?_modify, h]
theorem Box.new (w : World) (g : Int) : Box (w.alloc (.cells #[.int .i64 g] 2)) w.heap.size g := heap_alloc_new w _

theorem LW.farSet {w : World} {lo W C : Nat} {Q : Nat → Nat} {xs : List Int} (h : LW w lo W Q xs) (a : Away Q xs.length W C) (o : Nat) (u : Value) : LW (w.setCell ⟨C, o, none⟩ u) lo W Q xs :=
  ⟨h.lst.setW o u a.2, by rw [World.cell?_setCell_other (h := addr_ne fun e => a.1 e.1)]; exact h.c0, by rw [World.cell?_setCell_other (h := addr_ne fun e => a.1 e.1)]; exact h.c1,
    fun o2 => by rw [World.frozen?_setCell]; exact h.fzW o2, by simpa using h.ownW, h.far⟩

theorem spendC (C : Nat) (g : Int) (hg : 0 ≤ g ∧ g ≤ 5000) (q : Bool) (hq : decide (1 ≤ g) = q) (w : World) (h : Box w C g) :
    Calls Try.prog 132 #[ptr C] w fun e w' => e = .returned (.bool q) ∧ w' = w.setCell ⟨C, 0, none⟩ (.int .i64 (g - 1)) := by
  subst hq
  have c0 := h.cell
  have f0 := h.fz
  have e1 : IntKind.i64.wrap (g - 1) = g - 1 := IntWalk.i64_in _ (by omega)
  clear h
  unfold ptr
  go_enter Try.func132, Try.ntmps132
  go_wp2
  go_ret
  exact ⟨rfl, rfl⟩

theorem countC (b : Int) (w : World) :
    Calls Try.prog 119 #[.int .i64 b] w fun e w' => e = .returned (.func (.func 132) #[] #[ptr w.heap.size]) ∧ w' = w.alloc (.cells #[.int .i64 b] 2) := by
  unfold ptr
  go_enter Try.func119, Try.ntmps119
  go_wp2
  go_ret
  exact ⟨rfl, rfl⟩
theorem withinQ (c lo hi : Int) (q : Bool) (hq : decide (lo ≤ c ∧ c ≤ hi) = q) (w : World) : Calls Try.prog 60 #[.int .i64 c, .int .i64 lo, .int .i64 hi] w fun e w' => e = .returned (.bool q) ∧ w = w' := by
  subst hq; exact (pm.within64 c lo hi w).mono fun _ _ h => ⟨by rw [h.1], h.2⟩

set_option maxRecDepth 100000 in
set_option maxHeartbeats 4000000 in
theorem formI (b : Int) (xs : List Int) (v : Value) (B : Nat) (w : World) (ha : Ints w B v xs) (hB : B ≤ w.heap.size) (hn : xs.length ≤ 4000) (hL : Let 11 xs) :
    Calls Try.prog 90 #[v, .int .i64 b] w fun e w' => ∃ v', e = .returned (.tuple #[v', .int .i64 (hfS b xs), .int .i64 (hfC b xs)]) ∧ Own w' w.heap.size w'.heap.size v' (hfL b xs) ∧ Below w.heap.size w w' := by
  have HA := hid ha
  have HL := hid hL
  have HN := hid hn
  clear ha hL hn
  cases hb : hfIn b
  · have HF := hid (hf_out (xs := xs) hb)
    have HWi := hid (withinQ b 0 5000 false hb)
    clear hb
    go_enter Try.func90, Try.ntmps90
    go_wp2_with fail
    refine (HWi.out _).mono ?_
    rintro e w1 ⟨rfl, rfl⟩
    go_wp2
    refine bodyPost_ret (v := .tuple #[.slice none 0 0, .int .i64 0, .int .i64 2]) (by simp [results, Try.results90, go_sem]) rfl ⟨_, by rw [HF.out.2.1, HF.out.2.2], by rw [HF.out.1]; exact Own.nil _ _, Below.refl _ _⟩
  · have HF := hid (fun y s => hf_some (xs := xs) (y := y) (s := s) hb)
    have HFn := hid (hf_none (xs := xs) hb)
    have hbb := of_decide_eq_true hb
    have HWi := hid (withinQ b 0 5000 true hb)
    clear hb
    obtain ⟨n, rfl⟩ : ∃ n : Nat, b = n := ⟨b.toNat, by omega⟩
    have HLk := hid (linkW xs v B w HA.out hB (by have := HN.out; omega))
    have hn5 : n ≤ 5000 := by omega
    clear hbb
    go_enter Try.func90, Try.ntmps90
    go_wp2_with fail
    refine (HWi.out _).mono ?_
    rintro e w1 ⟨rfl, rfl⟩
    go_wp2_with fail
    refine HLk.out.mono ?_
    rintro e w1 ⟨W, Q, rfl, l1, b1⟩
    have HL1 := hid l1
    have HB1 := hid b1
    clear l1 b1
    go_wp2_with fail
    refine (countC n w1).mono ?_
    rintro e w2 ⟨rfl, rfl⟩
    obtain ⟨C, hC⟩ : ∃ C, C = w1.heap.size := ⟨_, rfl⟩
    rw [← hC]
    have HB2 := hid (HB1.out.alloc HB1.out.size (.cells #[.int .i64 n] 2))
    have HL2 := hid (HL1.out.keep ((Below.refl w1.heap.size w1).alloc (Nat.le_refl _) (.cells #[.int .i64 n] 2)))
    have HX2 := hid (Box.new w1 n)
    have HAw : Hid (Away Q xs.length W C) := hid ⟨by have := HL1.out.ownW; omega, fun i hi => by have := HL1.out.lst.own i hi; omega⟩
    have hC2 : C < (w1.alloc (.cells #[.int .i64 n] 2)).heap.size := by rw [hC]; simp
    rw [← hC] at HX2
    generalize w1.alloc (.cells #[.int .i64 n] 2) = w2 at *
    have c0 := HL2.out.c0
    have c1 := HL2.out.lst.nx 0 (Nat.zero_le _)
    unfold ptr at c0 c1
    obtain ⟨p0, hp0⟩ : ∃ p0, p0 = Q 0 := ⟨_, rfl⟩
    rw [← hp0] at c0 c1
    obtain ⟨p1, hp1⟩ : ∃ p1, p1 = Q (0 + 1) := ⟨_, rfl⟩
    rw [← hp1] at c1
    have HP1 := hid hp1
    have HCC := hid hC
    clear hp0 hp1 hC
    unfold ptr
    go_wp2
    go_loopg [9, 10] n (fun g st x wr => ∃ (s k a : Nat) (y : List Int) (Q : Nat → Nat), s + g = n ∧ st = .int .i64 s ∧ x = .pointer (some ⟨a, 0, none⟩) ∧ a = Q (k + 1) ∧ k ≤ y.length ∧ y.length ≤ 4000 ∧ (∀ i, i < k → hEnd y i = none) ∧ Let 11 y ∧ form g y s = hfR n xs ∧ LW wr w.heap.size W Q y ∧ Away Q y.length W C ∧ Box wr C g ∧ Below w.heap.size w wr)
    case atStart => exact ⟨0, 0, p1, xs, Q, by omega, rfl, rfl, HP1.out, Nat.zero_le _, HN.out, fun i hi => by omega, HL.out, by unfold hfR; rw [Int.toNat_natCast]; rfl, HL2.out, HAw.out, HX2.out, HB2.out⟩
    case round =>
      obtain ⟨s, k, a, y, Q2, hsg, rfl, rfl, ha, hk, hy4, hfr, hlet, hform, hlw, haw, hbox, hbel⟩ := hrel
      have HSG := hid hsg
      have HY4 := hid hy4
      have HLet := hid hlet
      have HFo := hid hform
      have HR := hid hlw
      have HAW := hid haw
      have HBx := hid hbox
      have HB := hid hbel
      have HFH := hid (fhW w.heap.size W Q2 y k hk hfr wr hlw (by omega) hlet)
      rw [← ha] at HFH
      unfold ptr at HFH
      clear ha hk hfr hlet hform hlw haw hbox hbel hsg
      rcases fst_cases y with ⟨hno, _⟩ | ⟨p, q, hyes, hql, hqe, _⟩
      · have hA : fhA Q2 y = .pointer none := by unfold fhA; rw [hno]
        have hB0 : fhB Q2 y = .pointer none := by unfold fhB; rw [hno]
        rw [hA, hB0] at HFH
        have HE := hid (HF.out y s (by rw [← HFo.out]; exact form_end _ _ _ hno))
        clear hA hB0 hno
        go_wp2_with fail
        refine HFH.out.mono ?_
        rintro e w3 ⟨rfl, q, hw3⟩
        have HR3 : Hid (LW w3 w.heap.size W Q2 y) := hid (by rw [hw3]; exact HR.out.drewN q)
        have HB3 : Hid (Below w.heap.size w w3) := hid (by rw [hw3]; exact bdrewN HB.out q)
        clear hw3
        go_wp2_with fail
        refine (lettersW w.heap.size W Q2 y w3 HR3.out (by have := HY4.out; omega)).mono ?_
        rintro e w4 ⟨v4, rfl, o4, b4⟩
        have HO4 := hid (o4.lo HB3.out.size)
        have HB4 := hid (HB3.out.trans (b4.mono HB3.out.size))
        clear o4 b4
        go_wp2
        refine bodyPost_ret (v := .tuple #[v4, .int .i64 s, .int .i64 0]) (by simp [results, Try.results90, go_sem]) rfl ⟨v4, by rw [HE.out.2.1, HE.out.2.2], by rw [HE.out.1]; exact HO4.out, HB4.out⟩
      · have hA : fhA Q2 y = .pointer (some ⟨Q2 (p + 1), 0, none⟩) := by unfold fhA; rw [hyes]; rfl
        have hB0 : fhB Q2 y = .pointer (some ⟨Q2 (q + 1), 0, none⟩) := by unfold fhB; rw [hyes]; rfl
        rw [hA, hB0] at HFH
        have HYes := hid hyes
        have HQL := hid hql
        have HPQ := hid (fst_ok hyes).1
        clear hA hB0 hyes hqe hql
        go_wp2_with fail
        refine HFH.out.mono ?_
        rintro e w3 ⟨rfl, q3, hw3⟩
        have HR3 : Hid (LW w3 w.heap.size W Q2 y) := hid (by rw [hw3]; exact HR.out.drewN q3)
        have HB3 : Hid (Below w.heap.size w w3) := hid (by rw [hw3]; exact bdrewN HB.out q3)
        have HX3 : Hid (Box w3 C gk) := hid (by rw [hw3]; exact HBx.out)
        clear hw3
        have hgk : gk ≤ n := by have := HSG.out; omega
        cases gk with
        | zero =>
          have HE := hid (HFn.out (by rw [← HFo.out]; exact form_zero _ _ p q HYes.out))
          go_wp2_with fail
          refine (spendC C 0 (by omega) false (by decide) w3 HX3.out).mono ?_
          rintro e w4 ⟨rfl, rfl⟩
          go_wp2
          refine bodyPost_ret (v := .tuple #[.slice none 0 0, .int .i64 0, .int .i64 5]) (by simp [results, Try.results90, go_sem]) rfl ⟨_, by rw [HE.out.2.1, HE.out.2.2], by rw [HE.out.1]; exact Own.nil _ _, HB3.out.setCell (p := (⟨C, 0, none⟩ : Addr)) (by rw [HCC.out]; exact HB1.out.size) _⟩
        | succ g =>
          go_wp2_with fail
          refine (spendC C ((g + 1 : Nat) : Int) (by omega) true (by simp; omega) w3 HX3.out).mono ?_
          rintro e w4 ⟨rfl, hw4⟩
          have HR4 : Hid (LW w4 w.heap.size W Q2 y) := hid (by rw [hw4]; exact HR3.out.farSet HAW.out _ _)
          have HB4 : Hid (Below w.heap.size w w4) := hid (by rw [hw4]; exact HB3.out.setCell (p := (⟨C, 0, none⟩ : Addr)) (by rw [HCC.out]; exact HB1.out.size) _)
          have HX4 : Hid (Box w4 C g) := hid (by rw [hw4]; have := HX3.out.set (g : Int); rwa [show ((g + 1 : Nat) : Int) - 1 = (g : Int) from by omega])
          clear hw4
          have hC4 : C < w4.heap.size := by have := HX4.out; unfold Box at this; exact Blk.lt ⟨_, _, this⟩
          have HRd := hid (redW w.heap.size W Q2 y p q HPQ.out HQL.out w4 HR4.out HB4.out.size (by have := HY4.out; omega) HLet.out C hC4 HAW.out)
          unfold ptr at HRd
          clear hC4
          go_wp2_with fail
          refine HRd.out.mono ?_
          rintro e w5 ⟨Q5, rfl, l5, b5, c5, a5⟩
          have HR5 := hid l5
          have HB5 := hid (HB4.out.trans b5)
          have HA5 := hid a5
          have HX5 : Hid (Box w5 C g) := hid (by have := HX4.out; unfold Box at this ⊢; rw [c5]; exact this)
          have d1 := HR5.out.c1
          have HLen := hid (hred_len y p q HPQ.out HQL.out)
          obtain ⟨l, hl⟩ : ∃ l, l = (hred y p q).length := ⟨_, rfl⟩
          rw [← hl] at d1 HLen
          have HLl := hid hl
          have hl12 : l ≤ 12000 := by have := HLen.out; have := HY4.out; omega
          clear l5 b5 c5 a5 hl
          by_cases hlong : 4000 < l
          · have HE := hid (HFn.out (by rw [← HFo.out]; exact form_long _ _ _ p q HYes.out (by rw [← HLl.out]; exact hlong)))
            have b1 : (4000 : Int) < (l : Int) := by omega
            go_wp2
            refine bodyPost_ret (v := .tuple #[.slice none 0 0, .int .i64 0, .int .i64 5]) (by simp [results, Try.results90, go_sem]) rfl ⟨_, by rw [HE.out.2.1, HE.out.2.2], by rw [HE.out.1]; exact Own.nil _ _, HB5.out⟩
          · have HE := hid (form_step g y s p q HYes.out (by rw [← HLl.out]; exact hlong))
            have b1 : ¬ (4000 : Int) < (l : Int) := by omega
            have hs5 : s ≤ 5000 := by have := HSG.out; omega
            go_wp2
            go_roundg g
            case measure => omega
            case rel => exact ⟨s + 1, p, _, hred y p q, Q5, by have := HSG.out; omega, by go_num, rfl, rfl, by rw [hred_mid]; have h1 := HPQ.out; have h2 := HQL.out; simp; omega, by rw [← HLl.out]; omega, hred_none y p q HYes.out, HLet.out.hred p q (by have := HPQ.out; have := HQL.out; omega), by rw [← HFo.out, HE.out]; simp, HR5.out, HA5.out, HX5.out, HB5.out⟩
end Go.Proofs.Ytedajefapddekaa.hl
