/-
  YarnOrder of both sides.
-/
import Derived.Test.YtiacfejileeieaaVr5
import Derived.Test.YtiacfejileeieaaRed
import Derived.Test.YtiacfejileeieaaIv
import Derived.Test.YtiacfejileeieaaMk1
namespace Go.Proofs.Ytiacfejileeieaa.yo
open Go.RowKit Go.Proofs.Ytiacfejileeieaa.sl Go.Proofs.Ytiacfejileeieaa.br Go.Proofs.Ytiacfejileeieaa.fn
set_option linter.unusedVariables false
set_option maxRecDepth 100000

def yoE (d : Int) (n j : Nat) : Int := if d = 1 then (j : Int) else (n : Int) - 1 - (j : Int)
def yoT (d : Int) (n k : Nat) : List Int := (List.range k).map (yoE d n)
theorem yoT_len (d : Int) (n k : Nat) : (yoT d n k).length = k := by simp [yoT]
theorem yoT_succ (d : Int) (n k : Nat) : yoT d n (k + 1) = yoT d n k ++ [yoE d n k] := by simp [yoT, List.range_succ]
theorem yoT_one (n : Nat) : yoT 1 n n = ids n := by simp [yoT, ids, yoE]
theorem yoT_back (d : Int) (n : Nat) (h : ¬ d = 1) : yoT d n n = (ids n).reverse := by
  apply List.ext_getElem
  · simp [yoT_len, ids_len]
  · intro i h1 h2
    simp [yoT, ids, yoE, h]
    have : i < n := by simpa [yoT_len] using h1
    omega
def yoW (d c : Int) (xs : List Int) : List Int := if vr5.rowB d c xs = true then yoT d xs.length xs.length else []
theorem yo_no {d c : Int} {xs : List Int} (h : vr5.rowB d c xs = false) : yoW d c xs = [] := by simp [yoW, h]
theorem yo_yes {d c : Int} {xs : List Int} (h : vr5.rowB d c xs = true) : yoW d c xs = yoT d xs.length xs.length := by simp [yoW, h]
theorem row_parts {d c : Int} {xs : List Int} (h : vr5.rowB d c xs = true) : (d = 1 ∨ d = -1) ∧ xs.length ≤ 16 := by
  simp only [vr5.rowB, Bool.and_eq_true, vo.dirB, Bool.or_eq_true, beq_iff_eq] at h
  exact ⟨h.1, (st.lst_parts h.2.2).1⟩
theorem yoW_len (d c : Int) (xs : List Int) : (yoW d c xs).length ≤ 1000 := by
  cases h : vr5.rowB d c xs
  · rw [yo_no h]; simp
  · rw [yo_yes h, yoT_len]
    have := (row_parts h).2
    omega

theorem implBackI (xs : List Int) (v : Value) (B : Nat) (w : World) (ha : Ints w B v xs) (hnil : fn.NilOk v) (hn : xs.length ≤ 1048576) :
    Calls Try.prog 88 #[v] w fun e w' => ∃ v', e = .returned v' ∧ sl.Own w' w.heap.size w'.heap.size v' xs.reverse ∧ Below w.heap.size w w' := by
  have HC := hid (fn.clone xs v B w ha hnil hn)
  obtain ⟨ao, cap, hv⟩ := ints_val ha
  clear ha hnil
  have hn2 := hn
  obtain ⟨n, hnn⟩ : ∃ n, n = xs.length := ⟨_, rfl⟩
  rw [← hnn] at hv
  have HN := hid hnn
  clear hnn hn
  subst hv
  go_enter Try.func88, Try.ntmps88
  go_wp2_with fail
  refine HC.out.mono ?_
  rintro e w1 ⟨v1, rfl, o1, b1⟩
  have B1 := hid b1
  have HR1 := hid (br.reverse xs v1 _ _ w1 o1 (by omega))
  obtain ⟨ao1, cap1, hv1⟩ := br.own_val o1
  rw [← HN.out] at hv1
  clear b1 o1
  subst hv1
  go_wp2_with fail
  refine HR1.out.mono ?_
  rintro e w2 ⟨rfl, k2, c2⟩
  have K2 := hid (k2.hi c2.size (Nat.le_refl _))
  have B2 := hid (B1.out.trans (c2.below (Nat.le_refl _) B1.out.size))
  clear k2 c2
  go_wp2
  go_ret
  exact ⟨_, rfl, K2.out, B2.out⟩

theorem implYO1 (d : Int) (n : Nat) (w : World) (hd : d = 1 ∨ d = -1) (hn : n ≤ 1048576) :
    Calls Try.prog 55 #[.int .i64 d, .int .i64 n] w fun e w' => ∃ v', e = .returned v' ∧ sl.Own w' w.heap.size w'.heap.size v' (yoT d n n) ∧ Below w.heap.size w w' := by
  have HI := hid (fun W => fn.implIds n W (by omega))
  rcases hd with rfl | rfl
  · rw [yoT_one]
    go_enter Try.func55, Try.ntmps55
    go_wp2_with fail
    refine (HI.out _).mono ?_
    rintro e w1 ⟨v1, rfl, o1, b1⟩
    have O1 := hid o1
    have B1 := hid b1
    clear o1 b1
    go_wp2
    go_ret
    exact ⟨_, rfl, O1.out, B1.out⟩
  · rw [yoT_back (-1) n (by decide)]
    have HB := hid (fun v W (o : Own W w.heap.size W.heap.size v (ids n)) => implBackI (ids n) v W.heap.size W o.ints (fn.nilok_own o) (by rw [ids_len]; omega))
    go_enter Try.func55, Try.ntmps55
    go_wp2_with fail
    refine (HI.out _).mono ?_
    rintro e w1 ⟨v1, rfl, o1, b1⟩
    have HB1 := hid (HB.out _ _ o1)
    have B1 := hid b1
    clear o1 b1 HB
    go_wp2_with fail
    refine HB1.out.mono ?_
    rintro e w2 ⟨v2, rfl, o2, b2⟩
    have O2 := hid (o2.lo B1.out.size)
    have B2 := hid (B1.out.trans (b2.mono B1.out.size))
    clear o2 b2
    go_wp2
    go_ret
    exact ⟨_, rfl, O2.out, B2.out⟩

theorem implYO (d c : Int) (xs : List Int) (v : Value) (B : Nat) (w : World) (ha : Ints w B v xs) (hB : B ≤ w.heap.size) (hq : l5.Small xs) :
    Calls Try.prog 18 #[.agg #[.int .i64 d, .int .i64 c, v]] w fun e w' => ∃ v', e = .returned v' ∧ sl.Own w' w.heap.size w'.heap.size v' (yoW d c xs) ∧ Below w.heap.size w w' := by
  have hal := hid ((Below.refl w.heap.size w).alloc (Nat.le_refl _) (.cells #[.int .i64 d, .int .i64 c, v] 30))
  have HI := hid (vr5.implVR d c xs v B (w.alloc (.cells #[.int .i64 d, .int .i64 c, v] 30)) (ints_al ha _) (by simp; omega) hq)
  obtain ⟨ao, cap, hv⟩ := ints_val ha
  cases hr : vr5.rowB d c xs
  · rw [yo_no hr]
    rw [hr] at HI
    clear ha hq hr
    generalize xs.length = n at *
    subst hv
    go_enter Try.func18, Try.ntmps18
    go_wp2_with fail
    refine HI.out.mono ?_
    rintro e w1 ⟨rfl, b1⟩
    have B1 := hid (hal.out.trans (b1.mono hal.out.size))
    clear b1
    go_wp2
    go_ret
    exact ⟨_, rfl, (sl.Own.nil _ _), B1.out⟩
  · rw [yo_yes hr]
    obtain ⟨hd, hl⟩ := row_parts hr
    have HY := hid (fun W => implYO1 d xs.length W hd (by omega))
    rw [hr] at HI
    clear ha hq hr hd
    generalize xs.length = n at *
    subst hv
    go_enter Try.func18, Try.ntmps18
    go_wp2_with fail
    refine HI.out.mono ?_
    rintro e w1 ⟨rfl, b1⟩
    have B1 := hid (hal.out.trans (b1.mono hal.out.size))
    have r0 : w1.cell? ⟨w.heap.size, 0, none⟩ = some (.int .i64 d) := (b1.cell (p := ⟨w.heap.size, 0, none⟩) (by simp)).trans (World.cell?_alloc_at _ _ _ _ rfl)
    have r2 : w1.cell? ⟨w.heap.size, 2, none⟩ = some (.slice ao n cap) := (b1.cell (p := ⟨w.heap.size, 2, none⟩) (by simp)).trans (World.cell?_alloc_at _ _ _ _ rfl)
    clear b1
    have hs1 := B1.out.size
    go_wp2_with fail
    refine (HY.out _).mono ?_
    rintro e w2 ⟨v2, rfl, o2, b2⟩
    have O2 := hid (o2.lo hs1)
    have B2 := hid (B1.out.trans (b2.mono hs1))
    clear o2 b2
    go_wp2
    go_ret
    exact ⟨_, rfl, O2.out, B2.out⟩

theorem specYO1 (d c : Int) (xs : List Int) (f : Value) (p : Nat) (w : World) (hf : ∃ ao cap, f = .slice ao xs.length cap) (hn : xs.length ≤ 1048576) (hp : p < w.heap.size) (c0 : w.cell? ⟨p, 0, none⟩ = some (.int .i64 d)) (c2 : w.cell? ⟨p, 2, none⟩ = some f) :
    Calls Try.prog 53 #[.pointer (some ⟨p, 0, none⟩)] w fun e w' => ∃ v', e = .returned v' ∧ sl.Own w' w.heap.size w'.heap.size v' (yoT d xs.length xs.length) ∧ Below w.heap.size w w' := by
  obtain ⟨ao, cap, hv⟩ := hf
  generalize xs.length = n at *
  subst hv
  go_enter Try.func53, Try.ntmps53
  go_wp2
  go_loopw [3, 5] (fun v i wr => ∃ k : Nat, k ≤ n ∧ i = .int .i64 k ∧ sl.Own wr w.heap.size wr.heap.size v (yoT d n k) ∧ Below w.heap.size w wr)
    (fun _ i _ => n - (intOf i).toNat)
  case atStart => exact ⟨0, Nat.zero_le _, rfl, Own.built w _ rfl, (Below.refl _ _).alloc (Nat.le_refl _) _⟩
  case round =>
    obtain ⟨k, hk, rfl, hown, hbel⟩ := hrel
    have HO := hid hown
    have HB := hid hbel
    have hsz := hbel.size
    have r0 := (hbel.cell (p := ⟨p, 0, none⟩) hp).trans c0
    have r2 := (hbel.cell (p := ⟨p, 2, none⟩) hp).trans c2
    clear hown hbel
    by_cases hlt : k < n
    · have HX := hid (yoT_succ d n k)
      have hl : (yoT d n k).length ≤ 1099511627776 := by rw [yoT_len]; omega
      by_cases h1 : d = 1
      · have HE : Hid (yoE d n k = (k : Int)) := hid (by simp [yoE, h1])
        have hd : (d == 1) = true := by simpa using h1
        generalize yoT d n k = l at *
        clear h1
        go_wp2_with (at_builtin; refine wp_append rfl _ _ rfl w.heap.size wr.heap.size _ l k HO.out rfl rfl hsz hl ?_; intro v' w1 hown1 hchg1 hsz1)
        have HO1 := hid hown1
        have HB1 := hid (HB.out.trans (hchg1.below (Nat.le_refl _) hsz))
        clear hown1 hchg1
        go_wp2
        go_roundw
        case rel => exact ⟨k + 1, by omega, by go_num, by rw [HX.out, HE.out]; exact HO1.out, HB1.out⟩
        case measure => simp [intOf]; omega
      · have HE : Hid (yoE d n k = (n : Int) - 1 - (k : Int)) := hid (by simp [yoE, h1])
        have hd : (d == 1) = false := by simpa using h1
        have e1 : IntKind.i64.wrap ((n : Int) - 1) = (n : Int) - 1 := IntWalk.i64_in _ (by omega)
        have e2 : IntKind.i64.wrap ((n : Int) - 1 - (k : Int)) = (n : Int) - 1 - (k : Int) := IntWalk.i64_in _ (by omega)
        generalize yoT d n k = l at *
        clear h1
        go_wp2_with (at_builtin; refine wp_append rfl _ _ rfl w.heap.size wr.heap.size _ l ((n : Int) - 1 - (k : Int)) HO.out rfl rfl hsz hl ?_; intro v' w1 hown1 hchg1 hsz1)
        have HO1 := hid hown1
        have HB1 := hid (HB.out.trans (hchg1.below (Nat.le_refl _) hsz))
        clear hown1 hchg1
        go_wp2
        go_roundw
        case rel => exact ⟨k + 1, by omega, by go_num, by rw [HX.out, HE.out]; exact HO1.out, HB1.out⟩
        case measure => simp [intOf]; omega
    · obtain rfl : k = n := by omega
      go_wp2
      go_ret
      exact ⟨_, rfl, HO.out, HB.out⟩

theorem specYO (d c : Int) (xs : List Int) (v : Value) (B : Nat) (w : World) (ha : Ints w B v xs) (hB : B ≤ w.heap.size) (hq : l5.Small xs) :
    Calls Try.prog 16 #[.agg #[.int .i64 d, .int .i64 c, v]] w fun e w' => ∃ v', e = .returned v' ∧ sl.Own w' w.heap.size w'.heap.size v' (yoW d c xs) ∧ Below w.heap.size w w' := by
  have hal := hid ((Below.refl w.heap.size w).alloc (Nat.le_refl _) (.cells #[.int .i64 d, .int .i64 c, v] 30))
  have HI := hid (vr5.specRow d c xs v B w.heap.size 0 (w.alloc (.cells #[.int .i64 d, .int .i64 c, v] 30)) ⟨by simp, World.cell?_alloc_at _ _ _ _ rfl, World.cell?_alloc_at _ _ _ _ rfl, World.cell?_alloc_at _ _ _ _ rfl⟩ (ints_al ha _) (by simp; omega) (by have := hq.len; omega))
  have HY := hid (fun h => specYO1 d c xs v w.heap.size (w.alloc (.cells #[.int .i64 d, .int .i64 c, v] 30)) (ints_val ha) h (by simp) (World.cell?_alloc_at _ _ _ _ rfl) (World.cell?_alloc_at _ _ _ _ rfl))
  obtain ⟨ao, cap, hv⟩ := ints_val ha
  cases hr : vr5.rowB d c xs
  · rw [yo_no hr]
    rw [hr] at HI
    clear ha hq hr HY
    generalize xs.length = n at *
    subst hv
    go_enter Try.func16, Try.ntmps16
    go_wp2_with fail
    refine HI.out.mono ?_
    rintro e w1 ⟨rfl, rfl⟩
    go_wp2
    go_ret
    exact ⟨_, rfl, (sl.Own.nil _ _), hal.out⟩
  · rw [yo_yes hr]
    have hl := (row_parts hr).2
    have HY1 := hid (HY.out (by omega))
    rw [hr] at HI
    clear ha hq hr HY
    generalize xs.length = n at *
    subst hv
    go_enter Try.func16, Try.ntmps16
    go_wp2_with fail
    refine HI.out.mono ?_
    rintro e w1 ⟨rfl, rfl⟩
    go_wp2_with fail
    refine HY1.out.mono ?_
    rintro e w2 ⟨v2, rfl, o2, b2⟩
    have O2 := hid (o2.lo hal.out.size)
    have B2 := hid (hal.out.trans (b2.mono hal.out.size))
    clear o2 b2
    go_wp2
    go_ret
    exact ⟨_, rfl, O2.out, B2.out⟩
end Go.Proofs.Ytiacfejileeieaa.yo
