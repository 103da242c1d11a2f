/-
  IsCable: rows that are of a cable, on both sides; the two errors of the card.
-/
import Derived.Test.YtiacfejileeieaaDoorKas
import Derived.Test.YtiacfejileeieaaDoorH1
import Derived.Stop.LaidErr
namespace Go.Proofs.YtiacfejileeieaaDoor.ic
open Go.RowKit Go.Proofs.YtiacfejileeieaaDoor.sl Go.Proofs.YtiacfejileeieaaDoor.pm Go.Proofs.YtiacfejileeieaaDoor.br Go.Proofs.YtiacfejileeieaaDoor.bw Go.Proofs.YtiacfejileeieaaDoor.st
set_option linter.unusedVariables false
set_option maxRecDepth 100000

theorem mem_row (xs : List ro.V) (k : Nat) (h : k < xs.length) : xs.getD k ro.iz ∈ xs := by
  rw [show xs.getD k ro.iz = xs[k] from by simp [List.getD, List.getElem?_eq_getElem h]]
  exact List.getElem_mem h
theorem eany_yes (p : ro.V → Bool) (xs : List ro.V) (k : Nat) (hk : k < xs.length) (h : p (xs.getD k ro.iz) = true) : xs.any p = true := by
  rw [List.any_eq_true]
  exact ⟨_, mem_row xs k hk, h⟩
theorem eany_no (p : ro.V → Bool) (xs : List ro.V) (h : ∀ k, k < xs.length → p (xs.getD k ro.iz) = false) : xs.any p = false := by
  rw [List.any_eq_false]
  intro x hx
  obtain ⟨j, hj, rfl⟩ := List.getElem_of_mem hx
  have := h j hj
  rw [show xs.getD j ro.iz = xs[j] from by simp [List.getD, List.getElem?_eq_getElem hj]] at this
  rw [this]; simp

set_option maxRecDepth 100000 in
theorem idxRow (p : ro.V → Bool) (g : Nat) (cps : Array Value) (xs : List ro.V) (v : Value) (B : Nat) (w : World) (ha : ro.Infs w B v xs) (hB : B ≤ w.heap.size) (hn : xs.length ≤ 1048576)
    (eg : ∀ args w, (callFunc g args).run Tryd.prog w = .ok (.enter g args) w) (hp : ∀ (x : ro.V) (f : Value) (W : World), x ∈ xs → Ints W B f x.ps → B ≤ W.heap.size → Below w.heap.size w W → Calls Tryd.prog g (#[x.val f] ++ cps) W fun e w' => e = .returned (.bool (p x)) ∧ Below W.heap.size W w') :
    Calls Tryd.prog 105 #[v, .func (.func g) #[] cps] w fun e w' => ∃ z : Int, e = .returned (.int .i64 z) ∧ Hid (xs.any p = decide (0 ≤ z)) ∧ Below w.heap.size w w' := by
  have HP := hid hp
  clear hp
  rcases ha with ⟨rfl, ao, cap, rfl⟩ | ⟨hp, b, off, cap, F, rfl, hb, hc⟩
  · go_enter Tryd.func105, Tryd.ntmps105
    go_wp2
    refine wp_loop_rounds 1 ?_
    rw [rounds_succ]
    go_wp2
    go_ret
    exact ⟨-1, rfl, hid rfl, Below.refl _ _⟩
  · have HYes := hid (fun k h1 h2 => eany_yes p xs k h1 h2)
    have HNo := hid (eany_no p xs)
    obtain ⟨n, hnn⟩ : ∃ n, n = xs.length := ⟨_, rfl⟩
    rw [← hnn] at hp hc hn HYes HNo ⊢
    have HN := hid hnn
    have HC := hid hc
    clear hnn hc
    go_enter Tryd.func105, Tryd.ntmps105
    go_wp2
    go_loopw [8] (fun i wr => ∃ k : Nat, k ≤ n ∧ i = .int .i64 k ∧ (∀ j, j < k → p (xs.getD j ro.iz) = false) ∧ Below w.heap.size w wr) (fun i _ => n - (intOf i).toNat)
    case atStart => exact ⟨0, Nat.zero_le _, rfl, fun j hj => by omega, Below.refl _ _⟩
    case round =>
      obtain ⟨k, hk, rfl, hg, hbel⟩ := hrel
      have HG := hid hg
      have HB := hid hbel
      clear hg hbel
      by_cases hlt : k < n
      · have HA : ro.At wr b (off + k * 3) (xs.getD k ro.iz) (F k) := (HC.out k hlt).1.below HB.out
        have HI : Ints wr B (F k) (xs.getD k ro.iz).ps := (HC.out k hlt).2.chg (Chg.ofBelow (lo := 0) HB.out) (.inr (Nat.zero_le _))
        have HPk := hid (HP.out (xs.getD k ro.iz) (F k) wr (mem_row xs k (by rw [← HN.out]; exact hlt)) HI (by have := HB.out.size; omega) HB.out)
        obtain ⟨q, hq⟩ : ∃ q, q = p (xs.getD k ro.iz) := ⟨_, rfl⟩
        rw [← hq] at HPk
        have HQ := hid hq
        obtain ⟨fa, fc, hfv⟩ := ints_val HI
        clear hq HI
        generalize (xs.getD k ro.iz).ps.length = m at hfv
        generalize xs.getD k ro.iz = x at HA HPk
        obtain ⟨x0, x1, ps⟩ := x
        have c0 := HA.c0
        have c1 := HA.c1
        have c2 := HA.c2
        simp only at c0 c1
        generalize F k = fk at *
        subst hfv
        clear HA
        go_wp2_with fail
        refine HPk.out.mono ?_
        rintro e w1 ⟨rfl, b1⟩
        have HB1 := hid (HB.out.trans (b1.mono HB.out.size))
        clear b1 HPk c0 c1 c2
        cases q
        · go_wp2
          go_roundw
          case rel => exact ⟨k + 1, by omega, by go_num, fun j hj => by
            rcases Nat.lt_or_ge j k with h | h
            · exact HG.out j h
            · obtain rfl : j = k := by omega
              exact HQ.out.symm, HB1.out⟩
          case measure => simp [intOf]; omega
        · have HF := hid (HYes.out k hlt HQ.out.symm)
          go_wp2
          go_ret
          exact ⟨k, rfl, hid (by rw [HF.out]; simp), HB1.out⟩
      · obtain rfl : k = n := by omega
        have HF := hid (HNo.out HG.out)
        go_wp2
        go_ret
        exact ⟨-1, rfl, hid (by rw [HF.out]; rfl), HB.out⟩

theorem contRow (p : ro.V → Bool) (g : Nat) (cps : Array Value) (xs : List ro.V) (v : Value) (B : Nat) (w : World) (ha : ro.Infs w B v xs) (hB : B ≤ w.heap.size) (hn : xs.length ≤ 1048576)
    (eg : ∀ args w, (callFunc g args).run Tryd.prog w = .ok (.enter g args) w) (hp : ∀ (x : ro.V) (f : Value) (W : World), x ∈ xs → Ints W B f x.ps → B ≤ W.heap.size → Below w.heap.size w W → Calls Tryd.prog g (#[x.val f] ++ cps) W fun e w' => e = .returned (.bool (p x)) ∧ Below W.heap.size W w') :
    Calls Tryd.prog 79 #[v, .func (.func g) #[] cps] w fun e w' => e = .returned (.bool (xs.any p)) ∧ Below w.heap.size w w' := by
  have H := hid (idxRow p g cps xs v B w ha hB hn eg hp)
  obtain ⟨ao, cap, rfl⟩ := ro.infs_val ha
  clear ha hp
  generalize xs.length = n at *
  go_enter Tryd.func79, Tryd.ntmps79
  go_wp2_with fail
  refine H.out.mono ?_
  rintro e w1 ⟨z, rfl, HZ, b1⟩
  have HB := hid b1
  clear b1
  by_cases hz : 0 ≤ z
  · have HF : Hid (xs.any p = true) := hid (by rw [HZ.out]; simpa using hz)
    go_wp2
    go_ret
    exact ⟨by rw [HF.out]; rfl, HB.out⟩
  · have HF : Hid (xs.any p = false) := hid (by rw [HZ.out]; simpa using hz)
    have hz2 : decide (0 ≤ z) = false := decide_eq_false hz
    go_wp2
    go_ret
    exact ⟨by rw [HF.out]; rfl, HB.out⟩

def kB (k : Int) : Bool := decide (k = 1 ∨ k = 2 ∨ k = 8 ∨ k = 9 ∨ k = 10 ∨ k = 11)
def rowC (x : ro.V) : Bool := x.ps.all kB
def cabB (xs : List ro.V) : Bool := xs.all rowC
theorem any_notR (p : ro.V → Bool) (xs : List ro.V) : (!(xs.any fun x => !p x)) = xs.all p := by
  induction xs with
  | nil => rfl
  | cons x xs ih => simp only [List.any_cons, List.all_cons, Bool.not_or, Bool.not_not, ih]

set_option maxHeartbeats 2000000 in
theorem implKB (k : Int) (w : World) : Calls Tryd.prog 82 #[.int .i64 k] w fun e w' => e = .returned (.bool (kB k)) ∧ w = w' := by
  by_cases h : k = 1 ∨ k = 2 ∨ k = 8 ∨ k = 9 ∨ k = 10 ∨ k = 11
  · have HF : Hid (kB k = true) := hid (by simp only [kB, decide_eq_true_eq]; exact h)
    rcases h with rfl | rfl | rfl | rfl | rfl | rfl
    all_goals
      go_enter Tryd.func82, Tryd.ntmps82
      go_wp2
      go_ret
      exact ⟨by rw [HF.out]; first | done | rfl, rfl⟩
  · have HF : Hid (kB k = false) := hid (by simp only [kB, decide_eq_false_iff_not]; exact h)
    have e1 : (k == 1) = false := by simp; omega
    have e2 : (k == 2) = false := by simp; omega
    have e8 : (k == 8) = false := by simp; omega
    have e9 : (k == 9) = false := by simp; omega
    have e10 : (k == 10) = false := by simp; omega
    have e11 : (k == 11) = false := by simp; omega
    clear h
    go_enter Tryd.func82, Tryd.ntmps82
    go_wp2
    go_ret
    exact ⟨by rw [HF.out]; first | done | rfl, rfl⟩
theorem implRC (x : ro.V) (f : Value) (B : Nat) (w : World) (ha : Ints w B f x.ps) (hB : B ≤ w.heap.size) (hn : x.ps.length ≤ 1099511627776) :
    Calls Tryd.prog 57 #[x.val f] w fun e w' => e = .returned (.bool (rowC x)) ∧ Below w.heap.size w w' := by
  obtain ⟨x0, x1, ps⟩ := x
  have hal := (Below.refl w.heap.size w).alloc (Nat.le_refl _) (.cells #[.int .i64 x0, .int .i64 x1, f] 28)
  have HAll := hid (st.implAll 82 kB ps f B (w.alloc (.cells #[.int .i64 x0, .int .i64 x1, f] 28)) (ints_al ha _) (by simp; omega) hn (fun _ _ => rfl) (fun x W => implKB x W))
  have HF : Hid (rowC ⟨x0, x1, ps⟩ = ps.all kB) := hid rfl
  have HB := hid hal
  obtain ⟨ao, cap, hv⟩ := ints_val ha
  clear ha hal
  generalize ps.all kB = q at *
  simp only at hn
  generalize ps.length = n at *
  subst hv
  simp only [ro.V.val]
  go_enter Tryd.func57, Tryd.ntmps57
  go_wp2_with fail
  refine HAll.out.mono ?_
  rintro e w1 ⟨rfl, b1⟩
  have HB1 := hid (HB.out.trans (b1.mono HB.out.size))
  clear b1
  go_wp2
  go_ret
  exact ⟨by rw [HF.out]; first | done | rfl, HB1.out⟩
theorem implNot (b : Nat) (x : ro.V) (f : Value) (B : Nat) (w : World) (h0 : w.cell? ⟨b, 0, none⟩ = some (.func (.func 57) #[] #[])) (ha : Ints w B f x.ps) (hB : B ≤ w.heap.size) (hn : x.ps.length ≤ 1099511627776) :
    Calls Tryd.prog 80 #[x.val f, .pointer (some ⟨b, 0, none⟩)] w fun e w' => e = .returned (.bool (!(rowC x))) ∧ Below w.heap.size w w' := by
  have hal := (Below.refl w.heap.size w).alloc (Nat.le_refl _) (.cells #[.int .i64 x.a0, .int .i64 x.a1, f] 28)
  have HR := hid (implRC x f B (w.alloc (.cells #[.int .i64 x.a0, .int .i64 x.a1, f] 28)) (ints_al ha _) (by simp; omega) hn)
  have hbl := World.block_lt_of_cell? w _ h0
  have h1 := (hal.cell (p := ⟨b, 0, none⟩) hbl).trans h0
  have HB := hid hal
  obtain ⟨ao, cap, hv⟩ := ints_val ha
  clear ha hal
  generalize rowC x = q at *
  obtain ⟨x0, x1, ps⟩ := x
  simp only at hn hv h1 HR HB
  generalize ps.length = n at *
  subst hv
  simp only [ro.V.val] at HR ⊢
  go_enter Tryd.func80, Tryd.ntmps80
  go_wp2_with fail
  refine HR.out.mono ?_
  rintro e w1 ⟨rfl, b1⟩
  have HB1 := hid (HB.out.trans (b1.mono HB.out.size))
  clear b1
  go_wp2
  go_ret
  exact ⟨rfl, HB1.out⟩
theorem implAllR (xs : List ro.V) (v : Value) (B : Nat) (w : World) (ha : ro.Infs w B v xs) (hB : B ≤ w.heap.size) (hq : ro.Small xs) :
    Calls Tryd.prog 56 #[.func (.func 57) #[] #[], v] w fun e w' => e = .returned (.bool (cabB xs)) ∧ Below w.heap.size w w' := by
  have hal := (Below.refl w.heap.size w).alloc (Nat.le_refl _) (.cells #[.func (.func 57) #[] #[]] 71)
  have h0 : (w.alloc (.cells #[.func (.func 57) #[] #[]] 71)).cell? ⟨w.heap.size, 0, none⟩ = some (.func (.func 57) #[] #[]) := World.cell?_alloc_at _ _ _ _ rfl
  have hsh : ∀ x, x ∈ xs → x.ps.length ≤ 1099511627776 := by
    intro x hx
    obtain ⟨j, hj, rfl⟩ := List.getElem_of_mem hx
    have := hq.short j hj
    rw [show xs.getD j ro.iz = xs[j] from by simp [List.getD, List.getElem?_eq_getElem hj]] at this
    omega
  have HC := hid (contRow (fun x => !rowC x) 80 #[.pointer (some ⟨w.heap.size, 0, none⟩)] xs v B (w.alloc (.cells #[.func (.func 57) #[] #[]] 71)) (ha.al _) (by simp; omega) hq.len (fun _ _ => rfl) (fun x f W hx hi hb b => implNot w.heap.size x f B W ((b.cell (p := ⟨w.heap.size, 0, none⟩) (by simp)).trans h0) hi hb (hsh x hx)))
  have hqq := any_notR rowC xs
  have HB := hid hal
  generalize (xs.any fun x => !rowC x) = q at *
  obtain ⟨r, hr⟩ : ∃ r, r = cabB xs := ⟨_, rfl⟩
  have hr2 : (!q) = r := by rw [hr]; exact hqq
  rw [← hr]
  have HR := hid hr2
  obtain ⟨ao, cap, hv⟩ := ro.infs_val ha
  clear hr hr2 hqq ha hal h0 hsh hq
  generalize xs.length = n at *
  subst hv
  go_enter Tryd.func56, Tryd.ntmps56
  go_wp2_with fail
  refine HC.out.mono ?_
  rintro e w1 ⟨rfl, b1⟩
  have HB1 := hid (HB.out.trans (b1.mono HB.out.size))
  clear b1
  go_wp2
  go_ret
  exact ⟨by rw [← HR.out]; first | done | rfl, HB1.out⟩
end Go.Proofs.YtiacfejileeieaaDoor.ic
