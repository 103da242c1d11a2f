/-
  MoveLength of both sides.
-/
import Derived.Test.YtbbnheiibkcgiaaMz0
namespace Go.Proofs.Ytbbnheiibkcgiaa.mo
open Go.RowKit Go.Sort Go.Proofs.Ytbbnheiibkcgiaa.sl Go.Proofs.Ytbbnheiibkcgiaa.pm
set_option linter.unusedVariables false

def vB (x : mv.V) : Bool := mvB x.a0 x.a1
def dI (x : mv.V) : Int := dsI x.a0 x.a1
/-- The sum of the distances of the first k moves. -/
def sumM (xs : List mv.V) (k : Nat) : Int := ((List.range k).map fun j => dI (xs.getD j mv.oz)).foldl (· + ·) 0
theorem sumM_zero (xs : List mv.V) : sumM xs 0 = 0 := rfl
theorem sumM_succ (xs : List mv.V) (k : Nat) : sumM xs (k + 1) = sumM xs k + dI (xs.getD k mv.oz) := by
  unfold sumM; rw [List.range_succ, List.map_append, List.foldl_append]; rfl
theorem dI_le {x : mv.V} (h : vB x = true) : 0 ≤ dI x ∧ dI x ≤ 3 := by
  have h' := mv_iff.1 h
  unfold dI dsI
  split <;> omega
theorem sumM_le (xs : List mv.V) (k : Nat) (h : ∀ j, j < k → vB (xs.getD j mv.oz) = true) : 0 ≤ sumM xs k ∧ sumM xs k ≤ 3 * (k : Int) := by
  induction k with
  | zero => simp [sumM_zero]
  | succ k ih =>
    have h1 := ih (fun j hj => h j (by omega))
    have h2 := dI_le (h k (by omega))
    rw [sumM_succ]
    omega
theorem all_bad {p : mv.V → Bool} {xs : List mv.V} {k : Nat} (hk : k < xs.length) (h : p (xs.getD k mv.oz) = false) : xs.all p = false := by
  rw [List.all_eq_false]
  exact ⟨xs.getD k mv.oz, by rw [show xs.getD k mv.oz = xs[k] from by simp [List.getD, List.getElem?_eq_getElem hk]]; exact List.getElem_mem hk, by rw [h]; simp⟩
theorem all_good {p : mv.V → Bool} {xs : List mv.V} (h : ∀ k, k < xs.length → p (xs.getD k mv.oz) = true) : xs.all p = true := by
  rw [List.all_eq_true]
  intro x hx
  obtain ⟨j, hj, rfl⟩ := List.getElem_of_mem hx
  have := h j hj
  rwa [show xs.getD j mv.oz = xs[j] from by simp [List.getD, List.getElem?_eq_getElem hj]] at this
theorem all_at {p : mv.V → Bool} {xs : List mv.V} (h : xs.all p = true) (k : Nat) (hk : k < xs.length) : p (xs.getD k mv.oz) = true := by
  rw [List.all_eq_true] at h
  refine h _ ?_
  rw [show xs.getD k mv.oz = xs[k] from by simp [List.getD, List.getElem?_eq_getElem hk]]
  exact List.getElem_mem hk
def mlI (xs : List mv.V) : Int := if xs.all vB = true then sumM xs xs.length else -1
theorem ml_no {xs : List mv.V} (h : xs.all vB = false) : mlI xs = -1 := by rw [mlI, h]; rfl
theorem ml_yes {xs : List mv.V} (h : xs.all vB = true) : mlI xs = sumM xs xs.length := by rw [mlI, if_pos h]

theorem absQ (x y : Int) (hx : (0 ≤ x ∧ x ≤ 23) ∧ (0 ≤ y ∧ y ≤ 23)) (W : World) : Calls Try.prog 58 #[.int .i64 (y - x)] W fun e w' => e = .returned (.int .i64 (dsI x y)) ∧ w' = W := by
  obtain ⟨z, hz⟩ : ∃ z, z = y - x := ⟨_, rfl⟩
  rw [← hz]
  have hb : -23 ≤ z ∧ z ≤ 23 := by omega
  by_cases h : z < 0
  · have HF : Hid (dsI x y = -z) := hid (by unfold dsI; split <;> omega)
    have e1 : IntKind.i64.wrap (-z) = -z := IntWalk.i64_in _ (by omega)
    clear hz hx
    go_enter Try.func58, Try.ntmps58
    go_wp2
    go_ret
    exact ⟨by rw [HF.out]; rfl, rfl⟩
  · have HF : Hid (dsI x y = z) := hid (by unfold dsI; split <;> omega)
    clear hz hx
    go_enter Try.func58, Try.ntmps58
    go_wp2
    go_ret
    exact ⟨by rw [HF.out]; rfl, rfl⟩

set_option maxRecDepth 100000 in
theorem specML (xs : List mv.V) (v : Value) (B : Nat) (w : World) (ha : mv.Ops w B v xs) (hB : B ≤ w.heap.size) (hq : mv.Small xs) :
    Calls Try.prog 31 #[v] w fun e w' => e = .returned (.int .i64 (mlI xs)) ∧ Below w.heap.size w w' := by
  have hn := hq.len
  clear hq
  rcases ha with ⟨rfl, ao, cap, rfl, hao⟩ | ⟨hp, b, off, cap, rfl, hbb, hc⟩
  · go_enter Try.func31, Try.ntmps31
    go_wp2
    refine wp_loop_rounds 1 ?_
    rw [rounds_succ]
    go_wp2
    go_ret
    exact ⟨rfl, Below.refl _ _⟩
  · have HBad : Hid (∀ k, k < xs.length → vB (xs.getD k mv.oz) = false → mlI xs = -1) := hid (fun k hk h => ml_no (all_bad hk h))
    have HGood : Hid ((∀ k, k < xs.length → vB (xs.getD k mv.oz) = true) → mlI xs = sumM xs xs.length) := hid (fun h => ml_yes (all_good h))
    obtain ⟨n, hnn⟩ : ∃ n, n = xs.length := ⟨_, rfl⟩
    generalize mlI xs = r at *
    rw [← hnn] at hp hn HBad HGood hc ⊢
    have HC := hid hc
    clear hc hnn
    go_enter Try.func31, Try.ntmps31
    go_wp2
    go_loopw [3, 4] (fun s i wr => ∃ k : Nat, k ≤ n ∧ s = .int .i64 (sumM xs k) ∧ i = .int .i64 k ∧ (∀ j, j < k → vB (xs.getD j mv.oz) = true) ∧ Below w.heap.size w wr) (fun _ i _ => n - (intOf i).toNat)
    case atStart => exact ⟨0, Nat.zero_le _, rfl, rfl, fun j hj => by omega, Below.refl _ _⟩
    case round =>
      obtain ⟨k, hk, rfl, rfl, hg, hbel⟩ := hrel
      have HG := hid hg
      have HB := hid hbel
      clear hg hbel
      have hsl := sumM_le xs k HG.out
      by_cases hlt : k < n
      · have HA : mv.At wr b (off + k * 2) (xs.getD k mv.oz) := (HC.out k hlt).below HB.out
        have HSu := hid (sumM_succ xs k)
        have HBk := hid (HBad.out k hlt)
        have HR : Hid (vB (xs.getD k mv.oz) = true → ∀ j, j < k + 1 → vB (xs.getD j mv.oz) = true) := hid (fun h j hj => by
          rcases Nat.lt_or_ge j k with h' | h'
          · exact HG.out j h'
          · obtain rfl : j = k := by omega
            exact h)
        generalize sumM xs k = s at *
        generalize xs.getD k mv.oz = x at HA HSu HBk HR
        obtain ⟨x0, x1⟩ := x
        obtain ⟨_, c0, c1⟩ := HA
        simp only at c0 c1
        have HV := hid (specMv x0 x1)
        have HSd : Hid (sumM xs (k + 1) = s + dsI x0 x1) := hid HSu.out
        obtain ⟨t, ht⟩ : ∃ t, vB ⟨x0, x1⟩ = t := ⟨_, rfl⟩
        have ht2 : mvB x0 x1 = t := ht
        rw [ht2] at HV
        cases t with
        | false =>
          have HF := hid (HBk.out ht)
          clear ht ht2
          go_wp2_with fail
          refine (HV.out _).mono ?_
          rintro e w1 ⟨rfl, b1⟩
          have HB1 := hid (HB.out.trans (b1.mono HB.out.size))
          clear b1
          go_wp2
          go_ret
          exact ⟨by rw [HF.out]; rfl, HB1.out⟩
        | true =>
          have HR2 := hid (HR.out ht)
          have hr := mv_iff.1 ht2
          have HAb := hid (absQ x0 x1 ⟨hr.1, hr.2.1⟩)
          have e1 : IntKind.i64.wrap (x1 - x0) = x1 - x0 := IntWalk.i64_in _ (by omega)
          have hd3 := dI_le ht
          have hd4 : 0 ≤ dsI x0 x1 ∧ dsI x0 x1 ≤ 3 := hd3
          clear ht ht2 hr hd3
          generalize dsI x0 x1 = d at *
          have e2 : IntKind.i64.wrap (s + d) = s + d := IntWalk.i64_in _ (by omega)
          go_wp2_with fail
          refine (HV.out _).mono ?_
          rintro e w1 ⟨rfl, b1⟩
          have HB1 := hid (HB.out.trans (b1.mono HB.out.size))
          have k0 := (b1.cell (p := ⟨b, off + k * 2, none⟩) (by assumption)).trans c0
          have k1 := (b1.cell (p := ⟨b, off + k * 2 + 1, none⟩) (by assumption)).trans c1
          clear b1 c0 c1
          go_wp2
          go_quiet ((go_at_call 58; exact Calls.quiet_of_same (HAb.out _)))
          go_wp2
          go_roundw
          case rel => exact ⟨k + 1, by omega, by rw [HSd.out], by go_num, HR2.out, bdrewN HB1.out _⟩
          case measure => simp [intOf]; omega
      · obtain rfl : k = n := by omega
        have HF := hid (HGood.out HG.out)
        go_wp2
        go_ret
        exact ⟨by rw [HF.out]; rfl, HB.out⟩

/-! ### The program -/
theorem idxMv (g : Nat) (cps : Array Value) (xs : List mv.V) (v : Value) (B : Nat) (w : World) (ha : mv.Ops w B v xs) (hB : B ≤ w.heap.size) (hn : xs.length ≤ 1048576)
    (eg : ∀ args w, (callFunc g args).run Try.prog w = .ok (.enter g args) w) (p : mv.V → Bool) (hp : ∀ (k : Nat) (W : World), k < xs.length → Below w.heap.size w W → Calls Try.prog g (#[(xs.getD k mv.oz).val] ++ cps) W fun e w' => e = .returned (.bool (!p (xs.getD k mv.oz))) ∧ Below W.heap.size W w') :
    Calls Try.prog 71 #[v, .func (.func g) #[] cps] w fun e w' => ∃ z : Int, e = .returned (.int .i64 z) ∧ Hid (xs.all p = decide (z < 0)) ∧ Below w.heap.size w w' := by
  have HP := hid hp
  clear hp
  rcases ha with ⟨rfl, ao, cap, rfl, hao⟩ | ⟨hp, b, off, cap, rfl, hb, hc⟩
  · go_enter Try.func71, Try.ntmps71
    go_wp2
    refine wp_loop_rounds 1 ?_
    rw [rounds_succ]
    go_wp2
    go_ret
    exact ⟨-1, rfl, hid rfl, Below.refl _ _⟩
  · have HBad := hid (fun k h1 h2 => all_bad (p := p) (xs := xs) (k := k) h1 h2)
    have HGood := hid (fun h => all_good (p := p) (xs := xs) h)
    obtain ⟨n, hnn⟩ : ∃ n, n = xs.length := ⟨_, rfl⟩
    rw [← hnn] at hp hc hn HP HBad HGood ⊢
    have HC := hid hc
    clear hnn hc
    go_enter Try.func71, Try.ntmps71
    go_wp2
    go_loopw [8] (fun i wr => ∃ k : Nat, k ≤ n ∧ i = .int .i64 k ∧ (∀ j, j < k → p (xs.getD j mv.oz) = true) ∧ Below w.heap.size w wr) (fun i _ => n - (intOf i).toNat)
    case atStart => exact ⟨0, Nat.zero_le _, rfl, fun j hj => by omega, Below.refl _ _⟩
    case round =>
      obtain ⟨k, hk, rfl, hg, hbel⟩ := hrel
      have HG := hid hg
      have HB := hid hbel
      clear hg hbel
      by_cases hlt : k < n
      · have HA : mv.At wr b (off + k * 2) (xs.getD k mv.oz) := (HC.out k hlt).below HB.out
        have HPk := hid (HP.out k wr hlt HB.out)
        obtain ⟨q, hq⟩ : ∃ q, q = p (xs.getD k mv.oz) := ⟨_, rfl⟩
        rw [← hq] at HPk
        have HQ := hid hq
        clear hq
        generalize xs.getD k mv.oz = x at HA HPk
        obtain ⟨x0, x1⟩ := x
        obtain ⟨_, c0, c1⟩ := HA
        simp only at c0 c1
        go_wp2_with fail
        refine HPk.out.mono ?_
        rintro e w1 ⟨rfl, b1⟩
        have HB1 := hid (HB.out.trans (b1.mono HB.out.size))
        clear b1 HPk c0 c1
        cases q
        · have HF := hid (HBad.out k hlt HQ.out.symm)
          go_wp2
          go_ret
          exact ⟨k, rfl, hid (by rw [HF.out]; simp), HB1.out⟩
        · go_wp2
          go_roundw
          case rel => exact ⟨k + 1, by omega, by go_num, fun j hj => by
            rcases Nat.lt_or_ge j k with h | h
            · exact HG.out j h
            · obtain rfl : j = k := by omega
              exact HQ.out.symm, HB1.out⟩
          case measure => simp [intOf]; omega
      · obtain rfl : k = n := by omega
        have HF := hid (HGood.out HG.out)
        go_wp2
        go_ret
        exact ⟨-1, rfl, hid (by rw [HF.out]; rfl), HB.out⟩

theorem contMv (g : Nat) (cps : Array Value) (xs : List mv.V) (v : Value) (B : Nat) (w : World) (ha : mv.Ops w B v xs) (hB : B ≤ w.heap.size) (hn : xs.length ≤ 1048576)
    (eg : ∀ args w, (callFunc g args).run Try.prog w = .ok (.enter g args) w) (p : mv.V → Bool) (hp : ∀ (k : Nat) (W : World), k < xs.length → Below w.heap.size w W → Calls Try.prog g (#[(xs.getD k mv.oz).val] ++ cps) W fun e w' => e = .returned (.bool (!p (xs.getD k mv.oz))) ∧ Below W.heap.size W w') :
    Calls Try.prog 69 #[v, .func (.func g) #[] cps] w fun e w' => e = .returned (.bool (!xs.all p)) ∧ Below w.heap.size w w' := by
  have H := hid (idxMv g cps xs v B w ha hB hn eg p hp)
  obtain ⟨ao, cap, rfl⟩ := mv.ops_val ha
  clear ha hp
  generalize xs.length = n at *
  go_enter Try.func69, Try.ntmps69
  go_wp2_with fail
  refine H.out.mono ?_
  rintro e w1 ⟨z, rfl, HZ, b1⟩
  have HB := hid b1
  clear b1
  by_cases hz : 0 ≤ z
  · have HF : Hid (xs.all p = false) := hid (by rw [HZ.out]; simp; omega)
    go_wp2
    go_ret
    exact ⟨by rw [HF.out]; rfl, HB.out⟩
  · have HF : Hid (xs.all p = true) := hid (by rw [HZ.out]; simp; omega)
    have hz2 : decide (0 ≤ z) = false := decide_eq_false hz
    go_wp2
    go_ret
    exact ⟨by rw [HF.out]; rfl, HB.out⟩

theorem notVal (b : Nat) (x : mv.V) (W : World) (h0 : W.cell? ⟨b, 0, none⟩ = some (.func (.func 43) #[] #[])) :
    Calls Try.prog 70 #[x.val, .pointer (some ⟨b, 0, none⟩)] W fun e w' => e = .returned (.bool (!vB x)) ∧ Below W.heap.size W w' := by
  obtain ⟨x0, x1⟩ := x
  have HV := hid (isVal x0 x1)
  have HQ : Hid (vB ⟨x0, x1⟩ = mvB x0 x1) := hid rfl
  rw [HQ.out]
  clear HQ
  generalize mvB x0 x1 = q at *
  have hlt : b < W.heap.size := World.block_lt_of_cell? W _ h0
  have bE : Below W.heap.size W (W.alloc (.cells #[.int .i64 x0, .int .i64 x1] 33)) := (Below.refl _ _).alloc (Nat.le_refl _) _
  have h1 := (bE.cell (p := ⟨b, 0, none⟩) hlt).trans h0
  have HBE := hid bE
  clear bE
  simp only [mv.V.val]
  go_enter Try.func70, Try.ntmps70
  go_wp2_with fail
  refine (HV.out _).mono ?_
  rintro e w1 ⟨rfl, b1⟩
  have HB := hid (HBE.out.trans (b1.mono HBE.out.size))
  clear b1
  go_wp2
  go_ret
  exact ⟨rfl, HB.out⟩

theorem allMv (xs : List mv.V) (v : Value) (B : Nat) (w : World) (ha : mv.Ops w B v xs) (hB : B ≤ w.heap.size) (hn : xs.length ≤ 1048576) :
    Calls Try.prog 59 #[.func (.func 43) #[] #[], v] w fun e w' => e = .returned (.bool (xs.all vB)) ∧ Below w.heap.size w w' := by
  have hal := (Below.refl w.heap.size w).alloc (Nat.le_refl _) (.cells #[.func (.func 43) #[] #[]] 55)
  have h0 : (w.alloc (.cells #[.func (.func 43) #[] #[]] 55)).cell? ⟨w.heap.size, 0, none⟩ = some (.func (.func 43) #[] #[]) := World.cell?_alloc_at _ _ _ _ rfl
  have HC := hid (contMv 70 #[.pointer (some ⟨w.heap.size, 0, none⟩)] xs v B (w.alloc (.cells #[.func (.func 43) #[] #[]] 55)) (ha.al _) (by simp; omega) hn (fun _ _ => rfl) vB (fun k W hk hb => notVal w.heap.size (xs.getD k mv.oz) W ((hb.cell (p := ⟨w.heap.size, 0, none⟩) (by simp)).trans h0)))
  have HB := hid hal
  generalize xs.all vB = q at *
  obtain ⟨ao, cap, hv⟩ := mv.ops_val ha
  clear ha hal h0
  generalize xs.length = n at *
  subst hv
  go_enter Try.func59, Try.ntmps59
  go_wp2_with fail
  refine HC.out.mono ?_
  rintro e w1 ⟨rfl, b1⟩
  have HB1 := hid (HB.out.trans (b1.mono HB.out.size))
  clear b1
  go_wp2
  go_ret
  exact ⟨by cases q <;> rfl, HB1.out⟩

def dL (xs : List mv.V) (k : Nat) : List Int := (List.range k).map fun j => dI (xs.getD j mv.oz)
theorem dL_len (xs : List mv.V) (k : Nat) : (dL xs k).length = k := by simp [dL]
theorem dL_succ (xs : List mv.V) (k : Nat) : dL xs (k + 1) = dL xs k ++ [dI (xs.getD k mv.oz)] := by simp [dL, List.range_succ]
theorem dL_at (xs : List mv.V) (k j : Nat) (h : j < k) : (dL xs k).getD j 0 = dI (xs.getD j mv.oz) := by simp [dL, List.getD, h]
theorem dL_sum (xs : List mv.V) (n : Nat) : ∀ k, k ≤ n → bw.sumTo (dL xs n) k = sumM xs k := by
  intro k
  induction k with
  | zero => intro _; simp [bw.sumTo_zero, sumM_zero]
  | succ k ih =>
    intro hk
    rw [bw.sumTo_succ _ k (by rw [dL_len]; omega), ih (by omega), sumM_succ, dL_at _ _ _ (by omega)]

set_option maxRecDepth 100000 in
theorem mapDist (xs : List mv.V) (v : Value) (B : Nat) (w : World) (ha : mv.Ops w B v xs) (hB : B ≤ w.heap.size) (hn : xs.length ≤ 1048576) (hv : ∀ k, k < xs.length → vB (xs.getD k mv.oz) = true) :
    Calls Try.prog 61 #[.func (.func 62) #[] #[], v] w fun e w' => ∃ v', e = .returned v' ∧ Own w' w.heap.size w'.heap.size v' (dL xs xs.length) ∧ Below w.heap.size w w' := by
  obtain ⟨i0, hi, hz0, hz1, hz2⟩ := info_parts info64
  obtain ⟨n, hnn⟩ : ∃ n, n = xs.length := ⟨_, rfl⟩
  obtain ⟨ao, cap, hvv⟩ := mv.ops_val ha
  have HA := hid ha
  rw [← hnn] at hn hv hvv ⊢
  have HN := hid hnn
  clear hnn ha
  have HV := hid hv
  clear hv
  subst hvv
  go_enter Try.func61, Try.ntmps61
  go_wp2_with (at_make; refine wpList_make_own _ rfl _ _ 25 rfl w.heap.size 2 i0 (.int .i64 0) 1 Try.underlying25 hi hz0 hz1 .i64 .i64 _ n rfl rfl (by omega) (by rw [hz2]; omega) (by unfold maxLen; omega) (Nat.le_refl _) ?_; intro W3 hown3 hgrow3; have HS3 : Hid (sl.Own W3 w.heap.size W3.heap.size (.slice (some ⟨w.heap.size, 0, none⟩) 0 n) []) := hid (sl.Own.mk' (xs := []) hown3); have HB3 : Hid (Below w.heap.size w W3) := hid ⟨hgrow3.os, hgrow3.tape, hgrow3.output, hgrow3.size, fun q hq => hgrow3.block q hq (by simp)⟩; clear hown3 hgrow3)
  go_loopw [5, 13] (fun lv iv wr => ∃ (j : Nat) (z : Value), j ≤ n ∧ lv = z ∧ iv = .int .i64 j ∧ sl.Own wr w.heap.size wr.heap.size z (dL xs j) ∧ Below w.heap.size w wr) (fun _ iv _ => n - (intOf iv).toNat)
  case atStart => exact ⟨0, _, Nat.zero_le _, rfl, rfl, HS3.out, HB3.out⟩
  case round =>
    obtain ⟨j, z, hj, rfl, rfl, hsr, hbel⟩ := hrel
    have HSr := hid hsr
    have HBr := hid hbel
    have hzr := hbel.size
    clear hsr hbel HS3 HB3
    by_cases hlt : j < n
    · rcases HA.out with ⟨hx, _⟩ | ⟨hp, b, off, cap', hv, hb, hc⟩
      · have := HN.out; rw [hx] at this; simp at this; omega
      · simp only [Value.slice.injEq] at hv
        obtain ⟨rfl, hlen, rfl⟩ := hv
        clear hlen hp
        have HX := (hc j (by rw [← HN.out]; exact hlt)).below HBr.out
        have HVj := hid (HV.out j hlt)
        have HTk := hid (dL_succ xs j)
        have hTl : (dL xs j).length ≤ 1048576 := by rw [dL_len]; omega
        generalize xs.getD j mv.oz = x at HX HVj HTk
        obtain ⟨x0, x1⟩ := x
        obtain ⟨_, c0, c1⟩ := HX
        simp only at c0 c1
        have hr := mv_iff.1 HVj.out
        have HD := hid (dist x0 x1 ⟨hr.1, hr.2.1⟩)
        have HTd : Hid (dL xs (j + 1) = dL xs j ++ [dsI x0 x1]) := hid HTk.out
        clear hc hr HTk HVj
        generalize dsI x0 x1 = d at *
        go_wp2_with fail
        refine (HD.out _).mono ?_
        rintro e w1 ⟨rfl, b1⟩
        have bA := (Below.refl wr.heap.size wr).alloc (Nat.le_refl _) (.cells #[.int .i64 x0, .int .i64 x1] 33)
        have hA := bA.trans (b1.mono bA.size)
        have HB1 := hid (HBr.out.trans (hA.mono hzr))
        have HS1 := hid (HSr.out.chg (Chg.ofBelow (lo := 0) hA) (.inr (.inr (Nat.zero_le _))))
        have hs1 : w.heap.size ≤ w1.heap.size := HB1.out.size
        clear b1 bA hA c0 c1 HD
        go_wp2_with (at_builtin; refine wp_append rfl _ _ rfl w.heap.size wr.heap.size _ (dL xs j) d HS1.out rfl rfl hs1 (by omega) ?_; intro v9 w9 hown1 hchg1 hsz1; have HO1 := hid hown1; have HB2 := hid (HB1.out.trans (hchg1.below (Nat.le_refl _) hs1)); clear hown1 hchg1)
        go_roundw
        case rel => exact ⟨j + 1, _, by omega, rfl, by go_num, by rw [HTd.out]; exact HO1.out, HB2.out⟩
        case measure => simp [intOf]; omega
    · obtain rfl : j = n := by omega
      go_wp2
      go_ret
      exact ⟨_, rfl, HSr.out, HBr.out⟩

set_option maxRecDepth 100000 in
theorem implML (xs : List mv.V) (v : Value) (B : Nat) (w : World) (ha : mv.Ops w B v xs) (hB : B ≤ w.heap.size) (hq : mv.Small xs) :
    Calls Try.prog 33 #[v] w fun e w' => e = .returned (.int .i64 (mlI xs)) ∧ Below w.heap.size w w' := by
  have hn := hq.len
  have HL := hid (allMv xs v B w ha hB hn)
  have HA := hid ha
  obtain ⟨ao, cap, hv⟩ := mv.ops_val ha
  cases hall : xs.all vB
  · have HF := hid (ml_no hall)
    rw [hall] at HL
    clear hall ha HA hq
    generalize mlI xs = r at *
    generalize xs.length = n at *
    subst hv
    go_enter Try.func33, Try.ntmps33
    go_wp2_with fail
    refine HL.out.mono ?_
    rintro e w1 ⟨rfl, b1⟩
    have HB1 := hid b1
    clear b1
    go_wp2
    go_ret
    exact ⟨by rw [HF.out]; rfl, HB1.out⟩
  · have HF : Hid (mlI xs = bw.sumL (dL xs xs.length)) := hid (by
      have h := dL_sum xs xs.length xs.length (Nat.le_refl _)
      have h2 := bw.sumTo_all (dL xs xs.length)
      rw [dL_len] at h2
      rw [ml_yes hall, ← h, h2])
    have HM := hid (fun W (b : Below w.heap.size w W) => mapDist xs v B W (HA.out.below b) (Nat.le_trans hB b.size) hn (fun k hk => all_at hall k hk))
    have HDb : Hid (∀ j, j < xs.length → 0 ≤ (dL xs xs.length).getD j 0 ∧ (dL xs xs.length).getD j 0 ≤ 3) := hid (fun j hj => by rw [dL_at _ _ _ hj]; exact dI_le (all_at hall j hj))
    have hl : (dL xs xs.length).length = xs.length := dL_len _ _
    have HSm := hid (fun v' lo hi W (o : Own W lo hi v' (dL xs xs.length)) => br.implSum (dL xs xs.length) 3 v' hi W o.ints (by rw [hl]; exact hn) (by omega) (fun j hj => by have := HDb.out j (by rw [hl] at hj; exact hj); omega))
    rw [hall] at HL
    clear hall ha HA hq HDb hl
    generalize mlI xs = r at *
    generalize dL xs xs.length = ys at *
    generalize bw.sumL ys = s at *
    generalize xs.length = n at *
    subst hv
    go_enter Try.func33, Try.ntmps33
    go_wp2_with fail
    refine HL.out.mono ?_
    rintro e w1 ⟨rfl, b1⟩
    have HB1 := hid b1
    clear b1
    go_wp2_with fail
    refine (HM.out w1 HB1.out).mono ?_
    rintro e w2 ⟨v2, rfl, o2, b2⟩
    have HB2 := hid (HB1.out.trans (b2.mono HB1.out.size))
    have HO2 := hid o2
    clear b2 o2
    go_wp2_with fail
    refine (HSm.out _ _ _ _ HO2.out).mono ?_
    rintro e w3 ⟨rfl, rfl⟩
    go_wp2
    go_ret
    exact ⟨by rw [HF.out]; rfl, HB2.out⟩
end Go.Proofs.Ytbbnheiibkcgiaa.mo
