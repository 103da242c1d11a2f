/-
  Valid machines: beds and carriers of the program.
-/
import Derived.Test.YtlhpipcmebmpdabVm0
import Derived.Test.YtlhpipcmebmpdabVmr
import Derived.Test.YtlhpipcmebmpdabNeedle
namespace Go.Proofs.Ytlhpipcmebmpdab.mc
open Go.RowKit Go.Sort Go.Proofs.Ytlhpipcmebmpdab.sl Go.Proofs.Ytlhpipcmebmpdab.br
set_option linter.unusedVariables false
set_option linter.unusedSimpArgs false

/-! ### the beds -/
theorem longC (xs : List Int) (v : Value) (B : Nat) (W : World) (ha : Ints W B v xs) (hn : xs.length ≤ 1099511627776) :
    Calls Try.prog 95 #[v] W fun e w' => e = .returned (.bool (longB xs)) ∧ Below W.heap.size W w' := by
  obtain ⟨ao, cap, rfl⟩ := ints_val ha
  have HL : Hid (longB xs = decide ((4 : Int) < (xs.length : Int))) := hid rfl
  rw [HL.out]
  clear ha
  generalize xs.length = n at *
  go_enter Try.func95, Try.ntmps95
  go_wp2
  go_ret
  exact ⟨rfl, Below.refl _ _⟩

set_option maxRecDepth 100000 in
theorem implStk (W0 : Int) (rows : List (List Int)) (v : Value) (B : Nat) (w : World) (ha : ss.Rows w B v rows) (hB : B ≤ w.heap.size) (hn : rows.length ≤ 1048576 ∧ ss.Short rows 1048576) :
    Calls Try.prog 86 #[.int .i64 W0, v] w fun e w' => e = .returned (.bool (stkB W0 rows)) ∧ Below w.heap.size w w' := by
  have eg := enters_of Try.func95 (by kernel_rfl) rfl
  have HC := hid (vr.contRows longB 95 #[] rows v B w ha hB hn.1 eg (fun k V W hk hb hi => longC (rows.getD k []) V B W hi (by have := hn.2 k hk; omega)))
  obtain ⟨ao, cap, rfl⟩ := ss.rows_val ha
  obtain ⟨t, ht⟩ : ∃ t, ((rows.length : Int) == W0) = t := ⟨_, rfl⟩
  have HF : Hid (stkB W0 rows = (t && !(rows.any longB))) := hid (by rw [← ht]; rfl)
  rw [HF.out]
  clear ha hn eg
  generalize rows.any longB = q at *
  generalize rows.length = n at *
  cases t with
  | false =>
    go_enter Try.func86, Try.ntmps86
    go_wp2
    go_ret
    exact ⟨rfl, Below.refl _ _⟩
  | true =>
    go_enter Try.func86, Try.ntmps86
    go_wp2_with fail
    refine HC.out.mono ?_
    rintro e w1 ⟨rfl, b1⟩
    have HB := hid b1
    clear b1
    go_wp2
    go_ret
    exact ⟨rfl, HB.out⟩

/-! ### the carriers -/
def idxP (p : ca.V → Bool) (xs : List ca.V) (z : Int) : Prop := xs.any p = decide (0 ≤ z)
theorem cany_yes (p : ca.V → Bool) (xs : List ca.V) (k : Nat) (hk : k < xs.length) (h : p (xs.getD k ca.oz) = true) : xs.any p = true := by
  rw [List.any_eq_true]
  refine ⟨xs.getD k ca.oz, ?_, h⟩
  rw [show xs.getD k ca.oz = xs[k] from by simp [List.getD, List.getElem?_eq_getElem hk]]
  exact List.getElem_mem hk
theorem cany_no (p : ca.V → Bool) (xs : List ca.V) (h : ∀ k, k < xs.length → p (xs.getD k ca.oz) = false) : xs.any p = false := by
  rw [List.any_eq_false]
  intro x hx
  obtain ⟨j, hj, rfl⟩ := List.getElem_of_mem hx
  have := h j hj
  rw [show xs.getD j ca.oz = xs[j] from by simp [List.getD, List.getElem?_eq_getElem hj]] at this
  rw [this]; simp

set_option maxRecDepth 100000 in
theorem idxCar (p : ca.V → Bool) (g : Nat) (cps : Array Value) (xs : List ca.V) (v : Value) (B : Nat) (w : World) (ha : ca.Ops w B v xs) (hB : B ≤ w.heap.size) (hn : xs.length ≤ 1048576)
    (eg : ∀ args w, (callFunc g args).run Try.prog w = .ok (.enter g args) w) (hp : ∀ (x : ca.V) (W : World), Below w.heap.size w W → Calls Try.prog g (#[x.val] ++ cps) W fun e w' => e = .returned (.bool (p x)) ∧ Below W.heap.size W w') :
    Calls Try.prog 110 #[v, .func (.func g) #[] cps] w fun e w' => ∃ z : Int, e = .returned (.int .i64 z) ∧ Hid (xs.any p = decide (0 ≤ z)) ∧ Below w.heap.size w w' := by
  have HP := hid hp
  clear hp
  rcases ha with ⟨rfl, ao, cap, rfl, hao⟩ | ⟨hp, b, off, cap, rfl, hb, hc⟩
  · go_enter Try.func110, Try.ntmps110
    go_wp2
    refine wp_loop_rounds 1 ?_
    rw [rounds_succ]
    go_wp2
    go_ret
    exact ⟨-1, rfl, hid rfl, Below.refl _ _⟩
  · have HYes := hid (fun k h1 h2 => cany_yes p xs k h1 h2)
    have HNo := hid (cany_no p xs)
    obtain ⟨n, hnn⟩ : ∃ n, n = xs.length := ⟨_, rfl⟩
    rw [← hnn] at hp hc hn HYes HNo ⊢
    have HC := hid hc
    clear hnn hc
    go_enter Try.func110, Try.ntmps110
    go_wp2
    go_loopw [8] (fun i wr => ∃ k : Nat, k ≤ n ∧ i = .int .i64 k ∧ (∀ j, j < k → p (xs.getD j ca.oz) = false) ∧ Below w.heap.size w wr) (fun i _ => n - (intOf i).toNat)
    case atStart => exact ⟨0, Nat.zero_le _, rfl, fun j hj => by omega, Below.refl _ _⟩
    case round =>
      obtain ⟨k, hk, rfl, hg, hbel⟩ := hrel
      have HG := hid hg
      have HB := hid hbel
      clear hg hbel
      by_cases hlt : k < n
      · have HA : ca.At wr b (off + k * 2) (xs.getD k ca.oz) := (HC.out k hlt).below HB.out
        have HPk := hid (HP.out (xs.getD k ca.oz) wr HB.out)
        obtain ⟨q, hq⟩ : ∃ q, q = p (xs.getD k ca.oz) := ⟨_, rfl⟩
        rw [← hq] at HPk
        have HQ := hid hq
        clear hq
        generalize xs.getD k ca.oz = x at HA HPk
        obtain ⟨x0, x1⟩ := x
        have c0 := HA.c0
        have c1 := HA.c1
        simp only at c0 c1
        clear HA
        go_wp2_with fail
        refine HPk.out.mono ?_
        rintro e w1 ⟨rfl, b1⟩
        have HB1 := hid (HB.out.trans (b1.mono HB.out.size))
        clear b1 HPk c0 c1
        cases q
        · go_wp2
          go_roundw
          case rel => exact ⟨k + 1, by omega, by go_num, fun j hj => by
            rcases Nat.lt_or_ge j k with h | h
            · exact HG.out j h
            · obtain rfl : j = k := by omega
              exact HQ.out.symm, HB1.out⟩
          case measure => simp [intOf]; omega
        · have HF := hid (HYes.out k hlt HQ.out.symm)
          go_wp2
          go_ret
          exact ⟨k, rfl, hid (by rw [HF.out]; simp), HB1.out⟩
      · obtain rfl : k = n := by omega
        have HF := hid (HNo.out HG.out)
        go_wp2
        go_ret
        exact ⟨-1, rfl, hid (by rw [HF.out]; rfl), HB.out⟩

theorem contCar (p : ca.V → Bool) (g : Nat) (cps : Array Value) (xs : List ca.V) (v : Value) (B : Nat) (w : World) (ha : ca.Ops w B v xs) (hB : B ≤ w.heap.size) (hn : xs.length ≤ 1048576)
    (eg : ∀ args w, (callFunc g args).run Try.prog w = .ok (.enter g args) w) (hp : ∀ (x : ca.V) (W : World), Below w.heap.size w W → Calls Try.prog g (#[x.val] ++ cps) W fun e w' => e = .returned (.bool (p x)) ∧ Below W.heap.size W w') :
    Calls Try.prog 98 #[v, .func (.func g) #[] cps] w fun e w' => e = .returned (.bool (xs.any p)) ∧ Below w.heap.size w w' := by
  have H := hid (idxCar p g cps xs v B w ha hB hn eg hp)
  obtain ⟨ao, cap, rfl⟩ := ca.ops_val ha
  clear ha hp
  generalize xs.length = n at *
  go_enter Try.func98, Try.ntmps98
  go_wp2_with fail
  refine H.out.mono ?_
  rintro e w1 ⟨z, rfl, HZ, b1⟩
  have HB := hid b1
  clear b1
  by_cases hz : 0 ≤ z
  · have HF : Hid (xs.any p = true) := hid (by rw [HZ.out]; simpa using hz)
    go_wp2
    go_ret
    exact ⟨by rw [HF.out]; rfl, HB.out⟩
  · have HF : Hid (xs.any p = false) := hid (by rw [HZ.out]; simpa using hz)
    have hz2 : decide (0 ≤ z) = false := decide_eq_false hz
    go_wp2
    go_ret
    exact ⟨by rw [HF.out]; rfl, HB.out⟩

theorem carC (b : Nat) (W0 : Int) (x : ca.V) (W : World) (h0 : W.cell? ⟨b, 0, none⟩ = some (.int .i64 W0)) (hw : 1 ≤ W0 ∧ W0 ≤ 24) :
    Calls Try.prog 97 #[x.val, .pointer (some ⟨b, 0, none⟩)] W fun e w' => e = .returned (.bool (carW W0 x)) ∧ Below W.heap.size W w' := by
  obtain ⟨x0, x1⟩ := x
  obtain ⟨hw0, hw1⟩ := hw
  have HF : Hid (carW W0 ⟨x0, x1⟩ = (!(decide (-3 ≤ x1 ∧ x1 ≤ W0 + 3)) || (!x0 && !(x1 == 0)))) := hid rfl
  have hwr : IntKind.i64.wrap (W0 + 3) = W0 + 3 := IntWalk.i64_in _ (by omega)
  have hwr2 : IntKind.i64.wrap (3 + W0) = W0 + 3 := by rw [show 3 + W0 = W0 + 3 from by omega]; exact hwr
  have hal := (Below.refl W.heap.size W).alloc (Nat.le_refl _) (.cells #[.bool x0, .int .i64 x1] 90)
  have h0' : (W.alloc (.cells #[.bool x0, .int .i64 x1] 90)).cell? ⟨b, 0, none⟩ = some (.int .i64 W0) := (World.cell?_alloc_past _ _ _ (World.block_lt_of_cell? W _ h0)).trans h0
  rw [HF.out]
  simp only [ca.V.val]
  obtain ⟨t, ht⟩ : ∃ t, decide (-3 ≤ x1 ∧ x1 ≤ W0 + 3) = t := ⟨_, rfl⟩
  obtain ⟨u, hu⟩ : ∃ u, (x1 == 0) = u := ⟨_, rfl⟩
  have hu2 : (x1 != 0) = !u := by rw [← hu]; rfl
  rw [ht, hu]
  have HW := hid (fun W => (nd.within64 x1 (-3) (W0 + 3) W))
  rw [ht] at HW
  clear ht
  cases t <;> cases u <;> cases x0 <;>
  ( go_enter Try.func97, Try.ntmps97
    go_wp2_with (go_at_call 66; refine (HW.out _).mono ?_; rintro e w' ⟨rfl, rfl⟩)
    go_ret
    exact ⟨rfl, hal⟩)

set_option maxRecDepth 100000 in
theorem implCar (W0 : Int) (xs : List ca.V) (v : Value) (B : Nat) (w : World) (ha : ca.Ops w B v xs) (hB : B ≤ w.heap.size) (hn : xs.length ≤ 1048576) (hw : 1 ≤ W0 ∧ W0 ≤ 24) :
    Calls Try.prog 87 #[.int .i64 W0, v] w fun e w' => e = .returned (.bool (carB W0 xs)) ∧ Below w.heap.size w w' := by
  have eg := enters_of Try.func97 (by kernel_rfl) rfl
  have hal := (Below.refl w.heap.size w).alloc (Nat.le_refl _) (.cells #[.int .i64 W0] 2)
  have HC : Hid (Calls Try.prog 98 #[v, .func (.func 97) #[] #[.pointer (some ⟨w.heap.size, 0, none⟩)]] (w.alloc (.cells #[.int .i64 W0] 2)) fun e w' => e = .returned (.bool (xs.any (carW W0))) ∧ Below (w.alloc (.cells #[.int .i64 W0] 2)).heap.size (w.alloc (.cells #[.int .i64 W0] 2)) w') :=
    hid (contCar (carW W0) 97 #[.pointer (some ⟨w.heap.size, 0, none⟩)] xs v B _ (ha.below hal) (by simp; omega) hn eg (fun x W hb =>
      carC w.heap.size W0 x W ((hb.cell (p := ⟨w.heap.size, 0, none⟩) (by simp)).trans (World.cell?_alloc_at _ _ _ _ rfl)) hw))
  obtain ⟨ao, cap, rfl⟩ := ca.ops_val ha
  obtain ⟨t, ht⟩ : ∃ t, ((xs.length : Int) == 4) = t := ⟨_, rfl⟩
  have HF : Hid (carB W0 xs = (t && !(xs.any (carW W0)))) := hid (by rw [← ht]; rfl)
  rw [HF.out]
  clear ha hn eg
  generalize xs.any (carW W0) = q at *
  generalize xs.length = n at *
  cases t with
  | false =>
    go_enter Try.func87, Try.ntmps87
    go_wp2
    go_ret
    exact ⟨rfl, hal⟩
  | true =>
    go_enter Try.func87, Try.ntmps87
    go_wp2_with fail
    refine HC.out.mono ?_
    rintro e w1 ⟨rfl, b1⟩
    have HB := hid (hal.trans (b1.mono hal.size))
    clear b1
    go_wp2
    go_ret
    exact ⟨rfl, HB.out⟩
end Go.Proofs.Ytlhpipcmebmpdab.mc
