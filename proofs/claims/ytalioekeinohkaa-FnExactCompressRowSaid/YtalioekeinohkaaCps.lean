/-
  CompressRow: mathematics; both sides.
-/
import Derived.Test.YtalioekeinohkaaPc5
import Derived.Test.YtalioekeinohkaaSt2
import Derived.Test.YtalioekeinohkaaL5
import Derived.BigQuiet
namespace Go.Proofs.Ytalioekeinohkaa.pc
open Go.RowKit Go.Sort Go.Proofs.Ytalioekeinohkaa.sl Go.Proofs.Ytalioekeinohkaa.st
set_option linter.unusedVariables false
set_option linter.unusedSimpArgs false
set_option maxRecDepth 100000

/-- Another number of times at one place. -/
def setT (xs : List V) (j : Nat) (t : Int) : List V := xs.set j ⟨(xs.getD j oz).a0, t, (xs.getD j oz).a2⟩
theorem setT_len (xs : List V) (j : Nat) (t : Int) : (setT xs j t).length = xs.length := by simp [setT]
theorem setT_at (xs : List V) (j : Nat) (t : Int) (h : j < xs.length) : (setT xs j t).getD j oz = ⟨(xs.getD j oz).a0, t, (xs.getD j oz).a2⟩ := by simp [setT, List.getD, h]
theorem setT_past (xs : List V) (j i : Nat) (t : Int) (h : i ≠ j) : (setT xs j t).getD i oz = xs.getD i oz := by simp [setT, List.getD, List.getElem?_set, Ne.symm h]
theorem cellsL_setT (xs : List V) (j : Nat) (t : Int) (h : j < xs.length) : cellsL (setT xs j t) = (cellsL xs).set (j * 3 + 1) (.int .i64 t) := by
  apply List.ext_getElem?
  intro m
  by_cases hm : m < xs.length * 3
  · rw [cellsL_at _ _ (by rw [setT_len]; exact hm), List.getElem?_set]
    by_cases e : j * 3 + 1 = m
    · subst e
      rw [if_pos rfl, if_pos (by rw [cellsL_len]; exact hm), show (j * 3 + 1) / 3 = j from by omega, show (j * 3 + 1) % 3 = 1 from by omega, setT_at xs j t h]; rfl
    · rw [if_neg e, cellsL_at _ _ hm]
      by_cases ej : m / 3 = j
      · rw [ej, setT_at xs j t h]
        have : m % 3 = 0 ∨ m % 3 = 2 := by omega
        rcases this with h0 | h2
        · rw [h0]; rfl
        · rw [h2]; rfl
      · rw [setT_past xs j (m / 3) t ej]
  · rw [List.getElem?_eq_none (by rw [cellsL_len, setT_len]; omega), List.getElem?_eq_none (by rw [List.length_set, cellsL_len]; omega)]
theorem ROwn.storeT {w : World} {lo hi g n cap : Nat} {xs : List V} (o : ROwn w lo hi (.slice (some ⟨g, 0, none⟩) n cap) xs) (hn : n = xs.length) (j : Nat) (t : Int) (h : j < xs.length) :
    ROwn (w.setCell ⟨g, j * 3 + 1, none⟩ (.int .i64 t)) lo hi (.slice (some ⟨g, 0, none⟩) n cap) (setT xs j t) := by
  obtain ⟨h1, h2, h3⟩ := o
  subst hn
  have := (h1.stored (j * 3 + 1) (.int .i64 t)).1
  rw [← cellsL_setT xs j t h, ← setT_len xs j t] at this
  refine ⟨?_, h2, by simpa using h3⟩
  rw [setT_len] at this ⊢
  exact this
theorem ROwn.at' {w : World} {lo hi g n cap : Nat} {xs : List V} (o : ROwn w lo hi (.slice (some ⟨g, 0, none⟩) n cap) xs) (j : Nat) (h : j < xs.length) : At w g (j * 3) (xs.getD j oz) ∧ w.frozen? ⟨g, j * 3 + 1, none⟩ = false := by
  have h0 := o.oown
  rcases h0.2 with ⟨h1, _⟩ | ⟨hp, g', cap', hv, _, _, e1, e2, e3, e4⟩
  · rw [h1] at h; simp at h
  · simp only [Value.slice.injEq, Option.some.injEq, Addr.mk.injEq] at hv
    obtain ⟨⟨rfl, _⟩, _⟩ := hv
    have := e4 j h
    rw [Nat.zero_add] at this
    exact ⟨this, e3 _ (by omega)⟩
theorem ROwn.addr {w : World} {lo hi : Nat} {v : Value} {xs : List V} (o : ROwn w lo hi v xs) (hp : 0 < xs.length) : ∃ g cap, v = .slice (some ⟨g, 0, none⟩) xs.length cap ∧ lo ≤ g ∧ g < hi := by
  rcases o.oown.2 with ⟨h1, _⟩ | ⟨_, g, cap, hv, _, _, e1, e2, _⟩
  · rw [h1] at hp; simp at hp
  · exact ⟨g, cap, hv, e1, e2⟩

/-! ### Stitches, equal neighbours together -/
def lastV (L : List V) : V := L.getD (L.length - 1) oz
def cstep (L : List V) (k : Int) : List V := if 0 < L.length ∧ (lastV L).a0 = k then setT L (L.length - 1) ((lastV L).a1 + 1) else L ++ [⟨k, 1, 0⟩]
def cmpTo (xs : List Int) : Nat → List V
  | 0 => []
  | i + 1 => cstep (cmpTo xs i) (xs.getD i 0)
theorem last_app (L : List V) (y : V) : lastV (L ++ [y]) = y := by simp [lastV, List.getD]
structure CInv (xs : List Int) (i : Nat) (L : List V) : Prop where
  len : L.length ≤ i
  pos : 0 < i → 0 < L.length
  lst : 0 < i → (lastV L).a0 = xs.getD (i - 1) 0
  b : 0 < i → 0 ≤ (lastV L).a1 ∧ (lastV L).a1 ≤ i
theorem cinv (xs : List Int) : ∀ i, CInv xs i (cmpTo xs i)
  | 0 => ⟨Nat.le_refl _, fun h => by omega, fun h => by omega, fun h => by omega⟩
  | i + 1 => by
    have h := cinv xs i
    rw [cmpTo]
    unfold cstep
    by_cases hc : 0 < (cmpTo xs i).length ∧ (lastV (cmpTo xs i)).a0 = xs.getD i 0
    · rw [if_pos hc]
      have hl : lastV (setT (cmpTo xs i) ((cmpTo xs i).length - 1) ((lastV (cmpTo xs i)).a1 + 1)) = ⟨(lastV (cmpTo xs i)).a0, (lastV (cmpTo xs i)).a1 + 1, (lastV (cmpTo xs i)).a2⟩ := by
        rw [lastV, setT_len, setT_at _ _ _ (by omega)]; rfl
      have hi : 0 < i := by have := h.len; omega
      have hb := h.b hi
      refine ⟨by rw [setT_len]; have := h.len; omega, fun _ => by rw [setT_len]; exact hc.1, fun _ => ?_, fun _ => ?_⟩
      · rw [hl]; simp only [Nat.add_sub_cancel]; exact hc.2
      · rw [hl]; simp only; omega
    · rw [if_neg hc]
      refine ⟨by rw [List.length_append]; have := h.len; simp; omega, fun _ => by simp, fun _ => ?_, fun _ => ?_⟩
      · rw [last_app]; simp
      · rw [last_app]; simp only; omega
theorem cstep_yes {L : List V} {k : Int} (h : 0 < L.length) (h2 : (lastV L).a0 = k) : cstep L k = setT L (L.length - 1) ((lastV L).a1 + 1) := by rw [cstep, if_pos ⟨h, h2⟩]
theorem cstep_no {L : List V} {k : Int} (h : ¬ (0 < L.length ∧ (lastV L).a0 = k)) : cstep L k = L ++ [⟨k, 1, 0⟩] := by rw [cstep, if_neg h]
def cW (xs : List Int) : List V := if lst xs then cmpTo xs xs.length else []
theorem cW_len (xs : List Int) : (cW xs).length ≤ 20000 := by
  unfold cW
  split
  · rename_i h
    have h1 := (cinv xs xs.length).len
    have h2 := (lst_parts h).1
    omega
  · simp
theorem beqC (a b : Int) : (a == b) = decide (a = b) := by rw [Bool.eq_iff_iff]; simp
theorem ROwn.up {w w' : World} {lo hi : Nat} {v : Value} {xs : List V} (o : ROwn w lo hi v xs) (b : Below w.heap.size w w') (h : hi ≤ w.heap.size) : ROwn w' lo w'.heap.size v xs := (o.below b).hi (Nat.le_trans h b.size) (Nat.le_refl _)

set_option maxHeartbeats 4000000 in
theorem implCR (xs : List Int) (v : Value) (B : Nat) (w : World) (ha : Ints w B v xs) (hB : B ≤ w.heap.size) (hn : l5.Small xs) :
    Calls Try.prog 15 #[v] w fun e w' => ∃ v', e = .returned v' ∧ OOwn w' w.heap.size w'.heap.size v' (cW xs) ∧ Below w.heap.size w w' := by
  have HS := hid (st.implSts xs v B w ha hB (by have := hn.len; omega))
  have HI := hid ha
  obtain ⟨ao, cap, hv⟩ := br.ints_val ha
  have HW : Hid (cW xs = if lst xs then cmpTo xs xs.length else []) := hid rfl
  have HLp := hid (fun h => (@lst_parts xs h).1)
  have HInv := hid (cinv xs)
  clear ha hn
  generalize cW xs = U at *
  obtain ⟨q, hq⟩ : ∃ q, q = lst xs := ⟨_, rfl⟩
  rw [← hq] at HS HW HLp
  clear hq
  cases q with
  | false =>
    generalize xs.length = n at *
    subst hv
    go_enter Try.func15, Try.ntmps15
    go_wp2_with (go_at_call 32; refine (HS.out).mono ?_; rintro e w1 ⟨rfl, b1⟩; have B1 := hid b1; clear b1)
    go_ret
    refine ⟨.slice none 0 0, rfl, ?_, B1.out⟩
    rw [HW.out]
    exact ⟨Nat.le_refl _, .inl ⟨rfl, _, _, rfl, fun _ => rfl⟩⟩
  | true =>
    have h16 := HLp.out (by trivial)
    rcases HI.out with ⟨hx0, ao', cap', hv'⟩ | ⟨hp, b, off, cap', hv', hb, hc⟩
    · have HW2 : Hid (U = []) := hid (by rw [HW.out, hx0]; rfl)
      rw [hx0] at hv
      simp only [List.length_nil] at hv
      subst hv
      clear hv' HLp hx0
      go_enter Try.func15, Try.ntmps15
      go_wp2_with (go_at_call 32; refine (HS.out).mono ?_; rintro e w1 ⟨rfl, b1⟩; have B1 := hid b1; clear b1)
      refine wp_loop_rounds 1 ?_
      rw [rounds_succ]
      go_wp2
      go_ret
      refine ⟨_, rfl, ?_, B1.out.alloc B1.out.size _⟩
      rw [HW2.out]
      exact ⟨Nat.le_refl _, .inl ⟨rfl, _, _, rfl, fun h => by cases h⟩⟩
    obtain ⟨n, hnn⟩ : ∃ n, n = xs.length := ⟨_, rfl⟩
    have HW2 : Hid (U = cmpTo xs n) := hid (by rw [HW.out, hnn]; rfl)
    rw [← hnn] at hv' h16 hp hc
    have HC := hid hc
    clear hnn HLp hv hc HW HI
    subst hv'
    go_enter Try.func15, Try.ntmps15
    go_wp2_with (go_at_call 32; refine (HS.out).mono ?_; rintro e w1 ⟨rfl, b1⟩; have B1 := hid b1; clear b1)
    have HSE := hid (ROwn.built w1 #[] rfl)
    have HBE : Hid (Below w1.heap.size w1 (w1.alloc (.cells #[] 40))) := hid ((Below.refl _ _).alloc (Nat.le_refl _) _)
    have hz1 := B1.out.size
    go_loopw [3, 13] (fun z i wr => ∃ (k : Nat) (zz : Value), k ≤ n ∧ i = .int .i64 k ∧ z = zz ∧ ROwn wr w1.heap.size wr.heap.size zz (cmpTo xs k) ∧ Below w1.heap.size w1 wr) (fun _ i _ => n - (intOf i).toNat)
    case atStart => exact ⟨0, _, Nat.zero_le _, rfl, rfl, HSE.out, HBE.out⟩
    case round =>
      obtain ⟨k, z, hk, rfl, rfl, hro, hbr⟩ := hrel
      have HRo := hid hro
      have HBr := hid hbr
      have hzr := hbr.size
      clear hro hbr HSE HBE
      by_cases hlt : k < n
      · have hcx := ((B1.out.trans (HBr.out.mono hz1)).cell (p := ⟨b, off + k, none⟩) (by show b < _; omega)).trans (HC.out k hlt)
        have hin := HInv.out k
        have hlen := hin.len
        have HSt : Hid (cmpTo xs (k + 1) = cstep (cmpTo xs k) (xs.getD k 0)) := hid rfl
        generalize xs.getD k 0 = K at *
        by_cases h0 : (cmpTo xs k).length = 0
        · obtain ⟨ao9, cap9, hv9⟩ := rown_val HRo.out
          rw [h0] at hv9
          have HSt := hid (HSt.out.trans (cstep_no (by rintro ⟨h, _⟩; omega)))
          have hw : IntKind.i64.wrap ((0 : Int) - 1) = -1 := by decide
          subst hv9
          have hlen2 : (cmpTo xs k).length ≤ 1048576 := by omega
          clear hin hlen
          go_wp2_with (at_builtin; refine wp_append1 rfl _ _ rfl w1.heap.size wr.heap.size _ (cmpTo xs k) ⟨K, 1, 0⟩ HRo.out rfl rfl hzr (by omega) ?_; intro v9 w9 hown1 hchg1 hsz1; have HO1 := hid hown1; have HB1 := hid (HBr.out.trans (hchg1.below (Nat.le_refl _) hzr)); clear hown1 hchg1)
          go_roundw
          case rel => exact ⟨k + 1, _, by omega, by go_num, rfl, by rw [HSt.out]; exact HO1.out, HB1.out⟩
          case measure => simp [intOf]; omega
        · obtain ⟨m, hm⟩ : ∃ m, (cmpTo xs k).length = m + 1 := ⟨(cmpTo xs k).length - 1, by omega⟩
          have hk0 : 0 < k := by omega
          have hb9 := hin.b hk0
          obtain ⟨g, cap9, hv9, hg1, hg2⟩ := HRo.out.addr (by omega)
          rw [hm] at hv9
          have HRo2 := hid (hv9 ▸ HRo.out)
          obtain ⟨hA, hfr⟩ := HRo2.out.at' m (by omega)
          have hlst : lastV (cmpTo xs k) = (cmpTo xs k).getD m oz := by rw [lastV, hm]; rfl
          have HY := hid (@cstep_yes (cmpTo xs k) K (by omega))
          have HNo := hid (fun h => @cstep_no (cmpTo xs k) K h)
          have HStore := hid (fun t => HRo2.out.storeT hm.symm m t (by omega))
          rw [hlst] at HY HNo hb9
          rw [show (cmpTo xs k).length - 1 = m from by omega] at HY
          generalize (cmpTo xs k).getD m oz = y at *
          have c0 := hA.c0
          have c1 := hA.c1
          have hlen2 : (cmpTo xs k).length ≤ 1048576 := by omega
          have hw1 : IntKind.i64.wrap ((m : Int) + 1 - 1) = (m : Int) := by rw [show (m : Int) + 1 - 1 = (m : Int) from by omega]; exact IntWalk.i64_in _ (by omega)
          have hw2 : IntKind.i64.wrap (m : Int) = (m : Int) := IntWalk.i64_in _ (by omega)
          have hm0 : (0 : Int) ≤ (m : Int) := by omega
          have hm1 : (m : Int) < (m : Int) + 1 := by omega
          have hwt : IntKind.i64.wrap (y.a1 + 1) = y.a1 + 1 := IntWalk.i64_in _ (by omega)
          obtain ⟨y0, y1, y2⟩ := y
          simp only at c0 c1 hwt HY HNo HStore
          have HHm := hid hm
          clear hA hlst hin hlen hm
          subst hv9
          by_cases hyk : y0 = K
          · have HSt2 := hid (HSt.out.trans (HY.out hyk))
            have HSto := hid (HStore.out (y1 + 1))
            subst hyk
            go_wp2
            go_roundw
            case rel =>
              refine ⟨k + 1, _, by omega, by go_num, rfl, ?_, ?_⟩
              · rw [HSt2.out]; simpa using HSto.out
              · exact HBr.out.setCell (p := ⟨g, m * 3 + 1, none⟩) hg1 _
            case measure => simp [intOf]; omega
          · have HSt := hid (HSt.out.trans (HNo.out (by rintro ⟨_, h⟩; exact hyk h)))
            have hykb : (y0 == K) = false := by rw [beqC]; exact decide_eq_false hyk
            clear hyk
            go_wp2_with (at_builtin; refine wp_append1 rfl _ _ rfl w1.heap.size wr.heap.size _ (cmpTo xs k) ⟨K, 1, 0⟩ HRo.out rfl rfl hzr (by omega) ?_; intro v9 w9 hown1 hchg1 hsz1; have HO1 := hid hown1; have HB1 := hid (HBr.out.trans (hchg1.below (Nat.le_refl _) hzr)); clear hown1 hchg1)
            go_roundw
            case rel => exact ⟨k + 1, _, by omega, by go_num, rfl, by rw [HSt.out]; exact HO1.out, HB1.out⟩
            case measure => simp [intOf]; omega
      · obtain rfl : k = n := by omega
        go_wp2
        go_ret
        exact ⟨_, rfl, by rw [HW2.out]; exact (HRo.out.lo B1.out.size).oown, B1.out.trans (HBr.out.mono hz1)⟩

set_option maxHeartbeats 4000000 in
theorem specCmp (xs : List Int) (v : Value) (B : Nat) (w : World) (ha : Ints w B v xs) (hB : B ≤ w.heap.size) (h16 : xs.length ≤ 16) :
    Calls Try.prog 31 #[v] w fun e w' => ∃ v', e = .returned v' ∧ ROwn w' w.heap.size w'.heap.size v' (cmpTo xs xs.length) ∧ Below w.heap.size w w' := by
  have HInv := hid (cinv xs)
  rcases ha with ⟨rfl, ao', cap', rfl⟩ | ⟨hp, b, off, cap', rfl, hb, hc⟩
  · go_enter Try.func31, Try.ntmps31
    go_wp2
    refine wp_loop_rounds 1 ?_
    rw [rounds_succ]
    go_wp2
    go_ret
    exact ⟨_, rfl, ROwn.built w #[] rfl, (Below.refl _ _).alloc (Nat.le_refl _) _⟩
  · obtain ⟨n, hnn⟩ : ∃ n, n = xs.length := ⟨_, rfl⟩
    rw [← hnn] at h16 hp hc ⊢
    have HC := hid hc
    clear hnn hc
    have HSE := hid (ROwn.built w #[] rfl)
    have HBE : Hid (Below w.heap.size w (w.alloc (.cells #[] 40))) := hid ((Below.refl _ _).alloc (Nat.le_refl _) _)
    go_enter Try.func31, Try.ntmps31
    go_wp2
    go_loopw [3, 4] (fun z i wr => ∃ (k : Nat) (zz : Value), k ≤ n ∧ i = .int .i64 k ∧ z = zz ∧ ROwn wr w.heap.size wr.heap.size zz (cmpTo xs k) ∧ Below w.heap.size w wr) (fun _ i _ => n - (intOf i).toNat)
    case atStart => exact ⟨0, _, Nat.zero_le _, rfl, rfl, HSE.out, HBE.out⟩
    case round =>
      obtain ⟨k, z, hk, rfl, rfl, hro, hbr⟩ := hrel
      have HRo := hid hro
      have HBr := hid hbr
      have hzr := hbr.size
      clear hro hbr HSE HBE
      by_cases hlt : k < n
      · have hcx := (HBr.out.cell (p := ⟨b, off + k, none⟩) (by show b < _; omega)).trans (HC.out k hlt)
        have hin := HInv.out k
        have hlen := hin.len
        have HSt : Hid (cmpTo xs (k + 1) = cstep (cmpTo xs k) (xs.getD k 0)) := hid rfl
        have hk0I : (0 : Int) ≤ (k : Int) := by omega
        have hkn : (k : Int) < (n : Int) := by omega
        have hwk : IntKind.i64.wrap ((k : Int) + 1) = (k : Int) + 1 := IntWalk.i64_in _ (by omega)
        have hlen2 : (cmpTo xs k).length ≤ 1048576 := by omega
        by_cases h0 : k = 0
        · have hl0 : (cmpTo xs k).length = 0 := by omega
          have HSt := hid (HSt.out.trans (cstep_no (by rintro ⟨h, _⟩; omega)))
          have hkd : decide (0 < k) = false := by simp; omega
          have hkd2 : decide ((0 : Int) < (k : Int)) = false := by simp; omega
          generalize xs.getD k 0 = K at *
          clear hin hlen hl0 h0
          go_wp2
          go_quiet (fail)
          have bq : Below wr.heap.size wr (wr.drewN nq) := bdrewN (Below.refl _ _) nq
          have HRo2 := hid (HRo.out.up bq (Nat.le_refl _))
          have HBq := hid (HBr.out.trans (bq.mono hzr))
          have hcq := (bq.cell (p := ⟨b, off + k, none⟩) (by have := World.block_lt_of_cell? wr _ hcx; exact this)).trans hcx
          have hzr2 : w.heap.size ≤ (wr.drewN nq).heap.size := HBq.out.size
          clear bq hcx HRo HBr
          generalize wr.drewN nq = W2 at *
          go_wp2_with (at_builtin; refine wp_append1 rfl _ _ rfl w.heap.size W2.heap.size _ (cmpTo xs k) ⟨K, 1, 0⟩ HRo2.out rfl rfl hzr2 (by omega) ?_; intro v9 w9 hown1 hchg1 hsz1; have HO1 := hid hown1; have HB1 := hid (HBq.out.trans (hchg1.below (Nat.le_refl _) hzr2)); clear hown1 hchg1)
          go_roundw
          case rel => exact ⟨k + 1, _, by omega, by go_num, rfl, by rw [HSt.out]; exact HO1.out, HB1.out⟩
          case measure => simp [intOf]; omega
        · have hk1 : 0 < k := by omega
          have hkd2 : decide ((0 : Int) < (k : Int)) = true := by simp; omega
          have hkd : decide (0 < k) = true := by simp; omega
          have hcp := (HBr.out.cell (p := ⟨b, off + (k - 1), none⟩) (by show b < _; omega)).trans (HC.out (k - 1) (by omega))
          have hpos := hin.pos hk1
          have hl9 := hin.lst hk1
          have hb9 := hin.b hk1
          have hkm : (k : Int) - 1 = ((k - 1 : Nat) : Int) := by omega
          have hwm : IntKind.i64.wrap ((k : Int) - 1) = ((k - 1 : Nat) : Int) := by rw [hkm]; exact IntWalk.i64_in _ (by omega)
          have hkm0 : (0 : Int) ≤ ((k - 1 : Nat) : Int) := by omega
          have hkm1 : ((k - 1 : Nat) : Int) < (n : Int) := by omega
          rw [← hl9] at hcp
          obtain ⟨m, hm⟩ : ∃ m, (cmpTo xs k).length = m + 1 := ⟨(cmpTo xs k).length - 1, by omega⟩
          have hlst : lastV (cmpTo xs k) = (cmpTo xs k).getD m oz := by rw [lastV, hm]; rfl
          have HY := hid (fun h => @cstep_yes (cmpTo xs k) (xs.getD k 0) (by omega) h)
          have HNo := hid (fun h => @cstep_no (cmpTo xs k) (xs.getD k 0) h)
          have HAddr := hid (fun (W : World) (z : Value) (o : ROwn W w.heap.size W.heap.size z (cmpTo xs k)) => o.addr (by omega))
          have HAt := hid (fun (W : World) (g cap : Nat) (o : ROwn W w.heap.size W.heap.size (.slice (some ⟨g, 0, none⟩) (m + 1) cap) (cmpTo xs k)) => And.intro (o.at' m (by omega)) (fun t => o.storeT hm.symm m t (by omega)))
          rw [hlst] at HY HNo hb9 hcp
          rw [show (cmpTo xs k).length - 1 = m from by omega] at HY
          rw [hm] at HAddr
          generalize (cmpTo xs k).getD m oz = y at *
          generalize xs.getD k 0 = K at *
          have hw1 : IntKind.i64.wrap ((m : Int) + 1 - 1) = (m : Int) := by rw [show (m : Int) + 1 - 1 = (m : Int) from by omega]; exact IntWalk.i64_in _ (by omega)
          have hw2 : IntKind.i64.wrap (m : Int) = (m : Int) := IntWalk.i64_in _ (by omega)
          have hm0 : (0 : Int) ≤ (m : Int) := by omega
          have hm1 : (m : Int) < (m : Int) + 1 := by omega
          have hwt : IntKind.i64.wrap (y.a1 + 1) = y.a1 + 1 := IntWalk.i64_in _ (by omega)
          obtain ⟨y0, y1, y2⟩ := y
          simp only at hwt HY HNo HAt hcp
          clear hin hlen hm hlst hl9 hpos h0 hkm
          by_cases hyk : y0 = K
          · have HSt2 := hid (HSt.out.trans (HY.out hyk))
            subst hyk
            go_wp2
            go_quiet (fail)
            have bq : Below wr.heap.size wr (wr.drewN nq) := bdrewN (Below.refl _ _) nq
            have HRo2 := hid (HRo.out.up bq (Nat.le_refl _))
            have HBq := hid (HBr.out.trans (bq.mono hzr))
            have hcq := (bq.cell (p := ⟨b, off + k, none⟩) (by have := World.block_lt_of_cell? wr _ hcx; exact this)).trans hcx
            have hzr2 : w.heap.size ≤ (wr.drewN nq).heap.size := HBq.out.size
            clear bq hcx HRo HBr
            generalize wr.drewN nq = W2 at *
            obtain ⟨g, cap9, hv9, hg1, hg2⟩ := HAddr.out W2 _ HRo2.out
            have HRo3 := hid (hv9 ▸ HRo2.out)
            obtain ⟨⟨hA, hfr⟩, hst⟩ := HAt.out W2 g cap9 HRo3.out
            have HSto := hid (hst (y1 + 1))
            have c0 := hA.c0
            have c1 := hA.c1
            clear hA hst
            subst hv9
            go_wp2
            go_roundw
            case rel =>
              refine ⟨k + 1, _, by omega, by go_num, rfl, ?_, ?_⟩
              · rw [HSt2.out]; simpa using HSto.out
              · exact HBq.out.setCell (p := ⟨g, m * 3 + 1, none⟩) hg1 _
            case measure => simp [intOf]; omega
          · have HSt := hid (HSt.out.trans (HNo.out (by rintro ⟨_, h⟩; exact hyk h)))
            have hykb : (K == y0) = false := by rw [beqC]; exact decide_eq_false (fun h => hyk h.symm)
            clear hyk
            go_wp2
            go_quiet (fail)
            have bq : Below wr.heap.size wr (wr.drewN nq) := bdrewN (Below.refl _ _) nq
            have HRo2 := hid (HRo.out.up bq (Nat.le_refl _))
            have HBq := hid (HBr.out.trans (bq.mono hzr))
            have hcq := (bq.cell (p := ⟨b, off + k, none⟩) (by have := World.block_lt_of_cell? wr _ hcx; exact this)).trans hcx
            have hzr2 : w.heap.size ≤ (wr.drewN nq).heap.size := HBq.out.size
            clear bq hcx HRo HBr
            generalize wr.drewN nq = W2 at *
            go_wp2_with (at_builtin; refine wp_append1 rfl _ _ rfl w.heap.size W2.heap.size _ (cmpTo xs k) ⟨K, 1, 0⟩ HRo2.out rfl rfl hzr2 (by omega) ?_; intro v9 w9 hown1 hchg1 hsz1; have HO1 := hid hown1; have HB1 := hid (HBq.out.trans (hchg1.below (Nat.le_refl _) hzr2)); clear hown1 hchg1)
            go_roundw
            case rel => exact ⟨k + 1, _, by omega, by go_num, rfl, by rw [HSt.out]; exact HO1.out, HB1.out⟩
            case measure => simp [intOf]; omega
      · obtain rfl : k = n := by omega
        go_wp2
        go_ret
        exact ⟨_, rfl, HRo.out, HBr.out⟩

theorem specCR (xs : List Int) (v : Value) (B : Nat) (w : World) (ha : Ints w B v xs) (hB : B ≤ w.heap.size) (hn : l5.Small xs) :
    Calls Try.prog 13 #[v] w fun e w' => ∃ v', e = .returned v' ∧ OOwn w' w.heap.size w'.heap.size v' (cW xs) ∧ Below w.heap.size w w' := by
  have HS := hid (st.specSts xs v B w ha hB (by have := hn.len; omega))
  have HI := hid ha
  obtain ⟨ao, cap, hv⟩ := br.ints_val ha
  have HW : Hid (cW xs = if lst xs then cmpTo xs xs.length else []) := hid rfl
  have HLp := hid (fun h => (@lst_parts xs h).1)
  have HSp := hid (fun h => specCmp xs v B w ha hB h)
  clear ha hn
  generalize cW xs = U at *
  obtain ⟨q, hq⟩ : ∃ q, q = lst xs := ⟨_, rfl⟩
  rw [← hq] at HS HW HLp
  clear hq
  cases q with
  | false =>
    generalize xs.length = n at *
    subst hv
    go_enter Try.func13, Try.ntmps13
    go_wp2_with (go_at_call 30; refine (HS.out).mono ?_; rintro e w1 ⟨rfl, rfl⟩)
    go_ret
    refine ⟨.slice none 0 0, rfl, ?_, Below.refl _ _⟩
    rw [HW.out]
    exact ⟨Nat.le_refl _, .inl ⟨rfl, _, _, rfl, fun _ => rfl⟩⟩
  | true =>
    have HC := hid (HSp.out (HLp.out (by trivial)))
    have HW2 : Hid (U = cmpTo xs xs.length) := hid (by rw [HW.out]; rfl)
    clear HW HLp HSp
    generalize cmpTo xs xs.length = L at *
    generalize xs.length = n at *
    subst hv
    go_enter Try.func13, Try.ntmps13
    go_wp2_with (first | (go_at_call 30; refine (HS.out).mono ?_; rintro e w1 ⟨rfl, rfl⟩) | (go_at_call 31; refine (HC.out).mono ?_; rintro e w2 ⟨v2, rfl, o2, b2⟩; have O2 := hid o2; have B2 := hid b2; clear o2 b2))
    go_ret
    exact ⟨v2, rfl, by rw [HW2.out]; exact O2.out.oown, B2.out⟩
end Go.Proofs.Ytalioekeinohkaa.pc
