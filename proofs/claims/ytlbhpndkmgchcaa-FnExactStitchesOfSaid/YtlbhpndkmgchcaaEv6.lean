/-
  slices.IndexFunc, clear, slices.DeleteFunc over Event.
-/
import Derived.Test.YtlbhpndkmgchcaaEv5
import Derived.Laws.IdiomCopy
import Derived.Lib.LazyBuf
namespace Go.Proofs.Ytlbhpndkmgchcaa.ev
open Go.RowKit Go.Sort Go.Proofs.Ytlbhpndkmgchcaa.sl
set_option linter.unusedVariables false
set_option linter.unusedSimpArgs false

def PredFor (p : V → Bool) (g : Nat) (cps : Array Value) : Prop := ∀ (x : V) (W : World), Calls Try.prog g (#[x.val] ++ cps) W fun e w' => e = .returned (.bool (p x)) ∧ Below W.heap.size W w'

/-- slices.IndexFunc: the first that passes, or -1. -/
def IdxPost (p : V → Bool) (xs : List V) (z : Int) : Prop := (z = -1 ∧ ∀ j, j < xs.length → p (xs.getD j oz) = false) ∨ ∃ k : Nat, k < xs.length ∧ z = k ∧ p (xs.getD k oz) = true ∧ ∀ j, j < k → p (xs.getD j oz) = false
set_option maxRecDepth 100000 in
theorem idxE (p : V → Bool) (g : Nat) (cps : Array Value) (hcps : cps = #[]) (xs : List V) (v : Value) (B : Nat) (w : World) (ha : Ops w B v xs) (hB : B ≤ w.heap.size) (hn : xs.length ≤ 1048576)
    (eg : ∀ args w, (callFunc g args).run Try.prog w = .ok (.enter g args) w) (hp : PredFor p g cps) :
    Calls Try.prog 124 #[v, .func (.func g) #[] cps] w fun e w' => ∃ z : Int, e = .returned (.int .i64 z) ∧ Hid (IdxPost p xs z) ∧ Below w.heap.size w w' := by
  subst hcps
  have HP := hid hp
  clear hp
  rcases ha with ⟨rfl, ao, cap, rfl, hao⟩ | ⟨hp, b, off, cap, rfl, hb, hc⟩
  · go_enter Try.func124, Try.ntmps124
    go_wp2
    refine wp_loop_rounds 1 ?_
    rw [rounds_succ]
    go_wp2
    go_ret
    exact ⟨-1, rfl, hid (.inl ⟨rfl, fun j hj => by simp at hj⟩), Below.refl _ _⟩
  · have HPost := hid (fun z h => (show IdxPost p xs z from h))
    obtain ⟨n, hnn⟩ : ∃ n, n = xs.length := ⟨_, rfl⟩
    have HI : Hid (∀ z, IdxPost p xs z = ((z = -1 ∧ ∀ j, j < n → p (xs.getD j oz) = false) ∨ ∃ k : Nat, k < n ∧ z = k ∧ p (xs.getD k oz) = true ∧ ∀ j, j < k → p (xs.getD j oz) = false)) := hid (fun z => by rw [hnn]; rfl)
    rw [← hnn] at hp hc hn ⊢
    have HC := hid hc
    clear hnn hc HPost
    go_enter Try.func124, Try.ntmps124
    go_wp2
    go_loopw [8] (fun i wr => ∃ k : Nat, k ≤ n ∧ i = .int .i64 k ∧ (∀ j, j < k → p (xs.getD j oz) = false) ∧ Below w.heap.size w wr) (fun i _ => n - (intOf i).toNat)
    case atStart => exact ⟨0, Nat.zero_le _, rfl, fun j hj => by omega, Below.refl _ _⟩
    case round =>
      obtain ⟨k, hk, rfl, hg, hbel⟩ := hrel
      have HG := hid hg
      have HB := hid hbel
      clear hg hbel
      by_cases hlt : k < n
      · have HA : At wr b (off + k * 6) (xs.getD k oz) := (HC.out k hlt).below HB.out
        have HPk := hid (HP.out (xs.getD k oz) wr)
        obtain ⟨q, hq⟩ : ∃ q, q = p (xs.getD k oz) := ⟨_, rfl⟩
        rw [← hq] at HPk
        have HQ := hid hq
        clear hq
        generalize xs.getD k oz = x at HA HPk
        obtain ⟨x0, x1, x2, x3, x4, x5⟩ := x
        have c0 := HA.c0
        have c1 := HA.c1
        have c2 := HA.c2
        have c3 := HA.c3
        have c4 := HA.c4
        have c5 := HA.c5
        simp only at c0 c1 c2 c3 c4 c5
        clear HA
        go_wp2_with fail
        refine HPk.out.mono ?_
        rintro e w1 ⟨rfl, b1⟩
        have HB1 := hid (HB.out.trans (b1.mono HB.out.size))
        clear b1 HPk c0 c1 c2 c3 c4 c5
        cases q
        · go_wp2
          go_roundw
          case rel => exact ⟨k + 1, by omega, by go_num, fun j hj => by
            rcases Nat.lt_or_ge j k with h | h
            · exact HG.out j h
            · obtain rfl : j = k := by omega
              exact HQ.out.symm, HB1.out⟩
          case measure => simp [intOf]; omega
        · go_wp2
          go_ret
          exact ⟨k, rfl, hid (by rw [HI.out]; exact .inr ⟨k, hlt, rfl, HQ.out.symm, HG.out⟩), HB1.out⟩
      · obtain rfl : k = n := by omega
        go_wp2
        go_ret
        exact ⟨-1, rfl, hid (by rw [HI.out]; exact .inl ⟨rfl, HG.out⟩), HB.out⟩

/-! ### what is kept -/
def keep (p : V → Bool) (xs : List V) (k : Nat) : List V := (xs.take k).filter fun x => !p x
theorem keep_len (p : V → Bool) (xs : List V) (k : Nat) (h : k ≤ xs.length) : (keep p xs k).length ≤ k := by
  unfold keep
  have := List.length_filter_le (fun x => !p x) (xs.take k)
  rw [List.length_take] at this
  omega
theorem keep_all (p : V → Bool) (xs : List V) : keep p xs xs.length = xs.filter fun x => !p x := by rw [keep, List.take_length]
theorem keep_next (p : V → Bool) (xs : List V) (k : Nat) (h : k < xs.length) : keep p xs (k + 1) = if p (xs.getD k oz) then keep p xs k else keep p xs k ++ [xs.getD k oz] := by
  unfold keep
  rw [List.take_succ_eq_append_getElem h, List.filter_append]
  have e : xs.getD k oz = xs[k] := by simp [List.getD, List.getElem?_eq_getElem h]
  rw [e]
  cases hp : p xs[k] <;> simp [hp]
theorem keep_none (p : V → Bool) (xs : List V) (k : Nat) (h : k ≤ xs.length) (hn : ∀ j, j < k → p (xs.getD j oz) = false) : keep p xs k = xs.take k := by
  unfold keep
  rw [List.filter_eq_self]
  intro x hx
  obtain ⟨j, hj, rfl⟩ := List.getElem_of_mem hx
  rw [List.length_take] at hj
  have := hn j (by omega)
  rw [show xs.getD j oz = xs[j] from by simp [List.getD, List.getElem?_eq_getElem (show j < xs.length from by omega)]] at this
  simp [this]

set_option maxRecDepth 100000 in
/-- clear of records. -/
theorem run_clearE (w : World) (ty : TypeId) (b o n c : Nat) (hn : 0 < n) (hc : ∀ j, j < n * 6 → (w.cell? ⟨b, o + j, none⟩).isSome = true) (hf : ∀ j, j < n * 6 → w.frozen? ⟨b, o + j, none⟩ = false) :
    (Builtin.clear_ #[26] ty #[.slice (some ⟨b, o, none⟩) n c]).run Try.prog w = .ok (.tuple #[]) (w.setCells b o (List.replicate (n * 6) (.int .i64 0))) := by
  obtain ⟨i0, hi, hz0, hz1, hz2⟩ := info_parts infoO
  have hv : ∀ w, (zeroValue 87).run Try.prog w = .ok (.agg #[.int .i64 0, .int .i64 0, .int .i64 0, .int .i64 0, .int .i64 0, .int .i64 0]) w := fun w => by
    first | rfl | kernel_rfl
  have hzc : (Builtin.zeroCells (Value.agg #[.int .i64 0, .int .i64 0, .int .i64 0, .int .i64 0, .int .i64 0, .int .i64 0]).cells n).toList = List.replicate (n * 6) (.int .i64 0) := by
    have e : (Value.agg #[.int .i64 0, .int .i64 0, .int .i64 0, .int .i64 0, .int .i64 0, .int .i64 0]).cells = #[Value.int .i64 0, .int .i64 0, .int .i64 0, .int .i64 0, .int .i64 0, .int .i64 0] := rfl
    rw [e]
    simp only [Builtin.zeroCells]
    apply List.ext_getElem
    · simp
    · intro i h1 h2
      have h3 : i % 6 < 6 := Nat.mod_lt _ (by omega)
      simp
      generalize i % 6 = m at h3
      match m, h3 with
      | 0, _ => rfl
      | 1, _ => rfl
      | 2, _ => rfl
      | 3, _ => rfl
      | 4, _ => rfl
      | 5, _ => rfl
  have hst := run_storeCells_cells (P := Try.prog) b o (List.replicate (n * 6) (.int .i64 0)) 0 w (by simpa using hc) (by simpa using hf) (by intro v hv'; rw [List.eq_of_mem_replicate hv']; rfl)
  simp only [Nat.add_zero] at hst
  obtain ⟨m, rfl⟩ : ∃ m, n = m + 1 := ⟨n - 1, by omega⟩
  simp [Builtin.clear_, run_underlying Try.underlying26, hv, hzc, hst]

theorem ROwn.cap {w : World} {lo hi : Nat} {v : Value} {xs : List V} (o : ROwn w lo hi v xs) : ∀ ao n c, v = .slice ao n c → n ≤ c ∧ c ≤ maxLen := by
  intro ao n c hv
  subst hv
  rcases o.1.2 with ⟨h1, h2⟩ | ⟨g, c2, cur, h1, h2, h3, h4, h5, _⟩
  · cases h1; exact ⟨Nat.le_refl _, Nat.zero_le _⟩
  · cases h1; exact ⟨by omega, by omega⟩
theorem At.clear {w : World} {g q o : Nat} {x : V} (h : At w g q x) (vs : List Value) (ho : q + 6 ≤ o) : At (w.setCells g o vs) g q x := by
  have e : ∀ i, i < 6 → (w.setCells g o vs).cell? ⟨g, q + i, none⟩ = w.cell? ⟨g, q + i, none⟩ := fun i hi => World.cell?_setCells_out g vs o w ⟨g, q + i, none⟩ (fun _ _ => .inl (by show q + i < o; omega))
  refine at_of_cells ?_ (fun i hi => by rw [e i hi]; exact h.cellOf i hi)
  have := h.cellOf 0 (by omega)
  rw [← e 0 (by omega)] at this
  exact World.block_lt_of_cell? _ _ this
theorem size_setCells_eq (b : Nat) : ∀ (vs : List Value) (o : Nat) (w : World), (w.setCells b o vs).heap.size = w.heap.size
  | [], _, _ => rfl
  | v :: r, o, w => by show ((w.setCell _ v).setCells b (o + 1) r).heap.size = _; rw [size_setCells_eq b r]; simp
theorem chg_clear {lo hi g : Nat} {w w' : World} (h : Chg lo hi w w') (h1 : lo ≤ g) (h2 : g < hi) : ∀ (vs : List Value) (o : Nat), Chg lo hi w (w'.setCells g o vs) := by
  intro vs
  induction vs generalizing w' with
  | nil => intro o; exact h
  | cons v r ih => intro o; exact ih (chg_set h v h1 h2) (o + 1)

set_option maxRecDepth 100000 in
set_option maxHeartbeats 2000000 in
theorem deleteE (p : V → Bool) (g0 : Nat) (xs : List V) (v : Value) (lo hi : Nat) (w : World) (ho : OOwn w lo hi v xs) (hcv : ∀ ao n c, v = .slice ao n c → n ≤ c ∧ c ≤ maxLen) (hn : xs.length ≤ 1048576)
    (eg : ∀ args w, (callFunc g0 args).run Try.prog w = .ok (.enter g0 args) w) (hp : PredFor p g0 #[]) :
    Calls Try.prog 72 #[v, .func (.func g0) #[] #[]] w fun e w' => ∃ ao cap, e = .returned (.slice ao (xs.filter fun x => !p x).length cap) ∧ OOwn w' lo hi (.slice ao (xs.filter fun x => !p x).length cap) (xs.filter fun x => !p x) ∧ Chg lo hi w w' := by
  have HI := hid (idxE p g0 #[] rfl xs v hi w ho.ops ho.1 hn eg hp)
  have HP := hid hp
  clear hp
  have HO := hid ho
  obtain ⟨n, hnn⟩ : ∃ n, n = xs.length := ⟨_, rfl⟩
  have HK := hid (fun k h => keep_next p xs k h)
  have HKn := hid (fun k h h2 => keep_none p xs k h h2)
  have HKl := hid (fun k h => keep_len p xs k h)
  have HKa := hid (keep_all p xs)
  rw [← hnn] at hn HK HKn HKl HKa
  rw [← HKa.out]
  have HPost : Hid (∀ z, IdxPost p xs z → (z = -1 ∧ ∀ j, j < n → p (xs.getD j oz) = false) ∨ ∃ k : Nat, k < n ∧ z = k ∧ p (xs.getD k oz) = true ∧ ∀ j, j < k → p (xs.getD j oz) = false) := hid (fun z h => by rw [hnn]; exact h)
  have HX : Hid (xs.take n = xs) := hid (by rw [hnn, List.take_length])
  obtain ⟨ao, cap, hv⟩ := oown_val ho
  rw [← hnn] at hv
  have hcap := hcv _ _ _ hv
  unfold maxLen at hcap
  subst hv
  have HN := hid hnn
  clear hnn ho hcv
  go_enter Try.func72, Try.ntmps72
  go_wp2_with fail
  refine HI.out.mono ?_
  rintro e w1 ⟨z, rfl, hz, b1⟩
  have HO1 := hid (HO.out.chg (Chg.ofBelow (lo := 0) b1) (.inr (.inr (Nat.zero_le _))))
  have HC1 : Hid (Chg lo hi w w1) := hid ⟨b1.os, b1.tape, b1.output, b1.size, fun k hk _ => b1.block k hk⟩
  clear b1 HI HO
  rcases HPost.out z hz.out with ⟨rfl, hall⟩ | ⟨k0, hk0, rfl, hpk, hbef⟩
  · have HQ : Hid (keep p xs n = xs) := hid (by rw [HKn.out n (Nat.le_refl _) hall, HX.out])
    have HL : Hid ((keep p xs n).length = n) := hid (by rw [HQ.out, HN.out])
    clear hz hall
    go_wp2
    go_ret
    exact ⟨ao, cap, by rw [HL.out]; rfl, by rw [HL.out, HQ.out]; exact HO1.out, HC1.out⟩
  · have hpos : 0 < xs.length := by rw [← HN.out]; omega
    obtain ⟨g, cap', hv'⟩ := oown_slice HO1.out hpos
    simp only [Value.slice.injEq] at hv'
    obtain ⟨rfl, -, rfl⟩ := hv'
    obtain ⟨hg1, hg2, hwr, hat⟩ := HO1.out.wr hpos
    rw [← HN.out] at hwr hat
    have HW := hid hwr
    have HAt0 := hid hat
    have hhi := HO1.out.1
    clear hwr hat HO1 hz
    have HK0 : Hid (keep p xs (k0 + 1) = xs.take k0) := hid (by rw [HK.out k0 hk0, hpk]; exact HKn.out k0 (by omega) hbef)
    have HKL : Hid ((xs.take k0).length = k0) := hid (by rw [List.length_take, ← HN.out]; omega)
    have hkm1 : ((k0 : Int) == -1) = false := by first | (simp; done) | (simp; omega)
    clear hpk hbef
    go_wp2
    go_loopw [5, 6] (fun i j wr => ∃ k q : Nat, k ≤ n ∧ q < k ∧ j = .int .i64 k ∧ i = .int .i64 q ∧ (keep p xs k).length = q ∧ (∀ t, t < q → At wr g (0 + t * 6) ((keep p xs k).getD t oz)) ∧ (∀ t, k ≤ t → t < n → At wr g (0 + t * 6) (xs.getD t oz)) ∧ Wr wr g (n * 6) ∧ Chg lo hi w wr ∧ hi ≤ wr.heap.size)
      (fun _ j _ => n - (intOf j).toNat)
    case atStart => exact ⟨k0 + 1, k0, by omega, by omega, by go_num, rfl, by rw [HK0.out]; exact HKL.out, fun t ht => by
        rw [HK0.out, show (xs.take k0).getD t oz = xs.getD t oz from by simp [List.getD, ht]]
        exact HAt0.out t (by omega), fun t _ ht => HAt0.out t ht, HW.out, HC1.out, hhi⟩
    case round =>
      obtain ⟨k, q, hk, hqk, rfl, rfl, hkl, hat1, hat2, hw, hc, hsz⟩ := hrel
      have HKq := hid hkl
      have H1 := hid hat1
      have H2 := hid hat2
      have HWr := hid hw
      have HCh := hid hc
      clear hkl hat1 hat2 hw hc HW HAt0 HC1
      by_cases hlt : k < n
      · have HA := H2.out k (Nat.le_refl _) hlt
        have HNx := hid (HK.out k hlt)
        have HPk := hid (HP.out (xs.getD k oz))
        obtain ⟨r, hr⟩ : ∃ r, r = p (xs.getD k oz) := ⟨_, rfl⟩
        rw [← hr] at HPk HNx
        clear hr
        have HST := hid (fun W (hA : Wr W g (n * 6)) => setN_at (x := xs.getD k oz) (o := q * 6) hA.1 (fun i hi => (hA.2 _ (by omega)).2))
        generalize xs.getD k oz = x at HA HPk HNx HST
        have HN6 := hid (at_new x 87 wr)
        obtain ⟨x0, x1, x2, x3, x4, x5⟩ := x
        simp only [V.val] at HPk
        simp only at HN6
        have hbE := (Below.refl wr.heap.size wr).alloc (Nat.le_refl _) (.cells #[.int .i64 x0, .int .i64 x1, .int .i64 x2, .int .i64 x3, .int .i64 x4, .int .i64 x5] 87)
        have c0 := HA.c0
        have c1 := HA.c1
        have c2 := HA.c2
        have c3 := HA.c3
        have c4 := HA.c4
        have c5 := HA.c5
        simp only [Nat.zero_add] at c0 c1 c2 c3 c4 c5
        clear HA
        have HE := hid hbE
        clear hbE
        go_wp2_with fail
        clear c0 c1 c2 c3 c4 c5
        generalize wr.alloc (.cells #[.int .i64 x0, .int .i64 x1, .int .i64 x2, .int .i64 x3, .int .i64 x4, .int .i64 x5] 87) = W0 at *
        refine (HPk.out _).mono ?_
        rintro e w2 ⟨rfl, b2⟩
        have bb := HE.out.trans (b2.mono HE.out.size)
        have HB2 := hid bb
        have HN2 := hid (HN6.out.below b2)
        have HC2 : Hid (Chg lo hi w w2) := hid (HCh.out.trans ⟨bb.os, bb.tape, bb.output, bb.size, fun k hk _ => bb.block k hk⟩)
        have HW2 := hid (HWr.out.below bb)
        have hsz2 : hi ≤ w2.heap.size := Nat.le_trans hsz bb.size
        clear b2 bb HPk HE HN6
        cases r with
        | true =>
          have HNx2 : Hid (keep p xs (k + 1) = keep p xs k) := hid (by rw [HNx.out]; rfl)
          clear HST HN2
          go_wp2
          go_roundw
          case rel => exact ⟨k + 1, q, by omega, by omega, by go_num, rfl, by rw [HNx2.out]; exact HKq.out, fun t ht => by rw [HNx2.out]; exact (H1.out t ht).below HB2.out, fun t h1 h2 => (H2.out t (by omega) h2).below HB2.out, HW2.out, HC2.out, hsz2⟩
          case measure => simp [intOf]; omega
        | false =>
          have HNx2 : Hid (keep p xs (k + 1) = keep p xs k ++ [⟨x0, x1, x2, x3, x4, x5⟩]) := hid (by rw [HNx.out]; rfl)
          have e0 := HN2.out.c0
          have e1 := HN2.out.c1
          have e2 := HN2.out.c2
          have e3 := HN2.out.c3
          have e4 := HN2.out.c4
          have e5 := HN2.out.c5
          simp only [Nat.zero_add] at e0 e1 e2 e3 e4 e5
          obtain ⟨f0, u0', h0⟩ := HW2.out.2 (q * 6) (by omega)
          obtain ⟨f1, u1', h1⟩ := HW2.out.2 (q * 6 + 1) (by omega)
          obtain ⟨f2, u2', h2⟩ := HW2.out.2 (q * 6 + 2) (by omega)
          obtain ⟨f3, u3', h3⟩ := HW2.out.2 (q * 6 + 3) (by omega)
          obtain ⟨f4, u4', h4⟩ := HW2.out.2 (q * 6 + 4) (by omega)
          obtain ⟨f5, u5', h5⟩ := HW2.out.2 (q * 6 + 5) (by omega)
          have HS3 := hid (HST.out w2 HW2.out)
          have HW3 : Hid (Wr (setN w2 g (q * 6) ⟨x0, x1, x2, x3, x4, x5⟩) g (n * 6)) := hid (by
            unfold setN
            exact ((((((HW2.out.set (q * 6) _ (by omega)).set (q * 6 + 1) _ (by omega)).set (q * 6 + 2) _ (by omega)).set (q * 6 + 3) _ (by omega)).set (q * 6 + 4) _ (by omega)).set (q * 6 + 5) _ (by omega)))
          have HC3 : Hid (Chg lo hi w (setN w2 g (q * 6) ⟨x0, x1, x2, x3, x4, x5⟩)) := hid (by
            unfold setN
            exact (chg_set (chg_set (chg_set (chg_set (chg_set (chg_set HC2.out _ hg1 hg2) _ hg1 hg2) _ hg1 hg2) _ hg1 hg2) _ hg1 hg2) _ hg1 hg2))
          have hsz3 : hi ≤ (setN w2 g (q * 6) ⟨x0, x1, x2, x3, x4, x5⟩).heap.size := by rw [setN_size]; exact hsz2
          go_wp2
          clear e0 f0 h0 e1 f1 h1 e2 f2 h2 e3 f3 h3 e4 f4 h4 e5 f5 h5
          go_roundw
          case rel => exact ⟨k + 1, q + 1, by omega, by omega, by go_num, by go_num, by rw [HNx2.out, List.length_append, HKq.out]; rfl, fun t ht => by
              rw [HNx2.out]
              by_cases e : t = q
              · subst e
                rw [show (keep p xs k ++ [(⟨x0, x1, x2, x3, x4, x5⟩ : V)]).getD t oz = ⟨x0, x1, x2, x3, x4, x5⟩ from by simp [List.getD, List.getElem?_append_right (show (keep p xs k).length ≤ t from by rw [HKq.out]; omega), HKq.out], Nat.zero_add]
                exact HS3.out
              · rw [show (keep p xs k ++ [(⟨x0, x1, x2, x3, x4, x5⟩ : V)]).getD t oz = (keep p xs k).getD t oz from by simp [List.getD, List.getElem?_append_left (show t < (keep p xs k).length from by rw [HKq.out]; omega)]]
                exact ((H1.out t (by omega)).below HB2.out).setN (o := q * 6) (x := ⟨x0, x1, x2, x3, x4, x5⟩) (by omega), fun t h1 h2 => ((H2.out t (by omega) h2).below HB2.out).setN (o := q * 6) (x := ⟨x0, x1, x2, x3, x4, x5⟩) (by omega), HW3.out, HC3.out, hsz3⟩
          case measure => simp [intOf]; omega
      · obtain rfl : k = n := by omega
        have hq0 : ¬ cap = q := by omega
        have hq1 : q ≤ k := by omega
        have hq2 : k ≤ cap := hcap.1
        have hcl : ∀ ty, (Builtin.clear_ #[26] ty #[.slice (some ⟨g, q * 6, none⟩) (k - q) (cap - q)]).run Try.prog wr = .ok (.tuple #[]) (wr.setCells g (q * 6) (List.replicate ((k - q) * 6) (.int .i64 0))) :=
          fun ty => run_clearE wr ty g (q * 6) (k - q) (cap - q) (by omega) (fun j hj => by obtain ⟨u, hu⟩ := (HWr.out.2 (q * 6 + j) (by omega)).2; rw [hu]; rfl) (fun j hj => (HWr.out.2 (q * 6 + j) (by omega)).1)
        have HC3 := hid (chg_clear HCh.out hg1 hg2 (List.replicate ((k - q) * 6) (.int .i64 0)) (q * 6))
        have HA3 : Hid (∀ t, t < q → At (wr.setCells g (q * 6) (List.replicate ((k - q) * 6) (.int .i64 0))) g (0 + t * 6) ((keep p xs k).getD t oz)) := hid (fun t ht => (H1.out t ht).clear _ (by omega))
        have HF3 : Hid (∀ o, o < q * 6 → (wr.setCells g (q * 6) (List.replicate ((k - q) * 6) (.int .i64 0))).frozen? ⟨g, o, none⟩ = false) := hid (fun o ho => by rw [World.frozen?_setCells]; exact (HWr.out.2 o (by omega)).1)
        have hsz3 : hi ≤ (wr.setCells g (q * 6) (List.replicate ((k - q) * 6) (.int .i64 0))).heap.size := Nat.le_trans hsz (Nat.le_of_eq (size_setCells_eq _ _ _ _).symm)
        clear HWr HCh
        go_wp2
        go_ret
        refine ⟨some ⟨g, 0, none⟩, cap, by rw [HKq.out]; rfl, ⟨hsz3, ?_⟩, HC3.out⟩
        by_cases hq : q = 0
        · subst hq
          exact .inl ⟨List.length_eq_zero_iff.1 HKq.out, _, _, by rw [HKq.out], fun h => by cases h⟩
        · exact .inr ⟨by rw [HKq.out]; omega, g, _, by rw [HKq.out], hg1, hg2, fun o ho => HF3.out o (by rw [HKq.out] at ho; exact ho), fun j hj => HA3.out j (by rw [HKq.out] at hj; exact hj)⟩
end Go.Proofs.Ytlbhpndkmgchcaa.ev
