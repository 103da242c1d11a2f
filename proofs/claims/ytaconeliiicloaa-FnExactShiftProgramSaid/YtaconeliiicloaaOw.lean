/-
  Operations for a width: the model's l07Fits and l07Ops, the program's isOpFor and areOpsFor.
-/
import Derived.Test.YtaconeliiicloaaOs
import Derived.Test.YtaconeliiicloaaFv
namespace Go.Proofs.Ytaconeliiicloaa.os
open Go.RowKit Go.Proofs.Ytaconeliiicloaa.sl Go.Proofs.Ytaconeliiicloaa.vo Go.Proofs.Ytaconeliiicloaa.nd Go.Proofs.Ytaconeliiicloaa.bw Go.Proofs.Ytaconeliiicloaa.br Go.Proofs.Ytaconeliiicloaa.fv
set_option linter.unusedVariables false
set_option linter.unusedSimpArgs false

def valB (x : OpV) : Bool := opB x.k x.d x.fb x.fa x.tb x.ta x.c x.r
def fitB (wd : Int) (x : OpV) : Bool := decide (x.fa < wd) && decide (x.ta < wd)
/-- Valid for a width. -/
def okB (wd : Int) (x : OpV) : Bool := valB x && fitB wd x
def opsB (wd : Int) (xs : List OpV) : Bool := decide (1 ≤ wd ∧ wd ≤ 24) && decide (xs.length ≤ 1500) && xs.all (okB wd)

theorem fits (x : OpV) (p o : Nat) (wd : Int) (w : World) (H : At w p o x) : Calls Try.prog 106 #[.pointer (some ⟨p, o, none⟩), .int .i64 wd] w fun e w' => e = .returned (.bool (fitB wd x)) ∧ w = w' := by
  obtain ⟨k, d, fb, fa, tb, ta, c, r⟩ := x
  obtain ⟨q, hq⟩ : ∃ q, q = fitB wd ⟨k, d, fb, fa, tb, ta, c, r⟩ := ⟨_, rfl⟩
  rw [← hq]
  simp only [fitB] at hq
  have h3 := H.c3
  have h5 := H.c5
  simp only at h3 h5
  clear H
  by_cases h1 : fa < wd
  · have HQ : Hid (q = decide (ta < wd)) := hid (by rw [hq]; simp [h1])
    clear hq
    by_cases h2 : ta < wd
    · go_enter Try.func106, Try.ntmps106
      go_wp2
      go_ret
      exact ⟨by rw [HQ.out]; simp [h2], rfl⟩
    · go_enter Try.func106, Try.ntmps106
      go_wp2
      go_ret
      exact ⟨by rw [HQ.out]; simp [h2], rfl⟩
  · have hd : decide (fa < wd) = false := decide_eq_false h1
    have HQ : Hid (q = false) := hid (by rw [hq, hd]; rfl)
    clear hq h1
    go_enter Try.func106, Try.ntmps106
    go_wp2
    go_ret
    exact ⟨by rw [HQ.out]; first | done | rfl, rfl⟩

theorem max_lt (a b wd : Int) : (if a < b then decide (b < wd) else decide (a < wd)) = (decide (a < wd) && decide (b < wd)) := by
  split <;> (rw [← Bool.decide_and]; exact decide_eq_decide.2 (by omega))

set_option maxRecDepth 100000 in
set_option maxHeartbeats 1000000 in
theorem isFor (x : OpV) (wd : Int) (w : World) : Calls Try.prog 110 #[.int .i64 wd, x.val] w fun e w' => e = .returned (.bool (okB wd x)) ∧ Below w.heap.size w w' := by
  obtain ⟨k, d, fb, fa, tb, ta, c, r⟩ := x
  obtain ⟨q, hq⟩ : ∃ q, q = okB wd ⟨k, d, fb, fa, tb, ta, c, r⟩ := ⟨_, rfl⟩
  rw [← hq]
  simp only [okB, fitB, valB] at hq
  rw [← max_lt] at hq
  have HV := hid (fun W => implVO k d fb fa tb ta c r W)
  generalize opB k d fb fa tb ta c r = v at *
  have bE : Below w.heap.size w (w.alloc (.cells #[.int .i64 k, .int .i64 d, .int .i64 fb, .int .i64 fa, .int .i64 tb, .int .i64 ta, .int .i64 c, .int .i64 r] 90)) := (Below.refl _ _).alloc (Nat.le_refl _) _
  have H1 := opAt_new k d fb fa tb ta c r w
  simp only [OpV.val]
  have HQ := hid hq
  clear hq
  go_enter Try.func110, Try.ntmps110
  go_wp2_with fail
  generalize w.alloc (.cells #[.int .i64 k, .int .i64 d, .int .i64 fb, .int .i64 fa, .int .i64 tb, .int .i64 ta, .int .i64 c, .int .i64 r] 90) = W0 at *
  refine (HV.out _).mono ?_
  rintro e w1 ⟨rfl, hb⟩
  replace H1 := H1.below hb
  have BE := hid (bE.trans (hb.mono bE.size))
  clear hb bE
  obtain ⟨k0, k1, k2, k3, k4, k5, k6, k7⟩ := H1.z
  cases v with
  | false =>
    have HQ2 : Hid (q = false) := hid (by rw [HQ.out]; rfl)
    go_wp2
    go_ret
    exact ⟨by rw [HQ2.out]; first | done | rfl, BE.out⟩
  | true =>
    by_cases hlt : fa < ta
    · have HQ2 : Hid (q = decide (ta < wd)) := hid (by rw [HQ.out]; simp [hlt])
      go_wp2
      go_ret
      exact ⟨by rw [HQ2.out]; first | done | rfl, BE.out⟩
    · have HQ2 : Hid (q = decide (fa < wd)) := hid (by rw [HQ.out]; simp [hlt])
      go_wp2
      go_ret
      exact ⟨by rw [HQ2.out]; first | done | rfl, BE.out⟩

theorem all_bad (p : OpV → Bool) (xs : List OpV) (k : Nat) (hk : k < xs.length) (h : p (xs.getD k oz) = false) : xs.all p = false := by
  rw [List.all_eq_false]
  refine ⟨xs.getD k oz, ?_, by rw [h]; simp⟩
  rw [show xs.getD k oz = xs[k] from by simp [List.getD, List.getElem?_eq_getElem hk]]
  exact List.getElem_mem hk
theorem all_good (p : OpV → Bool) (xs : List OpV) (h : ∀ k, k < xs.length → p (xs.getD k oz) = true) : xs.all p = true := by
  rw [List.all_eq_true]
  intro x hx
  obtain ⟨j, hj, rfl⟩ := List.getElem_of_mem hx
  have := h j hj
  rwa [show xs.getD j oz = xs[j] from by simp [List.getD, List.getElem?_eq_getElem hj]] at this
theorem all_at {p : OpV → Bool} {xs : List OpV} (h : xs.all p = true) (k : Nat) (hk : k < xs.length) : p (xs.getD k oz) = true := by
  rw [List.all_eq_true] at h
  refine h _ ?_
  rw [show xs.getD k oz = xs[k] from by simp [List.getD, List.getElem?_eq_getElem hk]]
  exact List.getElem_mem hk

/-- slices.IndexFunc over operations at a closure over one variable: -1 where every one passes. -/
theorem idxOps (p : OpV → Bool) (g : Nat) (cps : Array Value) (xs : List OpV) (v : Value) (B : Nat) (w : World) (ha : Ops w B v xs) (hB : B ≤ w.heap.size) (hn : xs.length ≤ 1048576)
    (eg : ∀ args w, (callFunc g args).run Try.prog w = .ok (.enter g args) w) (hp : ∀ (k : Nat) (W : World), k < xs.length → Below w.heap.size w W → Calls Try.prog g (#[(xs.getD k oz).val] ++ cps) W fun e w' => e = .returned (.bool (!p (xs.getD k oz))) ∧ Below W.heap.size W w') :
    Calls Try.prog 135 #[v, .func (.func g) #[] cps] w fun e w' => ∃ z : Int, e = .returned (.int .i64 z) ∧ Hid (xs.all p = decide (z < 0)) ∧ Below w.heap.size w w' := by
  have HP := hid hp
  clear hp
  rcases ha with ⟨rfl, ao, cap, rfl, hao⟩ | ⟨hp, b, off, cap, rfl, hb, hc⟩
  · go_enter Try.func135, Try.ntmps135
    go_wp2
    refine wp_loop_rounds 1 ?_
    rw [rounds_succ]
    go_wp2
    go_ret
    exact ⟨-1, rfl, hid rfl, Below.refl _ _⟩
  · have HBad := hid (fun k h1 h2 => all_bad p xs k h1 h2)
    have HGood := hid (all_good p xs)
    obtain ⟨n, hnn⟩ : ∃ n, n = xs.length := ⟨_, rfl⟩
    rw [← hnn] at hp hc hn HP HBad HGood ⊢
    have HN := hid hnn
    have HC := hid hc
    clear hnn hc
    go_enter Try.func135, Try.ntmps135
    go_wp2
    go_loopw [8] (fun i wr => ∃ k : Nat, k ≤ n ∧ i = .int .i64 k ∧ (∀ j, j < k → p (xs.getD j oz) = true) ∧ Below w.heap.size w wr) (fun i _ => n - (intOf i).toNat)
    case atStart => exact ⟨0, Nat.zero_le _, rfl, fun j hj => by omega, Below.refl _ _⟩
    case round =>
      obtain ⟨k, hk, rfl, hg, hbel⟩ := hrel
      have HG := hid hg
      have HB := hid hbel
      clear hg hbel
      by_cases hlt : k < n
      · have HA : At wr b (off + k * 8) (xs.getD k oz) := (HC.out k hlt).below HB.out
        have HPk := hid (HP.out k wr hlt HB.out)
        obtain ⟨q, hq⟩ : ∃ q, q = p (xs.getD k oz) := ⟨_, rfl⟩
        rw [← hq] at HPk
        have HQ := hid hq
        clear hq
        generalize xs.getD k oz = x at HA HPk
        obtain ⟨x0, x1, x2, x3, x4, x5, x6, x7⟩ := x
        have c0 := HA.c0
        have c1 := HA.c1
        have c2 := HA.c2
        have c3 := HA.c3
        have c4 := HA.c4
        have c5 := HA.c5
        have c6 := HA.c6
        have c7 := HA.c7
        simp only at c0 c1 c2 c3 c4 c5 c6 c7
        clear HA
        go_wp2_with fail
        refine HPk.out.mono ?_
        rintro e w1 ⟨rfl, b1⟩
        have HB1 := hid (HB.out.trans (b1.mono HB.out.size))
        clear b1 HPk c0 c1 c2 c3 c4 c5 c6 c7
        cases q
        · have HF := hid (HBad.out k hlt HQ.out.symm)
          go_wp2
          go_ret
          exact ⟨k, rfl, hid (by rw [HF.out]; simp), HB1.out⟩
        · go_wp2
          go_roundw
          case rel => exact ⟨k + 1, by omega, by go_num, fun j hj => by
            rcases Nat.lt_or_ge j k with h | h
            · exact HG.out j h
            · obtain rfl : j = k := by omega
              exact HQ.out.symm, HB1.out⟩
          case measure => simp [intOf]; omega
      · obtain rfl : k = n := by omega
        have HF := hid (HGood.out HG.out)
        go_wp2
        go_ret
        exact ⟨-1, rfl, hid (by rw [HF.out]; rfl), HB.out⟩

theorem contOps (p : OpV → Bool) (g : Nat) (cps : Array Value) (xs : List OpV) (v : Value) (B : Nat) (w : World) (ha : Ops w B v xs) (hB : B ≤ w.heap.size) (hn : xs.length ≤ 1048576)
    (eg : ∀ args w, (callFunc g args).run Try.prog w = .ok (.enter g args) w) (hp : ∀ (k : Nat) (W : World), k < xs.length → Below w.heap.size w W → Calls Try.prog g (#[(xs.getD k oz).val] ++ cps) W fun e w' => e = .returned (.bool (!p (xs.getD k oz))) ∧ Below W.heap.size W w') :
    Calls Try.prog 108 #[v, .func (.func g) #[] cps] w fun e w' => e = .returned (.bool (!xs.all p)) ∧ Below w.heap.size w w' := by
  have H := hid (idxOps p g cps xs v B w ha hB hn eg hp)
  obtain ⟨ao, cap, rfl⟩ := ops_val ha
  clear ha hp
  generalize xs.length = n at *
  go_enter Try.func108, Try.ntmps108
  go_wp2_with fail
  refine H.out.mono ?_
  rintro e w1 ⟨z, rfl, HZ, b1⟩
  have HB := hid b1
  clear b1
  by_cases hz : 0 ≤ z
  · have HF : Hid (xs.all p = false) := hid (by rw [HZ.out]; simp; omega)
    go_wp2
    go_ret
    exact ⟨by rw [HF.out]; rfl, HB.out⟩
  · have HF : Hid (xs.all p = true) := hid (by rw [HZ.out]; simp; omega)
    have hz2 : decide (0 ≤ z) = false := decide_eq_false hz
    go_wp2
    go_ret
    exact ⟨by rw [HF.out]; rfl, HB.out⟩

theorem forC (b : Nat) (wd : Int) (x : OpV) (W : World) (h0 : W.cell? ⟨b, 0, none⟩ = some (.int .i64 wd)) :
    Calls Try.prog 109 #[x.val, .pointer (some ⟨b, 0, none⟩)] W fun e w' => e = .returned (.bool (!okB wd x)) ∧ Below W.heap.size W w' := by
  have HV := hid (fun W => isFor x wd W)
  generalize okB wd x = q at *
  obtain ⟨k, d, fb, fa, tb, ta, c, r⟩ := x
  have hlt : b < W.heap.size := World.block_lt_of_cell? W _ h0
  have bE : Below W.heap.size W (W.alloc (.cells #[.int .i64 k, .int .i64 d, .int .i64 fb, .int .i64 fa, .int .i64 tb, .int .i64 ta, .int .i64 c, .int .i64 r] 90)) := (Below.refl _ _).alloc (Nat.le_refl _) _
  have h1 := (bE.cell (p := ⟨b, 0, none⟩) hlt).trans h0
  simp only [OpV.val] at HV ⊢
  go_enter Try.func109, Try.ntmps109
  go_wp2_with fail
  refine (HV.out _).mono ?_
  rintro e w1 ⟨rfl, b1⟩
  have HB := hid (bE.trans (b1.mono bE.size))
  clear b1
  go_wp2
  go_ret
  exact ⟨rfl, HB.out⟩

theorem areFor (wd : Int) (xs : List OpV) (v : Value) (B : Nat) (w : World) (ha : Ops w B v xs) (hB : B ≤ w.heap.size) (hq : Small xs) :
    Calls Try.prog 74 #[.int .i64 wd, v] w fun e w' => e = .returned (.bool (opsB wd xs)) ∧ Below w.heap.size w w' := by
  have eg := enters_of Try.func109 (by kernel_rfl) rfl
  have hb := (Below.refl w.heap.size w).alloc (Nat.le_refl _) (.cells #[.int .i64 wd] 2)
  have HC : Hid (Calls Try.prog 108 #[v, .func (.func 109) #[] #[.pointer (some ⟨w.heap.size, 0, none⟩)]] (w.alloc (.cells #[.int .i64 wd] 2)) fun e w' => e = .returned (.bool (!xs.all (okB wd))) ∧ Below (w.alloc (.cells #[.int .i64 wd] 2)).heap.size (w.alloc (.cells #[.int .i64 wd] 2)) w') :=
    hid (contOps (okB wd) 109 #[.pointer (some ⟨w.heap.size, 0, none⟩)] xs v B _ (ha.al _) (by simp; omega) hq.len eg (fun k W hk hb =>
      forC w.heap.size wd (xs.getD k oz) W ((hb.cell (p := ⟨w.heap.size, 0, none⟩) (by simp)).trans (World.cell?_alloc_at _ _ _ _ rfl))))
  obtain ⟨ao, cap, rfl⟩ := ops_val ha
  have hlen := hq.len
  clear ha hq eg
  obtain ⟨q, hq⟩ : ∃ q, q = opsB wd xs := ⟨_, rfl⟩
  rw [← hq]
  simp only [opsB] at hq
  generalize xs.all (okB wd) = y at *
  generalize xs.length = n at *
  by_cases h1 : 1 ≤ wd ∧ wd ≤ 24
  · have hd : decide (1 ≤ wd ∧ wd ≤ 24) = true := decide_eq_true h1
    by_cases h2 : n ≤ 1500
    · have hl : decide ((1500 : Int) < (n : Int)) = false := by simp; omega
      have HQ : Hid (q = y) := hid (by rw [hq, hd]; simp [h2])
      clear hq h1 h2
      go_enter Try.func74, Try.ntmps74
      go_wp2_with (go_at_call 57; refine (nd.within64 _ _ _ _).mono ?_; rintro e w' ⟨rfl, rfl⟩)
      refine HC.out.mono ?_
      rintro e w1 ⟨rfl, b1⟩
      have HB := hid (hb.trans (b1.mono hb.size))
      clear b1 hb
      go_wp2
      go_ret
      exact ⟨by rw [HQ.out]; simp, HB.out⟩
    · have hl : decide ((1500 : Int) < (n : Int)) = true := by simp; omega
      have HQ : Hid (q = false) := hid (by rw [hq]; simp [h2])
      clear hq h1 h2 HC
      go_enter Try.func74, Try.ntmps74
      go_wp2_with (go_at_call 57; refine (nd.within64 _ _ _ _).mono ?_; rintro e w' ⟨rfl, rfl⟩)
      go_ret
      exact ⟨by rw [HQ.out]; first | done | rfl, hb⟩
  · have hd : decide (1 ≤ wd ∧ wd ≤ 24) = false := decide_eq_false h1
    have HQ : Hid (q = false) := hid (by rw [hq, hd]; rfl)
    clear hq h1 HC
    go_enter Try.func74, Try.ntmps74
    go_wp2_with (go_at_call 57; refine (nd.within64 _ _ _ _).mono ?_; rintro e w' ⟨rfl, rfl⟩)
    go_ret
    exact ⟨by rw [HQ.out]; first | done | rfl, hb⟩

theorem specOps (wd : Int) (xs : List OpV) (v : Value) (B : Nat) (w : World) (ha : Ops w B v xs) (hB : B ≤ w.heap.size) (hq : Small xs) :
    Calls Try.prog 71 #[.int .i64 wd, v] w fun e w' => e = .returned (.bool (opsB wd xs)) ∧ Below w.heap.size w w' := by
  have hlen := hq.len
  obtain ⟨q, hqq⟩ : ∃ q, q = opsB wd xs := ⟨_, rfl⟩
  have HBad : Hid (∀ k, k < xs.length → okB wd (xs.getD k oz) = false → q = false) := hid (fun k hk h => by rw [hqq, opsB, all_bad _ xs k hk h]; simp)
  have HGood : Hid ((∀ k, k < xs.length → okB wd (xs.getD k oz) = true) → q = (decide (1 ≤ wd ∧ wd ≤ 24) && decide (xs.length ≤ 1500))) := hid (fun h => by rw [hqq, opsB, all_good _ xs h]; simp)
  rw [← hqq]
  clear hqq hq
  have finish : ∀ (n : Nat) (W : World) (q : Bool), n ≤ 1048576 → q = (decide (1 ≤ wd ∧ wd ≤ 24) && decide (n ≤ 1500)) → True := fun _ _ _ _ _ => trivial
  clear finish
  obtain ⟨u, hu⟩ : ∃ u, u = decide (1 ≤ wd ∧ wd ≤ 24) := ⟨_, rfl⟩
  rw [← hu] at HGood
  have HU := hid (fun w1 => show Calls Try.prog 88 #[.int .i64 wd, .int .i64 1, .int .i64 24] w1 fun e w2 => e = .returned (.bool u) ∧ w1 = w2 from by rw [hu]; exact nd.specIn _ _ _ w1)
  clear hu
  rcases ha with ⟨rfl, ao, cap, rfl, hao⟩ | ⟨hp, b, off, cap, rfl, hb, hc⟩
  · have HQ : Hid (q = u) := hid (by rw [HGood.out (fun k hk => by simp at hk)]; simp)
    cases u <;>
    (go_enter Try.func71, Try.ntmps71
     go_wp2
     refine wp_loop_rounds 1 ?_
     rw [rounds_succ]
     go_wp2_with (go_at_call 88; refine (HU.out _).mono ?_; rintro e w' ⟨rfl, rfl⟩)
     go_ret
     exact ⟨by rw [HQ.out]; first | done | rfl, Below.refl _ _⟩)
  · have HA := hid (fun k (h : k < xs.length) (wr : World) (hb : Below w.heap.size w wr) => (hc k h).below hb)
    have HS : Hid (∀ k, k < xs.length → ∀ wr, Below w.heap.size w wr → Calls Try.prog 105 #[.pointer (some ⟨b, off + k * 8, none⟩)] wr fun e w' => e = .returned (.bool (valB (xs.getD k oz))) ∧ Below wr.heap.size wr w') :=
      hid (fun k h wr hb => specAt _ _ _ _ _ _ _ _ b (off + k * 8) wr (HA.out k h wr hb))
    have HF : Hid (∀ k, k < xs.length → ∀ wr, Below w.heap.size w wr → Calls Try.prog 106 #[.pointer (some ⟨b, off + k * 8, none⟩), .int .i64 wd] wr fun e w' => e = .returned (.bool (fitB wd (xs.getD k oz))) ∧ wr = w') :=
      hid (fun k h wr hb => fits (xs.getD k oz) b (off + k * 8) wd wr (HA.out k h wr hb))
    clear HA hc
    obtain ⟨n, hnn⟩ : ∃ n, n = xs.length := ⟨_, rfl⟩
    rw [← hnn] at hp hlen HBad HGood HS HF ⊢
    clear hnn
    go_enter Try.func71, Try.ntmps71
    go_wp2
    go_loopw [5] (fun i wr => ∃ k : Nat, k ≤ n ∧ i = .int .i64 k ∧ (∀ j, j < k → okB wd (xs.getD j oz) = true) ∧ Below w.heap.size w wr) (fun i _ => n - (intOf i).toNat)
    case atStart => exact ⟨0, Nat.zero_le _, rfl, fun j hj => by omega, Below.refl _ _⟩
    case round =>
      obtain ⟨k, hk, rfl, hg, hbel⟩ := hrel
      have HG := hid hg
      have HB := hid hbel
      clear hg hbel
      by_cases hlt : k < n
      · have HSk := hid (HS.out k hlt wr HB.out)
        have HFk := hid (HF.out k hlt)
        have HOk : Hid (okB wd (xs.getD k oz) = (valB (xs.getD k oz) && fitB wd (xs.getD k oz))) := hid rfl
        have HBk := hid (HBad.out k hlt)
        have HGk : Hid (okB wd (xs.getD k oz) = true → ∀ j, j < k + 1 → okB wd (xs.getD j oz) = true) := hid (fun h j hj => by
          rcases Nat.lt_or_ge j k with h' | h'
          · exact HG.out j h'
          · obtain rfl : j = k := by omega
            exact h)
        generalize okB wd (xs.getD k oz) = y at HOk HBk HGk
        generalize valB (xs.getD k oz) = y1 at HOk HSk
        generalize fitB wd (xs.getD k oz) = y2 at HOk HFk
        go_wp2_with fail
        refine HSk.out.mono ?_
        rintro e w1 ⟨rfl, b1⟩
        have HB1 := hid (HB.out.trans (b1.mono HB.out.size))
        have HFj := hid (HFk.out w1 HB1.out)
        clear b1 HSk HFk
        cases y1
        · have HQ := hid (HBk.out (by rw [HOk.out]; rfl))
          go_wp2
          go_ret
          exact ⟨by rw [HQ.out]; first | done | rfl, HB1.out⟩
        · cases y2
          · have HQ := hid (HBk.out (by rw [HOk.out]; rfl))
            go_wp2_with (go_at_call 106; refine HFj.out.mono ?_; rintro e w' ⟨rfl, rfl⟩)
            go_ret
            exact ⟨by rw [HQ.out]; first | done | rfl, HB1.out⟩
          · have HR := hid (HGk.out (by rw [HOk.out]; rfl))
            go_wp2_with (go_at_call 106; refine HFj.out.mono ?_; rintro e w' ⟨rfl, rfl⟩)
            go_roundw
            case rel => exact ⟨k + 1, by omega, by go_num, HR.out, HB1.out⟩
            case measure => simp [intOf]; omega
      · obtain rfl : k = n := by omega
        have HQ := hid (HGood.out HG.out)
        cases u
        · go_wp2_with (go_at_call 88; refine (HU.out _).mono ?_; rintro e w' ⟨rfl, rfl⟩)
          go_ret
          exact ⟨by rw [HQ.out]; first | done | rfl, HB.out⟩
        · by_cases hl : k ≤ 1500
          · have hl2 : decide ((k : Int) ≤ 1500) = true := by simp; omega
            have HQ2 : Hid (q = true) := hid (by rw [HQ.out]; simp [hl])
            go_wp2_with (go_at_call 88; refine (HU.out _).mono ?_; rintro e w' ⟨rfl, rfl⟩)
            go_ret
            exact ⟨by rw [HQ2.out]; first | done | rfl, HB.out⟩
          · have hl2 : decide ((k : Int) ≤ 1500) = false := by simp; omega
            have HQ2 : Hid (q = false) := hid (by rw [HQ.out]; simp [hl])
            go_wp2_with (go_at_call 88; refine (HU.out _).mono ?_; rintro e w' ⟨rfl, rfl⟩)
            go_ret
            exact ⟨by rw [HQ2.out]; first | done | rfl, HB.out⟩
end Go.Proofs.Ytaconeliiicloaa.os
