/-
  Valid machines: the descriptions of loops, of the program.
-/
import Derived.Test.YtlhpipcmebmpdabVm1
namespace Go.Proofs.Ytlhpipcmebmpdab.mc
open Go.RowKit Go.Sort Go.Proofs.Ytlhpipcmebmpdab.sl Go.Proofs.Ytlhpipcmebmpdab.br
set_option linter.unusedVariables false
set_option linter.unusedSimpArgs false

/-! ### different numbers -/
theorem zeros300 : Try.zeroCells144 = Array.replicate 300 (.bool false) := by kernel_rfl
/-- The table of what has been seen. -/
structure Seen (w : World) (g : Nat) (l : List Int) : Prop where
  lt : g < w.heap.size
  c : ∀ j, j < 300 → w.cell? ⟨g, j, none⟩ = some (.bool (decide ((j : Int) ∈ l))) ∧ w.frozen? ⟨g, j, none⟩ = false
theorem seen_new' (w : World) (T : TypeId) (cs : Array Value) (hcs : cs = Array.replicate 300 (.bool false)) : Seen (w.alloc (.cells cs T)) w.heap.size [] := by
  refine ⟨by simp, fun j hj => ⟨?_, ?_⟩⟩
  · have e : (Array.replicate 300 (Value.bool false))[j]? = some (.bool false) := by rw [Array.getElem?_replicate, if_pos hj]
    have d : decide ((j : Int) ∈ ([] : List Int)) = false := by simp
    rw [d]
    rw [← hcs] at e
    exact (World.cell?_alloc_at _ _ _ _ rfl).trans e
  · exact World.frozen?_alloc_at _ _ _ _ rfl
theorem seen_new (w : World) (T : TypeId) : Seen (w.alloc (.cells Try.zeroCells144 T)) w.heap.size [] := seen_new' w T _ zeros300
theorem Seen.set {w : World} {g k : Nat} {l : List Int} {x : Int} (h : Seen w g l) (hx : x = (k : Int)) (hk : k < 300) : Seen (w.setCell ⟨g, k, none⟩ (.bool true)) g (l ++ [x]) := by
  refine ⟨by simpa using h.lt, fun j hj => ⟨?_, ?_⟩⟩
  · by_cases e : j = k
    · subst e
      rw [ss.same_at (h.c j hj).1]
      simp [hx]
    · rw [ss.other_at e, (h.c j hj).1]
      have : ¬ (j : Int) = x := by omega
      simp [this]
  · rw [World.frozen?_setCell]; exact (h.c j hj).2
theorem Seen.below {w w' : World} {g : Nat} {l : List Int} (h : Seen w g l) (b : Below w.heap.size w w') : Seen w' g l :=
  ⟨Nat.lt_of_lt_of_le h.lt b.size, fun j hj => ⟨(b.cell (p := ⟨g, j, none⟩) h.lt).trans (h.c j hj).1, (b.frozen (p := ⟨g, j, none⟩) h.lt).trans (h.c j hj).2⟩⟩

set_option maxRecDepth 100000 in
set_option maxHeartbeats 1000000 in
theorem diffC (n : Int) (xs : List Int) (v : Value) (B : Nat) (w : World) (ha : Ints w B v xs) (hB : B ≤ w.heap.size) (hn : xs.length ≤ 1099511627776) (h0 : 0 ≤ n) (h1 : n ≤ 300) :
    Calls Try.prog 100 #[.int .i64 n, v] w fun e w' => e = .returned (.bool (diffB n xs)) ∧ Below w.heap.size w w' := by
  have hwr : IntKind.i64.wrap (n - 1) = n - 1 := IntWalk.i64_in _ (by omega)
  have HS := hid (seen_new w 144)
  have hal := (Below.refl w.heap.size w).alloc (Nat.le_refl _) (.cells Try.zeroCells144 144)
  rcases ha with ⟨rfl, ao, cap, rfl⟩ | ⟨hp, b, off, cap, rfl, hb, hc⟩
  · have HF : Hid (diffB n [] = true) := hid (by simp [diffB])
    go_enter Try.func100, Try.ntmps100
    go_wp2
    refine wp_loop_rounds 1 ?_
    rw [rounds_succ]
    go_wp2
    go_ret
    exact ⟨by rw [HF.out]; rfl, hal⟩
  · have HBad1 := hid (fun k h1 h2 => @diff_bad1 n xs k h1 h2)
    have HBad2 := hid (fun k h1 h2 => @diff_bad2 n xs k h1 h2)
    have HGood := hid (@diff_good n xs)
    have HStep := hid (fun k p h1 h2 h3 => @preD_step n xs k p h1 h2 h3)
    have HTk := hid (fun k h => @take_snoc xs k h)
    have HP0 := hid (preD_zero n xs)
    obtain ⟨l, hll⟩ : ∃ l, l = xs.length := ⟨_, rfl⟩
    rw [← hll] at hp hc hn HBad1 HBad2 HGood HStep HTk ⊢
    have HC := hid hc
    clear hll hc
    go_enter Try.func100, Try.ntmps100
    go_wp2
    go_loopw [10] (fun i wr => ∃ k : Nat, k ≤ l ∧ i = .int .i64 k ∧ PreD n xs k ∧ Seen wr w.heap.size (xs.take k) ∧ Below w.heap.size w wr) (fun i _ => l - (intOf i).toNat)
    case atStart => exact ⟨0, Nat.zero_le _, rfl, HP0.out, by simpa using HS.out, hal⟩
    case round =>
      obtain ⟨k, hk, rfl, hpre, hseen, hbel⟩ := hrel
      have HPr := hid hpre
      have HSe := hid hseen
      have HB := hid hbel
      clear hpre hseen hbel hal HS
      by_cases hlt : k < l
      · have hx : wr.cell? ⟨b, off + k, none⟩ = some (.int .i64 (xs.getD k 0)) := (HB.out.cell (p := ⟨b, off + k, none⟩) (by show b < _; omega)).trans (HC.out k hlt)
        have H1 := hid (HBad1.out k hlt)
        have H2 := hid (HBad2.out k hlt)
        have H3 := hid (HStep.out k HPr.out hlt)
        have HT := hid (HTk.out k hlt)
        have HW := hid (fun W => nd.within64 (xs.getD k 0) 0 (n - 1) W)
        generalize xs.getD k 0 = x at *
        obtain ⟨t, ht⟩ : ∃ t, inB 0 (n - 1) x = t := ⟨_, rfl⟩
        have ht2 : decide (0 ≤ x ∧ x ≤ n - 1) = t := ht
        rw [ht2] at HW
        clear ht2
        cases t with
        | false =>
          have HF : Hid (diffB n xs = false) := hid (H1.out ht)
          clear ht
          go_wp2_with (go_at_call 66; refine (HW.out _).mono ?_; rintro e w' ⟨rfl, rfl⟩)
          go_ret
          exact ⟨by rw [HF.out]; rfl, HB.out⟩
        | true =>
          have hxr : 0 ≤ x ∧ x ≤ n - 1 := of_decide_eq_true ht
          obtain ⟨m, rfl⟩ : ∃ m : Nat, x = (m : Int) := ⟨x.toNat, by omega⟩
          have hm : m < 300 := by omega
          have hsc := (HSe.out.c m hm).1
          have hsf := (HSe.out.c m hm).2
          have H3b := hid (H3.out ht)
          clear hxr ht
          obtain ⟨u, hu⟩ : ∃ u, decide ((m : Int) ∈ xs.take k) = u := ⟨_, rfl⟩
          rw [hu] at hsc
          cases u with
          | true =>
            have HF : Hid (diffB n xs = false) := hid (H2.out (of_decide_eq_true hu))
            clear hu
            go_wp2_with (go_at_call 66; refine (HW.out _).mono ?_; rintro e w' ⟨rfl, rfl⟩)
            go_ret
            exact ⟨by rw [HF.out]; rfl, HB.out⟩
          | false =>
            have HPn := hid (H3b.out (of_decide_eq_false hu))
            have HSn := hid (HSe.out.set (x := (m : Int)) (k := m) rfl hm)
            clear hu
            go_wp2_with (go_at_call 66; refine (HW.out _).mono ?_; rintro e w' ⟨rfl, rfl⟩)
            go_roundw
            case rel => exact ⟨k + 1, by omega, by go_num, HPn.out, by rw [HT.out]; exact HSn.out, HB.out.setCell (by simp) _⟩
            case measure => simp [intOf]; omega
      · obtain rfl : k = l := by omega
        have HF : Hid (diffB n xs = true) := hid (HGood.out HPr.out)
        go_wp2
        go_ret
        exact ⟨by rw [HF.out]; rfl, HB.out⟩

/-! ### a description -/
theorem withinI (c lo hi : Int) (w : World) : Calls Try.prog 119 #[.int .i64 c, .int .i64 lo, .int .i64 hi] w fun e w' => e = .returned (.bool (decide (lo ≤ c ∧ c ≤ hi))) ∧ w = w' := by
  by_cases h1 : lo ≤ c <;> by_cases h2 : c ≤ hi <;>
    (go_enter Try.func119, Try.ntmps119
     go_wp2
     go_ret
     exact ⟨by simp [h1, h2], rfl⟩)
theorem canC (k n : Int) (w : World) : Calls Try.prog 111 #[.int .i64 k, .int .i64 n] w fun e w' => e = .returned (.bool (kindB k n)) ∧ w = w' := by
  have HW := hid (fun W => withinI n 1 4 W)
  obtain ⟨q, hq⟩ : ∃ q, q = kindB k n := ⟨_, rfl⟩
  rw [← hq]
  by_cases h1 : k = 1
  · subst h1
    have HQ : Hid (q = decide (n ≤ 4)) := hid (by rw [hq]; simp [kindB])
    clear hq
    go_enter Try.func111, Try.ntmps111
    go_wp2
    go_ret
    exact ⟨by rw [HQ.out]; rfl, rfl⟩
  · have h1b : (k == 1) = false := by simpa using h1
    by_cases h2 : k = 2
    · subst h2
      have HQ : Hid (q = (n == 0)) := hid (by rw [hq]; simp [kindB])
      clear hq
      go_enter Try.func111, Try.ntmps111
      go_wp2
      go_ret
      exact ⟨by rw [HQ.out]; rfl, rfl⟩
    · have h2b : (k == 2) = false := by simpa using h2
      by_cases h5 : k = 5
      · subst h5
        have HQ : Hid (q = decide (1 ≤ n ∧ n ≤ 4)) := hid (by rw [hq]; simp [kindB, inB])
        clear hq
        go_enter Try.func111, Try.ntmps111
        go_wp2_with (go_at_call 119; refine (HW.out _).mono ?_; rintro e w' ⟨rfl, rfl⟩)
        go_ret
        exact ⟨by rw [HQ.out]; simp [Bool.decide_and], rfl⟩
      · have h5b : (k == 5) = false := by simpa using h5
        have HQ : Hid (q = false) := hid (by rw [hq]; simp [kindB, h1, h2, h5])
        clear hq h1 h2 h5
        go_enter Try.func111, Try.ntmps111
        go_wp2
        go_ret
        exact ⟨by rw [HQ.out]; rfl, rfl⟩

theorem nfAt_new (x : nf.V) (f : Value) (T : TypeId) (w : World) : nf.At (w.alloc (.cells #[.int .i64 x.a0, .int .i64 x.a1, .int .i64 x.a2, .int .i64 x.a3, .int .i64 x.a4, f] T)) w.heap.size 0 x f :=
  ⟨by simp, World.cell?_alloc_at _ _ _ _ rfl, World.cell?_alloc_at _ _ _ _ rfl, World.cell?_alloc_at _ _ _ _ rfl, World.cell?_alloc_at _ _ _ _ rfl, World.cell?_alloc_at _ _ _ _ rfl, World.cell?_alloc_at _ _ _ _ rfl⟩

set_option maxRecDepth 100000 in
set_option maxHeartbeats 1000000 in
theorem infC (W0 : Int) (x0 x1 x2 x3 x4 : Int) (ps : List Int) (ao : Option Addr) (cap : Nat) (w : World) (hw : 1 ≤ W0 ∧ W0 ≤ 24) (hl : ps.length ≤ 1048576) :
    Calls Try.prog 99 #[.int .i64 W0, .agg #[.int .i64 x0, .int .i64 x1, .int .i64 x2, .int .i64 x3, .int .i64 x4, .slice ao ps.length cap]] w fun e w' => e = .returned (.bool (infB W0 ⟨x0, x1, x2, x3, x4, ps⟩)) ∧ Below w.heap.size w w' := by
  obtain ⟨hw0, hw1⟩ := hw
  have hwr : IntKind.i64.wrap (W0 - 1) = W0 - 1 := IntWalk.i64_in _ (by omega)
  have hal := (Below.refl w.heap.size w).alloc (Nat.le_refl _) (.cells #[.int .i64 x0, .int .i64 x1, .int .i64 x2, .int .i64 x3, .int .i64 x4, .slice ao ps.length cap] 67)
  obtain ⟨q, hq⟩ : ∃ q, q = infB W0 ⟨x0, x1, x2, x3, x4, ps⟩ := ⟨_, rfl⟩
  rw [← hq]
  simp only [infB] at hq
  obtain ⟨b0, hb0⟩ : ∃ b, b = kindB x0 ps.length := ⟨_, rfl⟩
  obtain ⟨b1, hb1⟩ : ∃ b, b = vo.carB x1 := ⟨_, rfl⟩
  obtain ⟨b2, hb2⟩ : ∃ b, b = inB 1 2 x2 := ⟨_, rfl⟩
  obtain ⟨b3, hb3⟩ : ∃ b, b = inB 0 (W0 - 1) x3 := ⟨_, rfl⟩
  obtain ⟨b4, hb4⟩ : ∃ b, b = vo.dirB x4 := ⟨_, rfl⟩
  rw [← hb0, ← hb1, ← hb2, ← hb3, ← hb4] at hq
  have A0 := hid (fun w1 => show Calls Try.prog 111 #[.int .i64 x0, .int .i64 (ps.length : Int)] w1 fun e w2 => e = .returned (.bool b0) ∧ w1 = w2 from by rw [hb0]; exact canC _ _ w1)
  have A1 := hid (fun w1 => show Calls Try.prog 112 #[.int .i64 x1] w1 fun e w2 => e = .returned (.bool b1) ∧ w1 = w2 from by rw [hb1]; exact vo.implCar _ w1)
  have A2 := hid (fun w1 => show Calls Try.prog 66 #[.int .i64 x2, .int .i64 1, .int .i64 2] w1 fun e w2 => e = .returned (.bool b2) ∧ w1 = w2 from by rw [hb2]; exact nd.within64 _ _ _ w1)
  have A3 := hid (fun w1 => show Calls Try.prog 66 #[.int .i64 x3, .int .i64 0, .int .i64 (W0 - 1)] w1 fun e w2 => e = .returned (.bool b3) ∧ w1 = w2 from by rw [hb3]; exact nd.within64 _ _ _ w1)
  have A4 := hid (fun w1 => show Calls Try.prog 113 #[.int .i64 x4] w1 fun e w2 => e = .returned (.bool b4) ∧ w1 = w2 from by rw [hb4]; exact vo.implDir _ w1)
  clear hb0 hb1 hb2 hb3 hb4
  generalize ps.length = n at *
  cases b0 with
  | false =>
    have HQ : Hid (q = false) := hid (by rw [hq]; simp)
    clear hq
    go_enter Try.func99, Try.ntmps99
    go_wp2_with (go_at_call 111; refine (A0.out _).mono ?_; rintro e w2 ⟨rfl, rfl⟩)
    go_ret
    exact ⟨by rw [HQ.out]; rfl, hal⟩
  | true =>
    cases b1 with
    | false =>
      have HQ : Hid (q = false) := hid (by rw [hq]; simp)
      clear hq
      go_enter Try.func99, Try.ntmps99
      go_wp2_with (first | (go_at_call 111; refine (A0.out _).mono ?_; rintro e w2 ⟨rfl, rfl⟩) | (go_at_call 112; refine (A1.out _).mono ?_; rintro e w2 ⟨rfl, rfl⟩))
      go_ret
      exact ⟨by rw [HQ.out]; rfl, hal⟩
    | true =>
      cases b2 with
      | false =>
        have HQ : Hid (q = false) := hid (by rw [hq]; simp)
        clear hq
        go_enter Try.func99, Try.ntmps99
        go_wp2_with (first | (go_at_call 111; refine (A0.out _).mono ?_; rintro e w2 ⟨rfl, rfl⟩) | (go_at_call 112; refine (A1.out _).mono ?_; rintro e w2 ⟨rfl, rfl⟩) | (go_at_call_of 66 (Value.int .i64 x2); refine (A2.out _).mono ?_; rintro e w2 ⟨rfl, rfl⟩))
        go_ret
        exact ⟨by rw [HQ.out]; rfl, hal⟩
      | true =>
        cases b3 with
        | false =>
          have HQ : Hid (q = false) := hid (by rw [hq]; simp)
          clear hq
          go_enter Try.func99, Try.ntmps99
          go_wp2_with (first | (go_at_call 111; refine (A0.out _).mono ?_; rintro e w2 ⟨rfl, rfl⟩) | (go_at_call 112; refine (A1.out _).mono ?_; rintro e w2 ⟨rfl, rfl⟩) | (go_at_call_of 66 (Value.int .i64 x3); refine (A3.out _).mono ?_; rintro e w2 ⟨rfl, rfl⟩) | (go_at_call_of 66 (Value.int .i64 x2); refine (A2.out _).mono ?_; rintro e w2 ⟨rfl, rfl⟩))
          go_ret
          exact ⟨by rw [HQ.out]; rfl, hal⟩
        | true =>
          have HQ : Hid (q = b4) := hid (by rw [hq]; simp)
          clear hq
          go_enter Try.func99, Try.ntmps99
          go_wp2_with (first | (go_at_call 111; refine (A0.out _).mono ?_; rintro e w2 ⟨rfl, rfl⟩) | (go_at_call 112; refine (A1.out _).mono ?_; rintro e w2 ⟨rfl, rfl⟩) | (go_at_call_of 66 (Value.int .i64 x3); refine (A3.out _).mono ?_; rintro e w2 ⟨rfl, rfl⟩) | (go_at_call_of 66 (Value.int .i64 x2); refine (A2.out _).mono ?_; rintro e w2 ⟨rfl, rfl⟩) | (go_at_call 113; refine (A4.out _).mono ?_; rintro e w2 ⟨rfl, rfl⟩))
          go_ret
          exact ⟨by rw [HQ.out]; rfl, hal⟩

set_option maxRecDepth 100000 in
set_option maxHeartbeats 2000000 in
theorem implInfs (W0 : Int) (xs : List nf.V) (v : Value) (B : Nat) (w : World) (ha : nf.Infs w B v xs) (hB : B ≤ w.heap.size) (hq : nf.Small xs) (hw : 1 ≤ W0 ∧ W0 ≤ 24) :
    Calls Try.prog 88 #[.int .i64 W0, v] w fun e w' => e = .returned (.bool (infsB W0 xs)) ∧ Below w.heap.size w w' := by
  by_cases hlong : (300 : Int) < (xs.length : Int)
  · have HF : Hid (infsB W0 xs = false) := hid (infs_long hlong)
    obtain ⟨ao, cap, rfl⟩ := nf.infs_val ha
    clear ha hq
    generalize xs.length = n at *
    go_enter Try.func88, Try.ntmps88
    go_wp2
    go_ret
    exact ⟨by rw [HF.out]; rfl, Below.refl _ _⟩
  · rcases ha with ⟨rfl, ao, cap, rfl⟩ | ⟨hp, b, off, cap, F, rfl, hb, hc⟩
    · have HF : Hid (infsB W0 [] = true) := hid (infs_good hlong (fun k hk => by simp at hk))
      clear hlong hq
      go_enter Try.func88, Try.ntmps88
      go_wp2
      refine wp_loop_rounds 1 ?_
      rw [rounds_succ]
      go_wp2
      go_ret
      exact ⟨by rw [HF.out]; rfl, Below.refl _ _⟩
    · have HBad := hid (fun k h1 h2 => @infs_bad W0 xs k h1 h2)
      have HGood := hid (@infs_good W0 xs hlong)
      have HS := hid hq.short
      obtain ⟨n, hnn⟩ : ∃ n, n = xs.length := ⟨_, rfl⟩
      rw [← hnn] at hp hc hlong HBad HGood HS ⊢
      have HC := hid hc
      have HW0 := hid hw
      have hn3 : n ≤ 300 := by omega
      have hlb : decide ((300 : Int) < (n : Int)) = false := decide_eq_false hlong
      clear hnn hc hq hlong hw
      go_enter Try.func88, Try.ntmps88
      go_wp2
      go_loopw [12] (fun i wr => ∃ k : Nat, k ≤ n ∧ i = .int .i64 k ∧ (∀ j, j < k → infX W0 j (xs.getD j nf.iz) = true) ∧ Below w.heap.size w wr) (fun i _ => n - (intOf i).toNat)
      case atStart => exact ⟨0, Nat.zero_le _, rfl, fun j hj => by omega, Below.refl _ _⟩
      case round =>
        obtain ⟨k, hk, rfl, hg, hbel⟩ := hrel
        have HG := hid hg
        have HB := hid hbel
        clear hg hbel
        by_cases hlt : k < n
        · have HA := ((HC.out k hlt).1).below HB.out
          have HI := hid (((HC.out k hlt).2).chg (Chg.ofBelow (lo := 0) HB.out) (.inr (Nat.zero_le _)))
          have HBd := hid (HBad.out k hlt)
          have HSk := hid (HS.out k hlt)
          have HSt : Hid (infX W0 k (xs.getD k nf.iz) = true → ∀ j, j < k + 1 → infX W0 j (xs.getD j nf.iz) = true) := hid (fun h j hj => by
            rcases Nat.lt_or_ge j k with h' | h'
            · exact HG.out j h'
            · obtain rfl : j = k := by omega
              exact h)
          generalize xs.getD k nf.iz = x at *
          generalize F k = f at *
          obtain ⟨x0, x1, x2, x3, x4, ps⟩ := x
          obtain ⟨ao, cp, hv⟩ := ints_val HI.out
          obtain ⟨l, hl⟩ : ∃ l, l = ps.length := ⟨_, rfl⟩
          simp only at hv
          rw [← hl] at hv
          subst hv
          have HN := hid (nfAt_new ⟨x0, x1, x2, x3, x4, ps⟩ (.slice ao l cp) 67 wr)
          have hbE := (Below.refl wr.heap.size wr).alloc (Nat.le_refl _) (.cells #[.int .i64 x0, .int .i64 x1, .int .i64 x2, .int .i64 x3, .int .i64 x4, .slice ao l cp] 67)
          have HBE := hid (HB.out.trans (hbE.mono HB.out.size))
          have HIE : Hid (Ints (wr.alloc (.cells #[.int .i64 x0, .int .i64 x1, .int .i64 x2, .int .i64 x3, .int .i64 x4, .slice ao l cp] 67)) B (.slice ao l cp) ps) := hid (HI.out.chg (Chg.ofBelow (lo := 0) hbE) (.inr (Nat.zero_le _)))
          have HIn : Hid (∀ W, Calls Try.prog 99 #[.int .i64 W0, .agg #[.int .i64 x0, .int .i64 x1, .int .i64 x2, .int .i64 x3, .int .i64 x4, .slice ao l cp]] W fun e w' => e = .returned (.bool (infB W0 ⟨x0, x1, x2, x3, x4, ps⟩)) ∧ Below W.heap.size W w') := hid (fun W => by rw [hl]; exact infC W0 x0 x1 x2 x3 x4 ps ao cp W HW0.out HSk.out)
          have HDf : Hid (∀ W, Ints W B (.slice ao l cp) ps → B ≤ W.heap.size → Calls Try.prog 100 #[.int .i64 (k : Int), .slice ao l cp] W fun e w' => e = .returned (.bool (diffB (k : Int) ps)) ∧ Below W.heap.size W w') := hid (fun W h1 h2 => diffC (k : Int) ps _ B W h1 h2 (by have := HSk.out; simp only at this; omega) (by omega) (by omega))
          have HX : Hid (infX W0 k ⟨x0, x1, x2, x3, x4, ps⟩ = (infB W0 ⟨x0, x1, x2, x3, x4, ps⟩ && diffB (k : Int) ps)) := hid rfl
          have HL := hid hl
          clear hl HI hbE
          have c0 := HA.c0
          have c1 := HA.c1
          have c2 := HA.c2
          have c3 := HA.c3
          have c4 := HA.c4
          have c5 := HA.c5
          simp only at c0 c1 c2 c3 c4 c5
          have hszE : wr.heap.size < (wr.alloc (.cells #[.int .i64 x0, .int .i64 x1, .int .i64 x2, .int .i64 x3, .int .i64 x4, .slice ao l cp] 67)).heap.size := by simp
          clear HA
          go_wp2_with fail
          clear c0 c1 c2 c3 c4 c5
          generalize wr.alloc (.cells #[.int .i64 x0, .int .i64 x1, .int .i64 x2, .int .i64 x3, .int .i64 x4, .slice ao l cp] 67) = W1 at *
          refine (HIn.out _).mono ?_
          rintro e w4 ⟨rfl, b4⟩
          have HN4 := hid (HN.out.below b4)
          have HB4 := hid (HBE.out.trans (b4.mono HBE.out.size))
          have HI4 := hid (HIE.out.chg (Chg.ofBelow (lo := 0) b4) (.inr (Nat.zero_le _)))
          clear b4 HN HBE HIE HIn
          obtain ⟨t, ht⟩ : ∃ t, t = infB W0 ⟨x0, x1, x2, x3, x4, ps⟩ := ⟨_, rfl⟩
          rw [← ht] at HX ⊢
          clear ht
          cases t with
          | false =>
            have HF := hid (HBd.out (by rw [HX.out]; rfl))
            go_wp2
            go_ret
            exact ⟨by rw [HF.out]; rfl, HB4.out⟩
          | true =>
            have e5 := HN4.out.c5
            simp only [Nat.zero_add] at e5
            go_wp2_with fail
            clear e5
            refine (HDf.out _ HI4.out (by have := HB4.out.size; omega)).mono ?_
            rintro e w5 ⟨rfl, b5⟩
            have HB5 := hid (HB4.out.trans (b5.mono HB4.out.size))
            clear b5 HN4 HI4 HDf
            obtain ⟨u, hu⟩ : ∃ u, u = diffB (k : Int) ps := ⟨_, rfl⟩
            rw [← hu] at HX ⊢
            clear hu
            cases u with
            | false =>
              have HF := hid (HBd.out (by rw [HX.out]; rfl))
              go_wp2
              go_ret
              exact ⟨by rw [HF.out]; rfl, HB5.out⟩
            | true =>
              have HSt2 := hid (HSt.out (by rw [HX.out]; rfl))
              go_wp2
              go_roundw
              case rel => exact ⟨k + 1, by omega, by go_num, HSt2.out, HB5.out⟩
              case measure => simp [intOf]; omega
        · obtain rfl : k = n := by omega
          have HF := hid (HGood.out HG.out)
          go_wp2
          go_ret
          exact ⟨by rw [HF.out]; rfl, HB.out⟩
end Go.Proofs.Ytlhpipcmebmpdab.mc
