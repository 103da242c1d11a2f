/-
  The program's StrandsOf and ValidEvents.
-/
import Derived.Test.YtiacfejileeieaaEvj
import Derived.Test.YtiacfejileeieaaEvn
import Derived.Test.YtiacfejileeieaaEv4
namespace Go.Proofs.Ytiacfejileeieaa.ev
open Go.RowKit Go.Sort Go.Proofs.Ytiacfejileeieaa.sl Go.Proofs.Ytiacfejileeieaa.nd Go.Proofs.Ytiacfejileeieaa.vo
set_option linter.unusedVariables false
set_option linter.unusedSimpArgs false

set_option maxRecDepth 100000 in
theorem fits (a s : Int) (w : World) : Calls Try.prog 128 #[.agg #[.int .i64 a, .int .i64 s]] w fun e w' => e = .returned (.bool (decide (a ≤ 2000) && decide (s ≤ 12))) ∧ Below w.heap.size w w' := by
  obtain ⟨q, hq⟩ : ∃ q, q = (decide (a ≤ 2000) && decide (s ≤ 12)) := ⟨_, rfl⟩
  rw [← hq]
  have hb := (Below.refl w.heap.size w).alloc (Nat.le_refl _) (.cells #[.int .i64 a, .int .i64 s] 120)
  by_cases h : a ≤ 2000
  · have HQ : Hid (q = decide (s ≤ 12)) := hid (by rw [hq]; simp [h])
    clear hq
    go_enter Try.func128, Try.ntmps128
    go_wp2
    go_ret
    exact ⟨by rw [HQ.out]; first | done | rfl, hb⟩
  · have HQ : Hid (q = false) := hid (by rw [hq]; simp [h])
    have hd : decide (a ≤ 2000) = false := decide_eq_false h
    clear hq h
    go_enter Try.func128, Try.ntmps128
    go_wp2
    go_ret
    exact ⟨by rw [HQ.out]; first | done | rfl, hb⟩

theorem count_of {s : Int} {x : V} (h : evB s x = true) : (x.a0 = 2 → 0 ≤ x.a2 ∧ x.a2 ≤ 4) ∧ (x.a0 = 4 → 1 ≤ x.a2 ∧ x.a2 ≤ 4) := by
  unfold evB at h
  refine ⟨fun e => ?_, fun e => ?_⟩ <;> (rw [e] at h; simp at h; omega)

set_option maxRecDepth 100000 in
set_option maxHeartbeats 1000000 in
theorem after (a s : Int) (x : V) (w : World) (hx : evB s x = true) (ha : 0 ≤ a ∧ a ≤ 1048576) (hs : 0 ≤ s ∧ s ≤ 12) :
    Calls Try.prog 127 #[.agg #[.int .i64 a, .int .i64 s], x.val] w fun e w' => e = .returned (.agg #[.int .i64 (a + 1), .int .i64 (nxt s x)]) ∧ Below w.heap.size w w' := by
  have hc := count_of hx
  clear hx
  obtain ⟨x0, x1, x2, x3, x4, x5⟩ := x
  obtain ⟨z, hz⟩ : ∃ z, z = nxt s ⟨x0, x1, x2, x3, x4, x5⟩ := ⟨_, rfl⟩
  rw [← hz]
  simp only [nxt] at hz hc
  simp only [V.val]
  by_cases h2 : x0 = 2
  · subst h2
    have hcc := hc.1 rfl
    have HZ : Hid (z = s + (1 - x2)) := hid (by rw [hz]; simp; omega)
    clear hz hc
    go_enter Try.func127, Try.ntmps127
    go_wp2
    refine bodyPost_ret (v := .agg #[.int .i64 (a + 1), .int .i64 (s + (1 - x2))]) (by simp [results, Try.results127, go_sem]) rfl ⟨by rw [HZ.out], ?_⟩
    repeat (first | exact Below.refl _ _ | refine Below.setCell ?_ (by simp) _ | refine Below.alloc ?_ (by simp; try omega) _)
  have e2 : (x0 == 2) = false := by simpa using h2
  by_cases h3 : x0 = 3
  · subst h3
    have HZ : Hid (z = s + 1) := hid (by rw [hz]; simp)
    clear hz hc h2
    go_enter Try.func127, Try.ntmps127
    go_wp2
    refine bodyPost_ret (v := .agg #[.int .i64 (a + 1), .int .i64 (s + 1)]) (by simp [results, Try.results127, go_sem]) rfl ⟨by rw [HZ.out], ?_⟩
    repeat (first | exact Below.refl _ _ | refine Below.setCell ?_ (by simp) _ | refine Below.alloc ?_ (by simp; try omega) _)
  have e3 : (x0 == 3) = false := by simpa using h3
  by_cases h5 : x0 = 5
  · subst h5
    have HZ : Hid (z = s + 1) := hid (by rw [hz]; simp)
    clear hz hc h2 h3
    go_enter Try.func127, Try.ntmps127
    go_wp2
    refine bodyPost_ret (v := .agg #[.int .i64 (a + 1), .int .i64 (s + 1)]) (by simp [results, Try.results127, go_sem]) rfl ⟨by rw [HZ.out], ?_⟩
    repeat (first | exact Below.refl _ _ | refine Below.setCell ?_ (by simp) _ | refine Below.alloc ?_ (by simp; try omega) _)
  have e5 : (x0 == 5) = false := by simpa using h5
  by_cases h4 : x0 = 4
  · subst h4
    have hcc := hc.2 rfl
    have HZ : Hid (z = s - x2) := hid (by rw [hz]; simp)
    clear hz hc h2 h3 h5
    go_enter Try.func127, Try.ntmps127
    go_wp2
    refine bodyPost_ret (v := .agg #[.int .i64 (a + 1), .int .i64 (s - x2)]) (by simp [results, Try.results127, go_sem]) rfl ⟨by rw [HZ.out], ?_⟩
    repeat (first | exact Below.refl _ _ | refine Below.setCell ?_ (by simp) _ | refine Below.alloc ?_ (by simp; try omega) _)
  have e4 : (x0 == 4) = false := by simpa using h4
  have HZ : Hid (z = s) := hid (by rw [hz, if_neg h2, if_neg h3, if_neg h4, if_neg h5])
  clear hz hc h2 h3 h4 h5
  go_enter Try.func127, Try.ntmps127
  go_wp2
  refine bodyPost_ret (v := .agg #[.int .i64 (a + 1), .int .i64 s]) (by simp [results, Try.results127, go_sem]) rfl ⟨by rw [HZ.out], ?_⟩
  repeat (first | exact Below.refl _ _ | refine Below.setCell ?_ (by simp) _ | refine Below.alloc ?_ (by simp; try omega) _)

/-- The count in its box. -/
structure Sz (w : World) (p : Nat) (a s : Int) : Prop where
  lt : p < w.heap.size
  c0 : w.cell? ⟨p, 0, none⟩ = some (.int .i64 a)
  c1 : w.cell? ⟨p, 1, none⟩ = some (.int .i64 s)
  f0 : w.frozen? ⟨p, 0, none⟩ = false
  f1 : w.frozen? ⟨p, 1, none⟩ = false
theorem Sz.below {w w' : World} {p : Nat} {a s : Int} (h : Sz w p a s) (b : Below w.heap.size w w') : Sz w' p a s :=
  ⟨Nat.lt_of_lt_of_le h.lt b.size, (b.cell (p := ⟨p, 0, none⟩) h.lt).trans h.c0, (b.cell (p := ⟨p, 1, none⟩) h.lt).trans h.c1, (b.frozen (p := ⟨p, 0, none⟩) h.lt).trans h.f0, (b.frozen (p := ⟨p, 1, none⟩) h.lt).trans h.f1⟩
theorem Sz.set {w : World} {p : Nat} {a s : Int} (h : Sz w p a s) (a' s' : Int) : Sz ((w.setCell ⟨p, 0, none⟩ (.int .i64 a')).setCell ⟨p, 1, none⟩ (.int .i64 s')) p a' s' :=
  ⟨by simpa using h.lt, by rw [ss.other_at (by omega)]; exact ss.same_at h.c0, ss.same_at (by rw [ss.other_at (by omega)]; exact h.c1), by simp only [World.frozen?_setCell]; exact h.f0, by simp only [World.frozen?_setCell]; exact h.f1⟩
theorem Sz.other {w : World} {p q : Nat} {a s : Int} (h : Sz w p a s) (hne : ¬ p = q) (u v : Value) : Sz ((w.setCell ⟨q, 0, none⟩ u).setCell ⟨q, 1, none⟩ v) p a s := by
  have e : ∀ (W : World) (i j : Nat) (x : Value), (W.setCell ⟨q, i, none⟩ x).cell? ⟨p, j, none⟩ = W.cell? ⟨p, j, none⟩ := fun W i j x => World.cell?_setCell_other _ _ _ _ (fun h => hne (by injection h with h1 _ _; exact h1.symm))
  exact ⟨by simpa using h.lt, by rw [e, e]; exact h.c0, by rw [e, e]; exact h.c1, by simp only [World.frozen?_setCell]; exact h.f0, by simp only [World.frozen?_setCell]; exact h.f1⟩
theorem sz_new (a s : Int) (w : World) : Sz (w.alloc (.cells #[.int .i64 a, .int .i64 s] 120)) w.heap.size a s :=
  ⟨by simp, World.cell?_alloc_at _ _ _ _ rfl, World.cell?_alloc_at _ _ _ _ rfl, World.frozen?_alloc_at _ _ _ _ rfl, World.frozen?_alloc_at _ _ _ _ rfl⟩
theorem okE_long {xs : List V} (h : 2000 < xs.length) : okE xs = false := by simp [okE]; intro _; omega

/-- The strands behind k events, of s0 strands ahead of them. -/
def stF (s0 : Int) (xs : List V) : Nat → Option Int
  | 0 => some s0
  | k + 1 => (stF s0 xs k).bind fun s => if goodB s (xs.getD k oz) then some (nxt s (xs.getD k oz)) else none
theorem stF_st (xs : List V) : ∀ k, stF 0 xs k = st xs k
  | 0 => rfl
  | k + 1 => by simp only [stF, st, stF_st xs k]
theorem stF_range {s0 : Int} {xs : List V} (h0 : 0 ≤ s0 ∧ s0 ≤ 12) : ∀ {k : Nat} {s : Int}, stF s0 xs k = some s → 0 ≤ s ∧ s ≤ 12
  | 0, s, h => by simp only [stF, Option.some.injEq] at h; subst h; exact h0
  | k + 1, s, h => by
    simp only [stF, Option.bind_eq_some_iff] at h
    obtain ⟨s', h1, h2⟩ := h
    have ih := stF_range h0 h1
    split at h2
    · rename_i hg
      simp only [goodB, Bool.and_eq_true, decide_eq_true_eq] at hg
      simp only [Option.some.injEq] at h2
      have := nxt_bound hg.1 ih.1
      omega
    · cases h2
theorem stF_next {s0 : Int} {xs : List V} {k : Nat} {s : Int} (h : stF s0 xs k = some s) : stF s0 xs (k + 1) = if goodB s (xs.getD k oz) then some (nxt s (xs.getD k oz)) else none := by simp only [stF, h, Option.bind_some]
theorem stF_none {s0 : Int} {xs : List V} {k : Nat} (h : stF s0 xs k = none) : ∀ d, stF s0 xs (k + d) = none
  | 0 => h
  | d + 1 => by show (stF s0 xs (k + d)).bind _ = none; rw [stF_none h d]; rfl
theorem stF_bad {s0 : Int} {xs : List V} {k : Nat} {s : Int} (h : stF s0 xs k = some s) (hb : goodB s (xs.getD k oz) = false) (hk : k < xs.length) : stF s0 xs xs.length = none := by
  have h1 : stF s0 xs (k + 1) = none := by rw [stF_next h, hb]; rfl
  have := stF_none h1 (xs.length - (k + 1))
  rwa [show k + 1 + (xs.length - (k + 1)) = xs.length by omega] at this
def thB (a s0 : Int) (xs : List V) : Bool := (stF s0 xs xs.length).isSome && decide (a + (xs.length : Int) ≤ 2000)
def thS (a s0 : Int) (xs : List V) : Int := if thB a s0 xs then (stF s0 xs xs.length).getD 0 else 0
def thA (a s0 : Int) (xs : List V) : Int := if thB a s0 xs then a + (xs.length : Int) else 0
theorem th_bad {a s0 : Int} {xs : List V} {k : Nat} {s : Int} (h : stF s0 xs k = some s) (hb : goodB s (xs.getD k oz) = false) (hk : k < xs.length) : thB a s0 xs = false := by simp [thB, stF_bad h hb hk]
theorem th_long {a s0 : Int} {xs : List V} (h : 2000 < a + (xs.length : Int)) : thB a s0 xs = false := by simp [thB]; intro _; omega
theorem th_end {a s0 : Int} {xs : List V} {s : Int} (h : stF s0 xs xs.length = some s) (h2 : a + (xs.length : Int) ≤ 2000) : thB a s0 xs = true ∧ thS a s0 xs = s ∧ thA a s0 xs = a + (xs.length : Int) := by
  have : thB a s0 xs = true := by simp [thB, h, h2]
  simp [thS, thA, this, h]
theorem th_ok (xs : List V) : thB 0 0 xs = okE xs ∧ thS 0 0 xs = strE xs := by
  have e1 : thB 0 0 xs = okE xs := by
    simp only [thB, okE, stF_st]
    congr 1
    simp
    omega
  refine ⟨e1, ?_⟩
  simp only [thS, strE, e1, stF_st]

set_option maxRecDepth 100000 in
set_option maxHeartbeats 2000000 in
theorem implThr (a s0 : Int) (xs : List V) (v : Value) (B : Nat) (w : World) (ha : Ops w B v xs) (hB : B ≤ w.heap.size) (hq : Small xs) (ha0 : 0 ≤ a ∧ a ≤ 2000) (hs0 : 0 ≤ s0 ∧ s0 ≤ 12) :
    Calls Try.prog 111 #[.agg #[.int .i64 a, .int .i64 s0], v] w fun e w' => e = .returned (.tuple #[.agg #[.int .i64 (thA a s0 xs), .int .i64 (thS a s0 xs)], .bool (thB a s0 xs)]) ∧ Below w.heap.size w w' := by
  have hn := hq.len
  clear hq
  have HS0 := hid ((sz_new a s0 w).below ((Below.refl _ _).alloc (Nat.le_refl _) (.cells #[.int .i64 0, .int .i64 0] 120)))
  have HR0 : Hid (Sz ((w.alloc (.cells #[.int .i64 a, .int .i64 s0] 120)).alloc (.cells #[.int .i64 0, .int .i64 0] 120)) (w.heap.size + 1) 0 0) := hid (by have := sz_new 0 0 (w.alloc (.cells #[.int .i64 a, .int .i64 s0] 120)); simpa using this)
  have HB0 := hid (((Below.refl w.heap.size w).alloc (Nat.le_refl _) (.cells #[.int .i64 a, .int .i64 s0] 120)).alloc (by simp) (.cells #[.int .i64 0, .int .i64 0] 120))
  rcases ha with ⟨rfl, ao, cap, rfl, hao⟩ | ⟨hp, b, off, cap, rfl, hb, hc⟩
  · obtain ⟨q1, q2, q3⟩ := th_end (a := a) (s0 := s0) (xs := []) (s := s0) rfl (by simp; omega)
    rw [q1, q2, q3]
    clear q1 q2 q3
    have s0' := HS0.out.c0
    have s1' := HS0.out.c1
    have r0 := HR0.out.c0
    have r1 := HR0.out.c1
    have g0 := HR0.out.f0
    have g1 := HR0.out.f1
    go_enter Try.func111, Try.ntmps111
    go_wp2
    refine wp_loop_rounds 1 ?_
    rw [rounds_succ]
    go_wp2
    refine bodyPost_ret (v := .tuple #[.agg #[.int .i64 a, .int .i64 s0], .bool true]) (by simp [results, Try.results111, go_sem, r0, r1]) rfl ⟨by simp, ?_⟩
    exact ((Below.refl w.heap.size w).alloc (Nat.le_refl _) _).alloc (by simp) _
  · have HC := hid hc
    clear hc
    obtain ⟨P, hP⟩ : ∃ P : Ending → World → Prop, P = fun e w' => e = .returned (.tuple #[.agg #[.int .i64 (thA a s0 xs), .int .i64 (thS a s0 xs)], .bool (thB a s0 xs)]) ∧ Below w.heap.size w w' := ⟨_, rfl⟩
    have hG := hid (fun (s : Int) (w' : World) (h : thB a s0 xs = true) (h2 : thS a s0 xs = s ∧ thA a s0 xs = a + (xs.length : Int)) (hb : Below w.heap.size w w') => (show P (.returned (.tuple #[.agg #[.int .i64 (a + (xs.length : Int)), .int .i64 s], .bool true])) w' from by rw [hP]; exact ⟨by rw [h, h2.1, h2.2], hb⟩))
    have hF := hid (fun (w' : World) (h : thB a s0 xs = false) (hb : Below w.heap.size w w') => (show P (.returned (.tuple #[.agg #[.int .i64 0, .int .i64 0], .bool false])) w' from by rw [hP]; exact ⟨by simp [thA, thS, h], hb⟩))
    rw [← hP]
    clear hP
    have HBad := hid (fun k s h1 h2 h3 => th_bad (a := a) (s0 := s0) (xs := xs) (k := k) (s := s) h1 h2 h3)
    have HEnd := hid (fun s h h2 => th_end (a := a) (s0 := s0) (xs := xs) (s := s) h h2)
    have HLong := hid (th_long (a := a) (s0 := s0) (xs := xs))
    obtain ⟨n, hnn⟩ : ∃ n, n = xs.length := ⟨_, rfl⟩
    rw [← hnn] at hp hn HC HBad HEnd HLong hG
    rw [← hnn]
    clear hnn
    generalize thB a s0 xs = q at *
    generalize thS a s0 xs = sx at *
    generalize thA a s0 xs = ax at *
    go_enter Try.func111, Try.ntmps111
    go_wp2
    go_loopw [10] (fun i wr => ∃ (k : Nat) (s' : Int), k ≤ n ∧ a + (k : Int) ≤ 2000 ∧ i = .int .i64 k ∧ stF s0 xs k = some s' ∧ Sz wr w.heap.size (a + (k : Int)) s' ∧ Sz wr (w.heap.size + 1) 0 0 ∧ Below w.heap.size w wr) (fun i _ => n - (intOf i).toNat)
    case atStart => exact ⟨0, s0, Nat.zero_le _, by simp; omega, rfl, rfl, by simpa using HS0.out, HR0.out, HB0.out⟩
    case round =>
      obtain ⟨k, s, hk, hk2, rfl, hst, hsz, hrc, hbel⟩ := hrel
      clear HS0 HB0 HR0
      have HB := hid hbel
      have HST := hid hst
      have HSZ := hid hsz
      have HRC := hid hrc
      have hsr := stF_range hs0 hst
      clear hbel hst hsz hrc
      by_cases hlt : k < n
      · have HA := (HC.out k hlt).below HB.out
        have HBd := hid (HBad.out k s HST.out)
        have HNx : Hid (stF s0 xs (k + 1) = if goodB s (xs.getD k oz) then some (nxt s (xs.getD k oz)) else none) := hid (stF_next HST.out)
        generalize xs.getD k oz = x at *
        have HV := hid (fun W => implV x s W hsr.1 (by omega))
        have HAf := hid (fun W h => after (a + (k : Int)) s x W h (by omega) hsr)
        obtain ⟨x0, x1, x2, x3, x4, x5⟩ := x
        have HN6 := hid (at_new ⟨x0, x1, x2, x3, x4, x5⟩ 77 wr)
        simp only [V.val] at HV HAf
        simp only at HN6
        have hbE := (Below.refl wr.heap.size wr).alloc (Nat.le_refl _) (.cells #[.int .i64 x0, .int .i64 x1, .int .i64 x2, .int .i64 x3, .int .i64 x4, .int .i64 x5] 77)
        have HSE := hid (HSZ.out.below hbE)
        have HRE := hid (HRC.out.below hbE)
        have HBE := hid (HB.out.trans (hbE.mono HB.out.size))
        have s0' := HSE.out.c0
        have s1' := HSE.out.c1
        have c0 := HA.c0
        have c1 := HA.c1
        have c2 := HA.c2
        have c3 := HA.c3
        have c4 := HA.c4
        have c5 := HA.c5
        simp only at c0 c1 c2 c3 c4 c5
        clear HA hbE
        go_wp2_with fail
        clear c0 c1 c2 c3 c4 c5 s0' s1'
        generalize wr.alloc (.cells #[.int .i64 x0, .int .i64 x1, .int .i64 x2, .int .i64 x3, .int .i64 x4, .int .i64 x5] 77) = W0 at *
        refine (HV.out _).mono ?_
        rintro e w1 ⟨rfl, b1⟩
        have HS1 := hid (HSE.out.below b1)
        have HR1 := hid (HRE.out.below b1)
        have HB1 := hid (HBE.out.trans (b1.mono HBE.out.size))
        have HN1 := hid (HN6.out.below b1)
        clear b1 HV HSE HBE HN6 HRE
        obtain ⟨y, hy⟩ : ∃ y, y = evB s ⟨x0, x1, x2, x3, x4, x5⟩ := ⟨_, rfl⟩
        rw [← hy]
        cases y with
        | false =>
          have HQ : Hid (q = false) := hid (HBd.out (by simp [goodB, ← hy]) hlt)
          clear hy
          have r0 := HR1.out.c0
          have r1 := HR1.out.c1
          have g0 := HR1.out.f0
          have g1 := HR1.out.f1
          go_wp2
          refine bodyPost_ret (v := .tuple #[.agg #[.int .i64 0, .int .i64 0], .bool false]) (by simp [results, Try.results111, go_sem, r0, r1]) rfl (hF.out _ HQ.out ?_)
          exact (HB1.out.setCell (p := ⟨w.heap.size + 1, 0, none⟩) (Nat.le_succ _) _).setCell (p := ⟨w.heap.size + 1, 1, none⟩) (Nat.le_succ _) _
        | true =>
          have HAf2 := hid (fun W => HAf.out W hy.symm)
          have hzb := nxt_bound hy.symm hsr.1
          have HG : Hid (goodB s ⟨x0, x1, x2, x3, x4, x5⟩ = decide (nxt s ⟨x0, x1, x2, x3, x4, x5⟩ ≤ 12)) := hid (by simp [goodB, ← hy])
          rw [HG.out] at HNx HBd
          clear HG hy HAf
          generalize nxt s ⟨x0, x1, x2, x3, x4, x5⟩ = z at *
          have s0' := HS1.out.c0
          have s1' := HS1.out.c1
          have c0 := HN1.out.c0
          have c1 := HN1.out.c1
          have c2 := HN1.out.c2
          have c3 := HN1.out.c3
          have c4 := HN1.out.c4
          have c5 := HN1.out.c5
          simp only [Nat.zero_add] at c0 c1 c2 c3 c4 c5
          go_wp2_with fail
          refine (HAf2.out _).mono ?_
          rintro e w2 ⟨rfl, b2⟩
          clear c0 c1 c2 c3 c4 c5 s0' s1' HN1
          have HS2 := hid (HS1.out.below b2)
          have HR2 := hid (HR1.out.below b2)
          have HB2 := hid (HB1.out.trans (b2.mono HB1.out.size))
          clear b2 HS1 HB1 HAf2 HR1
          have HS3 := hid (HS2.out.set (a + (k : Int) + 1) z)
          have HR3 : Hid (Sz ((w2.setCell ⟨w.heap.size, 0, none⟩ (.int .i64 (a + (k : Int) + 1))).setCell ⟨w.heap.size, 1, none⟩ (.int .i64 z)) (w.heap.size + 1) 0 0) := hid (HR2.out.other (by omega) _ _)
          have HB3 := hid ((HB2.out.setCell (p := ⟨w.heap.size, 0, none⟩) (Nat.le_refl _) (.int .i64 (a + (k : Int) + 1))).setCell (p := ⟨w.heap.size, 1, none⟩) (Nat.le_refl _) (.int .i64 z))
          have f0 := HS2.out.f0
          have f1 := HS2.out.f1
          have s0' := HS2.out.c0
          have s1' := HS2.out.c1
          have t0 := HS3.out.c0
          have t1 := HS3.out.c1
          have HFi := hid (fun W => fits (a + (k : Int) + 1) z W)
          go_wp2_with fail
          clear f0 f1 s0' s1' t0 t1
          generalize (w2.setCell ⟨w.heap.size, 0, none⟩ (.int .i64 (a + (k : Int) + 1))).setCell ⟨w.heap.size, 1, none⟩ (.int .i64 z) = W3 at *
          refine (HFi.out _).mono ?_
          rintro e w4 ⟨rfl, b4⟩
          have HS4 := hid (HS3.out.below b4)
          have HR4 := hid (HR3.out.below b4)
          have HB4 := hid (HB3.out.trans (b4.mono HB3.out.size))
          have r0 := HR4.out.c0
          have r1 := HR4.out.c1
          have g0 := HR4.out.f0
          have g1 := HR4.out.f1
          clear b4 HS3 HB3 HFi HS2 HB2 HR3 HR2
          by_cases h12 : z ≤ 12
          · have HNx2 : Hid (stF s0 xs (k + 1) = some z) := hid (by rw [HNx.out]; simp [h12])
            have hd1 : decide (z ≤ 12) = true := decide_eq_true h12
            clear HNx
            by_cases h2k : a + (k : Int) + 1 ≤ 2000
            · have hd2 : decide (a + (k : Int) + 1 ≤ 2000) = true := decide_eq_true (by omega)
              rw [hd1, hd2]
              clear hd1 hd2
              go_wp2
              go_roundw
              case rel => exact ⟨k + 1, z, by omega, by omega, by go_num, HNx2.out, by have := HS4.out; rw [show a + ((k + 1 : Nat) : Int) = a + (k : Int) + 1 by omega]; exact this, HR4.out, HB4.out⟩
              case measure => simp [intOf]; omega
            · have hd2 : decide (a + (k : Int) + 1 ≤ 2000) = false := decide_eq_false (by omega)
              have HQ : Hid (q = false) := hid (HLong.out (by omega))
              rw [hd1, hd2]
              clear hd1 hd2
              go_wp2
              refine bodyPost_ret (v := .tuple #[.agg #[.int .i64 0, .int .i64 0], .bool false]) (by simp [results, Try.results111, go_sem, r0, r1]) rfl (hF.out _ HQ.out ?_)
              exact (HB4.out.setCell (p := ⟨w.heap.size + 1, 0, none⟩) (Nat.le_succ _) _).setCell (p := ⟨w.heap.size + 1, 1, none⟩) (Nat.le_succ _) _
          · have hd1 : decide (z ≤ 12) = false := decide_eq_false h12
            have HQ : Hid (q = false) := hid (HBd.out hd1 hlt)
            rw [hd1, Bool.and_false]
            clear HNx hd1
            go_wp2
            refine bodyPost_ret (v := .tuple #[.agg #[.int .i64 0, .int .i64 0], .bool false]) (by simp [results, Try.results111, go_sem, r0, r1]) rfl (hF.out _ HQ.out ?_)
            exact (HB4.out.setCell (p := ⟨w.heap.size + 1, 0, none⟩) (Nat.le_succ _) _).setCell (p := ⟨w.heap.size + 1, 1, none⟩) (Nat.le_succ _) _
      · obtain rfl : k = n := by omega
        have HQ2 := hid (HEnd.out s HST.out hk2)
        have s0' := HSZ.out.c0
        have s1' := HSZ.out.c1
        have r0 := HRC.out.c0
        have r1 := HRC.out.c1
        have g0 := HRC.out.f0
        have g1 := HRC.out.f1
        go_wp2
        refine bodyPost_ret (v := .tuple #[.agg #[.int .i64 (a + (k : Int)), .int .i64 s], .bool true]) (by simp [results, Try.results111, go_sem, r0, r1]) rfl (hG.out s _ HQ2.out.1 HQ2.out.2 ?_)
        exact (HB.out.setCell (p := ⟨w.heap.size + 1, 0, none⟩) (Nat.le_succ _) _).setCell (p := ⟨w.heap.size + 1, 1, none⟩) (Nat.le_succ _) _

set_option maxRecDepth 100000 in
theorem implStr (xs : List V) (v : Value) (B : Nat) (w : World) (ha : Ops w B v xs) (hB : B ≤ w.heap.size) (hq : Small xs) :
    Calls Try.prog 91 #[v] w fun e w' => e = .returned (.tuple #[.int .i64 (strE xs), .int .i64 (codE xs)]) ∧ Below w.heap.size w w' := by
  obtain ⟨e1, e2⟩ := th_ok xs
  have HT := hid (implThr 0 0 xs v B w ha hB hq (by omega) (by omega))
  rw [e1, e2] at HT
  obtain ⟨ao, cap, rfl⟩ := ops_val ha
  have HD : Hid (codE xs = if okE xs then 0 else 1) := hid rfl
  have HD2 : Hid (strE xs = if okE xs then strE xs else 0) := hid (by simp only [strE]; split <;> simp_all)
  clear ha hq e1 e2
  generalize xs.length = n at *
  generalize thA 0 0 xs = ax at *
  generalize strE xs = sx at *
  generalize codE xs = c at *
  generalize okE xs = q at *
  go_enter Try.func91, Try.ntmps91
  go_wp2_with fail
  refine HT.out.mono ?_
  rintro e w1 ⟨rfl, b1⟩
  have HB := hid (b1.alloc (Nat.le_trans (Nat.le_refl _) b1.size) (.cells #[.int .i64 ax, .int .i64 sx] 120))
  clear b1 HT
  cases q with
  | false =>
    have h1 : c = 1 := by rw [HD.out]; rfl
    have h2 : sx = 0 := by rw [HD2.out]; rfl
    subst h1
    subst h2
    go_wp2
    try go_ret2
    exact ⟨rfl, HB.out⟩
  | true =>
    have h1 : c = 0 := by rw [HD.out]; rfl
    subst h1
    go_wp2
    try go_ret2
    exact ⟨rfl, HB.out⟩

theorem implVal (xs : List V) (v : Value) (B : Nat) (w : World) (ha : Ops w B v xs) (hB : B ≤ w.heap.size) (hq : Small xs) :
    Calls Try.prog 65 #[v] w fun e w' => e = .returned (.bool (okE xs)) ∧ Below w.heap.size w w' := by
  have HC := hid (implStr xs v B w ha hB hq)
  obtain ⟨ao, cap, rfl⟩ := ops_val ha
  clear ha hq
  generalize xs.length = n at *
  have HD : Hid (codE xs = if okE xs then 0 else 1) := hid rfl
  generalize strE xs = sx at *
  generalize codE xs = c at *
  generalize okE xs = q at *
  cases q with
  | false =>
    have HD2 : c = 1 := by rw [HD.out]; rfl
    subst HD2
    go_enter Try.func65, Try.ntmps65
    go_wp2_with fail
    refine HC.out.mono ?_
    rintro e w1 ⟨rfl, b1⟩
    have HB := hid b1
    clear b1 HC
    go_wp2
    go_ret
    exact ⟨rfl, HB.out⟩
  | true =>
    have HD2 : c = 0 := by rw [HD.out]; rfl
    subst HD2
    go_enter Try.func65, Try.ntmps65
    go_wp2_with fail
    refine HC.out.mono ?_
    rintro e w1 ⟨rfl, b1⟩
    have HB := hid b1
    clear b1 HC
    go_wp2
    go_ret
    exact ⟨rfl, HB.out⟩
end Go.Proofs.Ytiacfejileeieaa.ev
