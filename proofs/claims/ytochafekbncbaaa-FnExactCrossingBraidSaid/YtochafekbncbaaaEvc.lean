/-
  CrossingBraid: mathematics, the program's side.
-/
import Derived.Test.YtochafekbncbaaaEvb
import Derived.Test.YtochafekbncbaaaEvj
import Derived.Test.YtochafekbncbaaaEvr
import Derived.Test.YtochafekbncbaaaCc
namespace Go.Proofs.Ytochafekbncbaaa.ev
open Go.RowKit Go.Sort Go.Proofs.Ytochafekbncbaaa.sl Go.Proofs.Ytochafekbncbaaa.bw Go.Proofs.Ytochafekbncbaaa.br Go.Proofs.Ytochafekbncbaaa.fn
set_option linter.unusedVariables false
set_option linter.unusedSimpArgs false

def okC (s : Int) (x : V) : Bool := x.a0 == 1 && evB s x
def letV (x : V) : Int := x.a2 * (x.a1 + 1)
def rngS (s : Int) : Bool := decide (0 ≤ s ∧ s ≤ 12)
def crB (s : Int) (xs : List V) : Bool := xs.all (okC s)
def cbC (s : Int) (xs : List V) : Int := if rngS s = false then 2 else if crB s xs = false then 1 else if xs.length ≤ 40 then 0 else 5
def cbS (s : Int) (xs : List V) : Int := if cbC s xs = 0 then s else 0
def cbW (s : Int) (xs : List V) : List Int := if cbC s xs = 0 then xs.map letV else []
theorem cb_rng {s : Int} {xs : List V} (h : rngS s = false) : cbC s xs = 2 ∧ cbS s xs = 0 ∧ cbW s xs = [] := by simp [cbS, cbW, cbC, h]
theorem cb_bad {s : Int} {xs : List V} (h : rngS s = true) (h2 : crB s xs = false) : cbC s xs = 1 ∧ cbS s xs = 0 ∧ cbW s xs = [] := by simp [cbS, cbW, cbC, h, h2]
theorem cb_full {s : Int} {xs : List V} (h : rngS s = true) (h2 : crB s xs = true) (h3 : ¬ xs.length ≤ 40) : cbC s xs = 5 ∧ cbS s xs = 0 ∧ cbW s xs = [] := by simp [cbS, cbW, cbC, h, h2, h3]
theorem cb_ok {s : Int} {xs : List V} (h : rngS s = true) (h2 : crB s xs = true) (h3 : xs.length ≤ 40) : cbC s xs = 0 ∧ cbS s xs = s ∧ cbW s xs = xs.map letV := by simp [cbS, cbW, cbC, h, h2, h3]
theorem cbW_len (s : Int) (xs : List V) : (cbW s xs).length ≤ 20000 := by
  unfold cbW
  split
  · rename_i h
    have : xs.length ≤ 40 := by
      unfold cbC at h
      repeat' (split at h)
      all_goals first | omega | assumption
    simp; omega
  · simp
theorem all_bad (p : V → Bool) (xs : List V) (k : Nat) (hk : k < xs.length) (h : p (xs.getD k oz) = false) : xs.all p = false := by
  rw [List.all_eq_false]
  refine ⟨xs.getD k oz, ?_, by rw [h]; simp⟩
  rw [show xs.getD k oz = xs[k] from by simp [List.getD, List.getElem?_eq_getElem hk]]
  exact List.getElem_mem hk
theorem all_good (p : V → Bool) (xs : List V) (h : ∀ k, k < xs.length → p (xs.getD k oz) = true) : xs.all p = true := by
  rw [List.all_eq_true]
  intro x hx
  obtain ⟨j, hj, rfl⟩ := List.getElem_of_mem hx
  have := h j hj
  rwa [show xs.getD j oz = xs[j] from by simp [List.getD, List.getElem?_eq_getElem hj]] at this
theorem take_let (xs : List V) (k : Nat) (h : k < xs.length) : (xs.take (k + 1)).map letV = (xs.take k).map letV ++ [letV (xs.getD k oz)] := by
  rw [List.take_succ_eq_append_getElem h, List.map_append]
  simp [List.getD, List.getElem?_eq_getElem h]
/-- A crossing's numbers. -/
theorem okC_parts {s : Int} {x : V} (h : okC s x = true) : x.a0 = 1 ∧ (x.a2 = 1 ∨ x.a2 = -1) ∧ 0 ≤ x.a1 ∧ x.a1 ≤ s - 2 := by
  obtain ⟨x0, x1, x2, x3, x4, x5⟩ := x
  simp only [okC, Bool.and_eq_true, beq_iff_eq] at h
  obtain ⟨rfl, h2⟩ := h
  simp only [evB, ↓reduceIte, Bool.and_eq_true, Bool.or_eq_true, beq_iff_eq, decide_eq_true_eq] at h2
  simp only
  refine ⟨trivial, ?_, ?_, ?_⟩
  all_goals omega

theorem letterC (x : V) (h2 : x.a2 = 1 ∨ x.a2 = -1) (h1 : 0 ≤ x.a1 ∧ x.a1 ≤ 100) (w : World) : Calls Try.prog 70 #[x.val] w fun e w' => e = .returned (.int .i64 (letV x)) ∧ Below w.heap.size w w' := by
  obtain ⟨x0, x1, x2, x3, x4, x5⟩ := x
  simp only at h2 h1
  simp only [V.val]
  obtain ⟨h10, h11⟩ := h1
  rcases h2 with rfl | rfl
  · have HQ : Hid (letV ⟨x0, x1, 1, x3, x4, x5⟩ = x1 + 1) := hid (by simp [letV])
    rw [HQ.out]
    have hb := (Below.refl w.heap.size w).alloc (Nat.le_refl _) (.cells #[.int .i64 x0, .int .i64 x1, .int .i64 1, .int .i64 x3, .int .i64 x4, .int .i64 x5] 96)
    go_enter Try.func70, Try.ntmps70
    go_wp2
    go_ret
    exact ⟨by first | rfl | simp, hb⟩
  · have HQ : Hid (letV ⟨x0, x1, -1, x3, x4, x5⟩ = -(x1 + 1)) := hid (by simp [letV])
    rw [HQ.out]
    have hb := (Below.refl w.heap.size w).alloc (Nat.le_refl _) (.cells #[.int .i64 x0, .int .i64 x1, .int .i64 (-1), .int .i64 x3, .int .i64 x4, .int .i64 x5] 96)
    go_enter Try.func70, Try.ntmps70
    go_wp2
    go_ret
    exact ⟨by first | rfl | (congr 2; omega) | simp, hb⟩

set_option maxRecDepth 100000 in
set_option maxHeartbeats 2000000 in
theorem implCB (s : Int) (xs : List V) (v : Value) (B : Nat) (w : World) (ha : Ops w B v xs) (hB : B ≤ w.heap.size) (hq : Small xs) :
    Calls Try.prog 18 #[.int .i64 s, v] w fun e w' => ∃ ao cap, e = .returned (.tuple #[.agg #[.int .i64 (cbS s xs), .slice ao (cbW s xs).length cap], .int .i64 (cbC s xs)]) ∧ Own w' w.heap.size w'.heap.size (.slice ao (cbW s xs).length cap) (cbW s xs) ∧ Below w.heap.size w w' := by
  have hn := hq.len
  clear hq
  obtain ⟨i0, hi, hz0, hz1, hz2⟩ := info_parts info64
  have hb0 := (Below.refl w.heap.size w).alloc (Nat.le_refl _) (.cells #[.int .i64 0, .slice none 0 0] 26)
  cases hr : rngS s with
  | false =>
    obtain ⟨h1, h2, h3⟩ := cb_rng (xs := xs) hr
    rw [h1, h2, h3]
    have hd : decide (0 ≤ s ∧ s ≤ 12) = false := hr
    have HB0 := hid hb0
    obtain ⟨ao, cap, rfl⟩ := ops_val ha
    clear ha h1 h2 h3 hb0 hr hi hz0 hz1 hz2
    generalize xs.length = n at *
    go_enter Try.func18, Try.ntmps18
    go_wp2_with (go_at_call 67; refine (nd.within64 _ _ _ _).mono ?_; rintro e w' ⟨rfl, rfl⟩)
    refine bodyPost_ret (v := .tuple #[.agg #[.int .i64 0, .slice none 0 0], .int .i64 2]) (by simp [results, Try.results18, go_sem]) rfl ⟨none, 0, rfl, Own.nil _ _, HB0.out⟩
  | true =>
    have hd : decide (0 ≤ s ∧ s ≤ 12) = true := hr
    have hs12 : 0 ≤ s ∧ s ≤ 12 := of_decide_eq_true hr
    obtain ⟨hs0, hs1⟩ := hs12
    have HBd := hid (fun k h1 h2 => cb_bad (xs := xs) hr (all_bad (okC s) xs k h1 h2))
    have HGd := hid (fun h => all_good (okC s) xs h)
    have HFl := hid (fun (h2 : crB s xs = true) (h3 : ¬ xs.length ≤ 40) => cb_full hr h2 h3)
    have HOk := hid (fun (h2 : crB s xs = true) (h3 : xs.length ≤ 40) => cb_ok hr h2 h3)
    have HR : Hid (∀ W, Below (w.alloc (.cells #[.int .i64 0, .slice none 0 0] 26)).heap.size (w.alloc (.cells #[.int .i64 0, .slice none 0 0] 26)) W → W.cell? ⟨w.heap.size, 0, none⟩ = some (.int .i64 0) ∧ W.cell? ⟨w.heap.size, 1, none⟩ = some (.slice none 0 0) ∧ W.frozen? ⟨w.heap.size, 0, none⟩ = false ∧ W.frozen? ⟨w.heap.size, 1, none⟩ = false ∧ Below w.heap.size w W ∧ w.heap.size + 1 ≤ W.heap.size) := hid (fun W b => by
      have hs := b.size
      simp at hs
      exact ⟨(b.cell (p := ⟨w.heap.size, 0, none⟩) (by simp)).trans (World.cell?_alloc_at _ _ _ _ rfl), (b.cell (p := ⟨w.heap.size, 1, none⟩) (by simp)).trans (World.cell?_alloc_at _ _ _ _ rfl), (b.frozen (p := ⟨w.heap.size, 0, none⟩) (by simp)).trans (World.frozen?_alloc_at _ _ _ _ rfl), (b.frozen (p := ⟨w.heap.size, 1, none⟩) (by simp)).trans (World.frozen?_alloc_at _ _ _ _ rfl), hb0.trans (b.mono hb0.size), hs⟩)
    have HA := hid (ha.below hb0)
    have hsz0 : (w.alloc (.cells #[.int .i64 0, .slice none 0 0] 26)).heap.size = w.heap.size + 1 := by simp
    have HP : Hid (∀ (W : World) (v2 : Value), Own W (w.heap.size + 1) W.heap.size v2 (xs.map letV) → Below w.heap.size w W → crB s xs = true → ∀ (ao2 : Option Addr) (c2 : Nat), v2 = .slice ao2 xs.length c2 → Calls Try.prog 71 #[.int .i64 s, .slice (some ⟨W.heap.size, 0, none⟩) 1 1] (W.alloc (.cells #[v2] 24)) fun e w' => ∃ ao cap, e = .returned (.tuple #[.agg #[.int .i64 (cbS s xs), .slice ao (cbW s xs).length cap], .int .i64 (cbC s xs)]) ∧ Own w' (W.heap.size + 1) w'.heap.size (.slice ao (cbW s xs).length cap) (cbW s xs) ∧ Below W.heap.size W w') := hid (fun W v2 o2 b2 hcr ao2 c2 hv2 => by
      have hal := (Below.refl W.heap.size W).alloc (Nat.le_refl _) (.cells #[v2] 24)
      have hwd : Wds (W.alloc (.cells #[v2] 24)) W.heap.size W.heap.size [xs.map letV] := fun j hj => by
        obtain rfl : j = 0 := by simpa using hj
        have hl : ([xs.map letV].getD 0 []).length = xs.length := by simp
        rw [hl]
        exact ⟨ao2, c2, by rw [← hv2]; exact World.cell?_alloc_at _ _ _ _ rfl, by rw [← hv2]; exact ints_al o2.ints _, by rw [← hv2]; exact nilok_own o2⟩
      have hj := implJoined s [xs.map letV] W.heap.size 1 W.heap.size (W.alloc (.cells #[v2] 24)) hwd (by simp) (by simp) (by simp) (by simp; omega)
      have hok : joinOk s [xs.map letV] = decide (xs.length ≤ 40) := by simp [joinOk, hs1]
      refine (show Calls _ _ #[.int .i64 s, .slice (some ⟨W.heap.size, 0, none⟩) 1 1] _ _ from hj).mono ?_
      rintro e w' ⟨ao, cap, rfl, o, b⟩
      have e1 : joinS s [xs.map letV] = cbS s xs ∧ joinW s [xs.map letV] = cbW s xs ∧ joinC s [xs.map letV] = cbC s xs := by
        by_cases h40 : xs.length ≤ 40
        · obtain ⟨q1, q2, q3⟩ := cb_ok hr hcr h40
          rw [q1, q2, q3]; simp [joinS, joinW, joinC, hok, h40]
        · obtain ⟨q1, q2, q3⟩ := cb_full hr hcr h40
          rw [q1, q2, q3]; simp [joinS, joinW, joinC, hok, h40]
      rw [e1.1, e1.2.1, e1.2.2]
      rw [e1.2.1] at o
      exact ⟨ao, cap, rfl, o.lo (by simp), hal.trans (b.mono hal.size)⟩)
    clear hb0 hr
    obtain ⟨q1, hq1⟩ : ∃ q, q = cbC s xs := ⟨_, rfl⟩
    obtain ⟨q2, hq2⟩ : ∃ q, q = cbS s xs := ⟨_, rfl⟩
    obtain ⟨q3, hq3⟩ : ∃ q, q = cbW s xs := ⟨_, rfl⟩
    rw [← hq1, ← hq2, ← hq3] at HP ⊢
    have HQ : Hid (q1 = cbC s xs ∧ q2 = cbS s xs ∧ q3 = cbW s xs) := hid ⟨hq1, hq2, hq3⟩
    clear hq1 hq2 hq3
    have HWf : Hid (Below (w.alloc (.cells #[.int .i64 0, .slice none 0 0] 26)).heap.size (w.alloc (.cells #[.int .i64 0, .slice none 0 0] 26)) (w.alloc (.cells #[.int .i64 0, .slice none 0 0] 26))) := hid (Below.refl _ _)
    have HWg := hid (fun W (b : Below (w.alloc (.cells #[.int .i64 0, .slice none 0 0] 26)).heap.size (w.alloc (.cells #[.int .i64 0, .slice none 0 0] 26)) W) => HA.out.below b)
    rcases ha with ⟨rfl, ao, cap, rfl, hao⟩ | ⟨hp, b, off, cap, rfl, hbb, hc⟩
    · have HPn := hid (fun W v2 o2 b2 hcr => HP.out W v2 o2 b2 hcr)
      go_enter Try.func18, Try.ntmps18
      go_wp2_with (first
        | (go_at_call 67; refine (nd.within64 _ _ _ _).mono ?_; rintro e w' ⟨rfl, rfl⟩)
        | (at_make; refine wpList_make_own _ rfl _ _ 24 rfl (w.heap.size + 1) 2 i0 (.int .i64 0) 1 Try.underlying24 hi hz0 hz1 .i64 .i64 _ 0 rfl rfl (by rfl) (by rw [hz2]; omega) (by unfold maxLen; omega) (by simp) ?_; intro w2 hown2 hgrow2))
      have HO2 : Hid (Own w2 (w.heap.size + 1) w2.heap.size _ []) := hid (Own.mk' (xs := []) (by simpa using hown2))
      have bb := (Below.refl (w.alloc (.cells #[.int .i64 0, .slice none 0 0] 26)).heap.size (w.alloc (.cells #[.int .i64 0, .slice none 0 0] 26))).grown hgrow2 (by simp) (fun k hk => by cases hk)
      have HB2 := hid bb
      obtain ⟨r0, r1, g0, g1, hbw, hs2⟩ := HR.out w2 bb
      have HBw := hid hbw
      clear hown2 hgrow2 bb hbw
      refine wp_loop_rounds 1 ?_
      rw [rounds_succ]
      have HJ := hid (HP.out w2 _ HO2.out HBw.out rfl _ _ rfl)
      go_wp2_with fail
      refine HJ.out.mono ?_
      rintro e w3 ⟨ao3, cap3, rfl, o3, b3⟩
      have s0 := (b3.cell (p := ⟨w.heap.size, 0, none⟩) (by show w.heap.size < _; omega)).trans r0
      have s1 := (b3.cell (p := ⟨w.heap.size, 1, none⟩) (by show w.heap.size < _; omega)).trans r1
      have t0 := (b3.frozen (p := ⟨w.heap.size, 0, none⟩) (by show w.heap.size < _; omega)).trans g0
      have t1 := (b3.frozen (p := ⟨w.heap.size, 1, none⟩) (by show w.heap.size < _; omega)).trans g1
      have HO3 := hid (o3.lo (lo' := w.heap.size + 1) (by omega))
      have HB3 := hid (HBw.out.trans (b3.mono (by omega)))
      clear o3 b3 r0 r1 g0 g1
      go_wp2
      refine bodyPost_ret (v := .tuple #[.agg #[.int .i64 q2, .slice ao3 q3.length cap3], .int .i64 q1]) (by simp [results, Try.results18, go_sem, s0, s1]) rfl ⟨ao3, cap3, rfl, ?_, ?_⟩
      · have h := own_other (own_other HO3.out w.heap.size 0 (.int .i64 q2) (by omega)) w.heap.size 1 (.slice ao3 q3.length cap3) (by omega)
        have h2 := h.lo (lo' := w.heap.size) (by omega)
        simpa using h2
      · exact (HB3.out.setCell (by simp) _).setCell (by simp) _
    · have HC := hid (fun W (b1 : Below w.heap.size w W) j (hj : j < xs.length) => (hc j hj).below b1)
      obtain ⟨n, hnn⟩ : ∃ n, n = xs.length := ⟨_, rfl⟩
      rw [← hnn] at hp hn HBd HGd HC HP HFl HOk ⊢
      have HN := hid hnn
      clear hnn hc
      go_enter Try.func18, Try.ntmps18
      go_wp2_with (first
        | (go_at_call 67; refine (nd.within64 _ _ _ _).mono ?_; rintro e w' ⟨rfl, rfl⟩)
        | (at_make; refine wpList_make_own _ rfl _ _ 24 rfl (w.heap.size + 1) 2 i0 (.int .i64 0) 1 Try.underlying24 hi hz0 hz1 .i64 .i64 _ n rfl rfl (by rfl) (by rw [hz2]; omega) (by unfold maxLen; omega) (by simp) ?_; intro w2 hown2 hgrow2))
      have HO2 : Hid (Own w2 (w.heap.size + 1) w2.heap.size _ []) := hid (Own.mk' (xs := []) (by simpa using hown2))
      have bb := (Below.refl (w.alloc (.cells #[.int .i64 0, .slice none 0 0] 26)).heap.size (w.alloc (.cells #[.int .i64 0, .slice none 0 0] 26))).grown hgrow2 (by simp) (fun k hk => by cases hk)
      have HB2 := hid bb
      clear hown2 hgrow2 bb
      go_loopw [6, 18] (fun u i wr => ∃ k : Nat, k ≤ n ∧ i = .int .i64 k ∧ Own wr (w.heap.size + 1) wr.heap.size u ((xs.take k).map letV) ∧ (∀ j, j < k → okC s (xs.getD j oz) = true) ∧ Below (w.alloc (.cells #[.int .i64 0, .slice none 0 0] 26)).heap.size (w.alloc (.cells #[.int .i64 0, .slice none 0 0] 26)) wr) (fun _ i _ => n - (intOf i).toNat)
      case atStart => exact ⟨0, Nat.zero_le _, rfl, HO2.out, fun j hj => by omega, HB2.out⟩
      case round =>
        obtain ⟨k, hk, rfl, hown, hall, hbel⟩ := hrel
        have HO := hid hown
        have HAll := hid hall
        have HB := hid hbel
        obtain ⟨r0, r1, g0, g1, hbw, hs2⟩ := HR.out wr hbel
        have HBw := hid hbw
        obtain ⟨ao2, cp2, hv2⟩ := br.own_val hown
        have hl2 : ((xs.take k).map letV).length = k := by rw [List.length_map, List.length_take, ← HN.out]; omega
        rw [hl2] at hv2
        subst hv2
        clear hown hall hbel hbw HO2 HB2
        by_cases hlt : k < n
        · have HX : Hid ((xs.take (k + 1)).map letV = (xs.take k).map letV ++ [letV (xs.getD k oz)]) := hid (take_let xs k (by have := HN.out; omega))
          have HA1 := HC.out wr HBw.out k (by have := HN.out; omega)
          have HBk := hid (HBd.out k hlt)
          have HSt : Hid (okC s (xs.getD k oz) = true → ∀ j, j < k + 1 → okC s (xs.getD j oz) = true) := hid (fun h j hj => by
            rcases Nat.lt_or_ge j k with h' | h'
            · exact HAll.out j h'
            · obtain rfl : j = k := by omega
              exact h)
          generalize (xs.take k).map letV = l at *
          generalize xs.getD k oz = x at *
          have HPr := hid (okC_parts (s := s) (x := x))
          have HV := hid (fun W => implV x s W hs0 (by omega))
          have HXc := hid (fun W => predX x W)
          have HLe := hid (fun h2 h1 W => letterC x h2 h1 W)
          have HN6 := hid (at_new x 96 wr)
          have HKd : Hid (okC s x = (isX x && evB s x)) := hid rfl
          obtain ⟨x0, x1, x2, x3, x4, x5⟩ := x
          simp only [V.val, Array.append_empty] at HV HXc HLe
          simp only at HN6 HPr
          have hbE := (Below.refl wr.heap.size wr).alloc (Nat.le_refl _) (.cells #[.int .i64 x0, .int .i64 x1, .int .i64 x2, .int .i64 x3, .int .i64 x4, .int .i64 x5] 96)
          have HBE := hid (HB.out.trans (hbE.mono HB.out.size))
          have HOE := hid (HO.out.chg (Chg.ofBelow (lo := 0) hbE) (.inr (.inr (Nat.zero_le _))))
          have c0 := HA1.c0
          have c1 := HA1.c1
          have c2 := HA1.c2
          have c3 := HA1.c3
          have c4 := HA1.c4
          have c5 := HA1.c5
          simp only at c0 c1 c2 c3 c4 c5
          have hszE : wr.heap.size < (wr.alloc (.cells #[.int .i64 x0, .int .i64 x1, .int .i64 x2, .int .i64 x3, .int .i64 x4, .int .i64 x5] 96)).heap.size := by simp
          clear HA1 hbE
          go_wp2_with fail
          clear c0 c1 c2 c3 c4 c5 r0 r1 g0 g1
          generalize wr.alloc (.cells #[.int .i64 x0, .int .i64 x1, .int .i64 x2, .int .i64 x3, .int .i64 x4, .int .i64 x5] 96) = W0 at *
          refine (HXc.out _).mono ?_
          rintro e w4 ⟨rfl, b4⟩
          have HN4 := hid (HN6.out.below b4)
          have HB4 := hid (HBE.out.trans (b4.mono HBE.out.size))
          have HO4 := hid (HOE.out.chg (Chg.ofBelow (lo := 0) b4) (.inr (.inr (Nat.zero_le _))))
          have hs4 : wr.heap.size ≤ w4.heap.size := by have := b4.size; omega
          clear b4 HN6 HBE HOE HXc
          obtain ⟨t, ht⟩ : ∃ t, t = isX ⟨x0, x1, x2, x3, x4, x5⟩ := ⟨_, rfl⟩
          rw [← ht] at HKd ⊢
          clear ht
          cases t with
          | false =>
            have HQ0 : Hid (q1 = 1 ∧ q2 = 0 ∧ q3 = []) := hid (by obtain ⟨e1, e2, e3⟩ := HBk.out (by rw [HKd.out]; rfl); exact ⟨HQ.out.1.trans e1, HQ.out.2.1.trans e2, HQ.out.2.2.trans e3⟩)
            obtain ⟨r0, r1, g0, g1, hbw, hs5⟩ := HR.out w4 HB4.out
            have HBw4 := hid hbw
            clear hbw
            obtain ⟨rfl, rfl, rfl⟩ := HQ0.out
            go_wp2
            refine bodyPost_ret (v := .tuple #[.agg #[.int .i64 0, .slice none 0 0], .int .i64 1]) (by simp [results, Try.results18, go_sem, r0, r1]) rfl ⟨none, 0, rfl, Own.nil _ _, ?_⟩
            exact (HBw4.out.setCell (by simp) _).setCell (by simp) _
          | true =>
            have e0 := HN4.out.c0
            have e1 := HN4.out.c1
            have e2 := HN4.out.c2
            have e3 := HN4.out.c3
            have e4 := HN4.out.c4
            have e5 := HN4.out.c5
            simp only [Nat.zero_add] at e0 e1 e2 e3 e4 e5
            go_wp2_with fail
            clear e0 e1 e2 e3 e4 e5
            refine (HV.out _).mono ?_
            rintro e w5 ⟨rfl, b5⟩
            have HN5 := hid (HN4.out.below b5)
            have HB5 := hid (HB4.out.trans (b5.mono HB4.out.size))
            have HO5 := hid (HO4.out.chg (Chg.ofBelow (lo := 0) b5) (.inr (.inr (Nat.zero_le _))))
            have hs5 : wr.heap.size ≤ w5.heap.size := by have := b5.size; omega
            clear b5 HN4 HB4 HO4 HV
            obtain ⟨y, hy⟩ : ∃ y, y = evB s ⟨x0, x1, x2, x3, x4, x5⟩ := ⟨_, rfl⟩
            rw [← hy] at HKd ⊢
            clear hy
            cases y with
            | false =>
              have HQ0 : Hid (q1 = 1 ∧ q2 = 0 ∧ q3 = []) := hid (by obtain ⟨e1, e2, e3⟩ := HBk.out (by rw [HKd.out]; rfl); exact ⟨HQ.out.1.trans e1, HQ.out.2.1.trans e2, HQ.out.2.2.trans e3⟩)
              obtain ⟨r0, r1, g0, g1, hbw, hs6⟩ := HR.out w5 HB5.out
              have HBw5 := hid hbw
              clear hbw
              obtain ⟨rfl, rfl, rfl⟩ := HQ0.out
              go_wp2
              refine bodyPost_ret (v := .tuple #[.agg #[.int .i64 0, .slice none 0 0], .int .i64 1]) (by simp [results, Try.results18, go_sem, r0, r1]) rfl ⟨none, 0, rfl, Own.nil _ _, ?_⟩
              exact (HBw5.out.setCell (by simp) _).setCell (by simp) _
            | true =>
              have hok : okC s ⟨x0, x1, x2, x3, x4, x5⟩ = true := HKd.out
              have hpp := HPr.out hok
              have HSt2 := hid (HSt.out hok)
              have HL5 := hid (HLe.out hpp.2.1 ⟨hpp.2.2.1, by omega⟩ w5)
              clear hok hpp HKd HLe HBk
              generalize letV ⟨x0, x1, x2, x3, x4, x5⟩ = y at *
              have e0 := HN5.out.c0
              have e1 := HN5.out.c1
              have e2 := HN5.out.c2
              have e3 := HN5.out.c3
              have e4 := HN5.out.c4
              have e5 := HN5.out.c5
              simp only [Nat.zero_add] at e0 e1 e2 e3 e4 e5
              go_wp2_with fail
              clear e0 e1 e2 e3 e4 e5
              refine HL5.out.mono ?_
              rintro e w6 ⟨rfl, b6⟩
              have HB6 := hid (HB5.out.trans (b6.mono HB5.out.size))
              have HO6 := hid (HO5.out.chg (Chg.ofBelow (lo := 0) b6) (.inr (.inr (Nat.zero_le _))))
              have hs6 : wr.heap.size ≤ w6.heap.size := by have := b6.size; omega
              clear b6 HN5 HB5 HO5 HL5
              go_wp2_with (at_builtin; refine wp_append rfl _ _ rfl (w.heap.size + 1) wr.heap.size _ l y HO6.out rfl rfl (by omega) (by omega) ?_; intro v' w7 hown7 hchg7 hsz7; have HO7 := hid hown7; have HB7 := hid (HB6.out.trans (hchg7.below (by rw [hsz0]; omega) (by rw [hsz0]; omega))); clear hown7 hchg7)
              go_roundw
              case rel => exact ⟨k + 1, by omega, by go_num, by rw [HX.out]; exact HO7.out, HSt2.out, HB7.out⟩
              case measure => simp [intOf]; omega
        · obtain rfl : k = n := by omega
          have HT : Hid ((xs.take k).map letV = xs.map letV) := hid (by rw [HN.out, List.take_length])
          have HJ := hid (HP.out wr _ (by rw [← HT.out]; exact HO.out) HBw.out (HGd.out (fun j hj => HAll.out j (by have := HN.out; omega))) _ _ rfl)
          clear HO HAll HB
          go_wp2_with fail
          refine HJ.out.mono ?_
          rintro e w3 ⟨ao3, cap3, rfl, o3, b3⟩
          have s0 := (b3.cell (p := ⟨w.heap.size, 0, none⟩) (by show w.heap.size < _; omega)).trans r0
          have s1 := (b3.cell (p := ⟨w.heap.size, 1, none⟩) (by show w.heap.size < _; omega)).trans r1
          have t0 := (b3.frozen (p := ⟨w.heap.size, 0, none⟩) (by show w.heap.size < _; omega)).trans g0
          have t1 := (b3.frozen (p := ⟨w.heap.size, 1, none⟩) (by show w.heap.size < _; omega)).trans g1
          have HO3 := hid (o3.lo (lo' := w.heap.size + 1) (by omega))
          have HB3 := hid (HBw.out.trans (b3.mono (by omega)))
          clear o3 b3 r0 r1 g0 g1
          go_wp2
          refine bodyPost_ret (v := .tuple #[.agg #[.int .i64 q2, .slice ao3 q3.length cap3], .int .i64 q1]) (by simp [results, Try.results18, go_sem, s0, s1]) rfl ⟨ao3, cap3, rfl, ?_, ?_⟩
          · have h := own_other (own_other HO3.out w.heap.size 0 (.int .i64 q2) (by omega)) w.heap.size 1 (.slice ao3 q3.length cap3) (by omega)
            have h2 := h.lo (lo' := w.heap.size) (by omega)
            simpa using h2
          · exact (HB3.out.setCell (by simp) _).setCell (by simp) _
end Go.Proofs.Ytochafekbncbaaa.ev
