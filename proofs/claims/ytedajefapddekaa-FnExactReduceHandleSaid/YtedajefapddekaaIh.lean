/-
  IsHandle: slices.ContainsFunc at a closure that only reads (its world told as draws), the closure, the opposite letters.
-/
import Derived.Test.YtedajefapddekaaBp
namespace Go.Proofs.Ytedajefapddekaa.ih
open Go.RowKit Go.Proofs.Ytedajefapddekaa.sl Go.Proofs.Ytedajefapddekaa.pm Go.Proofs.Ytedajefapddekaa.bw Go.Proofs.Ytedajefapddekaa.br
set_option linter.unusedVariables false

theorem cell_drewN {w : World} {p : Addr} {u : Value} (h : w.cell? p = some u) (q : Nat) : (w.drewN q).cell? p = some u := h
theorem drewN_add (w : World) (a b : Nat) : (w.drewN a).drewN b = w.drewN (a + b) := by simp [World.drewN, Nat.add_assoc]

/-- slices.IndexFunc at a closure over one variable that only reads. -/
theorem idxFuncD (p : Int → Bool) (g : Nat) (cp : Value) (xs : List Int) (v : Value) (B : Nat) (w : World) (ha : Ints w B v xs) (hn : xs.length ≤ 1099511627776)
    (eg : ∀ args w, (callFunc g args).run Try.prog w = .ok (.enter g args) w) (hp : ∀ k, k < xs.length → ∀ q, Calls Try.prog g #[.int .i64 (xs.getD k 0), cp] (w.drewN q) fun e w' => e = .returned (.bool (p (xs.getD k 0))) ∧ ∃ m, w' = w.drewN m) :
    Calls Try.prog 128 #[v, .func (.func g) #[] #[cp]] w fun e w' => e = .returned (.int .i64 (idxOf p xs)) ∧ ∃ q, w' = w.drewN q := by
  have HP := hid hp
  clear hp
  rcases ha with ⟨rfl, ao, cap, rfl⟩ | ⟨hp, b, off, cap, rfl, hb, hc⟩
  · have HF : Hid (idxOf p [] = -1) := hid rfl
    go_enter Try.func128, Try.ntmps128
    go_wp2
    refine wp_loop_rounds 1 ?_
    rw [rounds_succ]
    go_wp2
    go_ret
    exact ⟨by rw [HF.out]; rfl, 0, rfl⟩
  · obtain ⟨n, hnn⟩ : ∃ n, n = xs.length := ⟨_, rfl⟩
    rw [← hnn] at hp hc hn HP ⊢
    have HN := hid hnn
    have HC := hid hc
    clear hnn hc
    go_enter Try.func128, Try.ntmps128
    go_wp2
    go_loopw [8] (fun i wr => ∃ k : Nat, k ≤ n ∧ i = .int .i64 k ∧ (∀ j, j < k → p (xs.getD j 0) = false) ∧ ∃ q, wr = w.drewN q) (fun i _ => n - (intOf i).toNat)
    case atStart => exact ⟨0, Nat.zero_le _, rfl, fun j hj => by omega, 0, rfl⟩
    case round =>
      obtain ⟨k, hk, rfl, hg, q0, hwr⟩ := hrel
      have HG := hid hg
      have HWr := hid hwr
      clear hg hwr
      by_cases hlt : k < n
      · have h1 : wr.cell? ⟨b, off + k, none⟩ = some (.int .i64 (xs.getD k 0)) := by rw [HWr.out]; exact HC.out k hlt
        have HPk := hid (HP.out k hlt q0)
        rw [← HWr.out] at HPk
        obtain ⟨x, hx⟩ : ∃ x, x = xs.getD k 0 := ⟨_, rfl⟩
        rw [← hx] at h1 HPk
        have HX := hid hx
        clear hx
        go_wp2_with fail
        refine HPk.out.mono ?_
        rintro e w1 ⟨rfl, m1, hm1⟩
        have HM1 := hid hm1
        clear hm1
        obtain ⟨q, hq⟩ : ∃ q, q = p x := ⟨_, rfl⟩
        rw [← hq]
        have HQ := hid hq
        clear hq
        cases q
        · go_wp2
          go_roundw
          case rel => exact ⟨k + 1, by omega, by go_num, fun j hj => by
            rcases Nat.lt_or_ge j k with h | h
            · exact HG.out j h
            · obtain rfl : j = k := by omega
              rw [← HX.out, ← HQ.out], m1, HM1.out⟩
          case measure => simp [intOf]; omega
        · have HF := hid (idx_yes p xs k (by rw [← HN.out]; exact hlt) HG.out (by rw [← HX.out, ← HQ.out])).2
          go_wp2
          go_ret
          exact ⟨by rw [HF.out]; rfl, m1, HM1.out⟩
      · obtain rfl : k = n := by omega
        have HF := hid (idx_no p xs (fun j hj => HG.out j (by rw [HN.out]; exact hj))).2
        go_wp2
        go_ret
        exact ⟨by rw [HF.out]; rfl, q0, HWr.out⟩

/-- slices.ContainsFunc at a closure over one variable that only reads. -/
theorem contFuncD (p : Int → Bool) (g : Nat) (cp : Value) (xs : List Int) (v : Value) (B : Nat) (w : World) (ha : Ints w B v xs) (hn : xs.length ≤ 1099511627776)
    (eg : ∀ args w, (callFunc g args).run Try.prog w = .ok (.enter g args) w) (hp : ∀ k, k < xs.length → ∀ q, Calls Try.prog g #[.int .i64 (xs.getD k 0), cp] (w.drewN q) fun e w' => e = .returned (.bool (p (xs.getD k 0))) ∧ ∃ m, w' = w.drewN m) :
    Calls Try.prog 102 #[v, .func (.func g) #[] #[cp]] w fun e w' => e = .returned (.bool (xs.any p)) ∧ ∃ q, w' = w.drewN q := by
  have H := hid (idxFuncD p g cp xs v B w ha hn eg hp)
  have hi := idx_sign p xs hn
  obtain ⟨q, hq⟩ : ∃ q, q = xs.any p := ⟨_, rfl⟩
  rw [← hq] at hi ⊢
  obtain ⟨ao, cap, hv⟩ := ints_val ha
  clear hp
  generalize xs.length = n at *
  subst hv
  clear ha eg hq
  generalize idxOf p xs = z at *
  obtain ⟨h1, h2, h3⟩ := hi
  have HQ := hid h1
  clear h1
  go_enter Try.func102, Try.ntmps102
  go_wp2_with fail
  refine H.out.mono ?_
  rintro e w1 ⟨rfl, m1, hm1⟩
  have HM1 := hid hm1
  clear hm1
  go_wp2
  go_ret
  exact ⟨by rw [← HQ.out]; rfl, m1, HM1.out⟩

theorem opp (x y : Int) (hy : -100 ≤ y ∧ y ≤ 100) (q : Bool) (hq : decide (x = -y) = q) (w : World) :
    Calls Try.prog 115 #[.int .i64 x, .int .i64 y] w fun e w' => e = .returned (.bool q) ∧ w' = w := by
  have hw : IntKind.i64.wrap (-y) = -y := IntWalk.i64_in _ (by omega)
  cases q
  · have h0 : ¬ x = -y := of_decide_eq_false hq
    have h1 : (x == -y) = false := by simpa using h0
    go_enter Try.func115, Try.ntmps115
    go_wp2
    go_ret
    exact ⟨rfl, rfl⟩
  · have h0 : x = -y := of_decide_eq_true hq
    have h1 : (x == -y) = true := by simpa using h0
    go_enter Try.func115, Try.ntmps115
    go_wp2
    go_ret
    exact ⟨rfl, rfl⟩

/-- The closure: a letter of the handle's generator or of the one below. -/
def isEnd (j x : Int) : Bool := decide (j - 1 ≤ ab x ∧ ab x ≤ j)
set_option maxHeartbeats 800000 in
theorem endsD (b : Nat) (j x : Int) (hj : 0 ≤ j ∧ j ≤ 100) (hx : -100 ≤ x ∧ x ≤ 100) (w : World) (q0 : Nat) (h0 : w.cell? ⟨b, 0, none⟩ = some (.int .i64 j)) :
    Calls Try.prog 117 #[.int .i64 x, .pointer (some ⟨b, 0, none⟩)] (w.drewN q0) fun e w' => e = .returned (.bool (isEnd j x)) ∧ ∃ m, w' = w.drewN m := by
  have h1 : (w.drewN q0).cell? ⟨b, 0, none⟩ = some (.int .i64 j) := h0
  have hw : IntKind.i64.wrap (j - 1) = j - 1 := IntWalk.i64_in _ (by omega)
  have HGn := hid (fun W => (implGen x hx W).mono fun _ _ h => (⟨h.1, h.2.symm⟩ : _ ∧ _))
  obtain ⟨y, hy⟩ : ∃ y, y = ab x := ⟨_, rfl⟩
  have hy2 : isEnd j x = decide (j - 1 ≤ y ∧ y ≤ j) := by rw [isEnd, hy]
  rw [hy2]
  rw [← hy] at HGn
  clear hy hy2
  cases hq : decide (j - 1 ≤ y ∧ y ≤ j)
  all_goals
    have HWi := hid (fun W => (within64 y (j - 1) j W).mono fun _ _ h => (⟨h.1.trans (by rw [hq]), h.2.symm⟩ : _ ∧ _))
    clear hq
    generalize hW : w.drewN q0 = W at *
    have HW := hid hW
    clear hW h0
    go_enter Try.func117, Try.ntmps117
    go_wp2
    go_quiet (first | (go_at_call 108; exact Calls.quiet_of_same (HGn.out _)) | (go_at_call 60; exact Calls.quiet_of_same (HWi.out _)))
    go_wp2
    go_ret
    exact ⟨rfl, _, by rw [← HW.out, drewN_add]⟩

def Small (xs : List Int) : Prop := ∀ j, j < xs.length → -100 ≤ xs.getD j 0 ∧ xs.getD j 0 ≤ 100
/-- The letters between two places. -/
def mid (xs : List Int) (f t : Nat) : List Int := (xs.drop (f + 1)).take (t - f - 1)
theorem mid_at (xs : List Int) (f t i : Nat) (h : i < t - f - 1) : (mid xs f t)[i]? = xs[f + 1 + i]? := by
  rw [mid, List.getElem?_take_of_lt h, List.getElem?_drop]
theorem mid_yes (p : Int → Bool) (xs : List Int) (f t k : Nat) (h1 : f < k) (h2 : k < t) (h3 : t < xs.length) (hp : p (xs.getD k 0) = true) : (mid xs f t).any p = true := by
  rw [List.any_eq_true]
  refine ⟨xs.getD k 0, List.mem_iff_getElem?.2 ⟨k - f - 1, ?_⟩, hp⟩
  rw [mid_at xs f t _ (by omega), show f + 1 + (k - f - 1) = k by omega]
  simp [List.getD, List.getElem?_eq_getElem (show k < xs.length by omega)]
theorem mid_no (p : Int → Bool) (xs : List Int) (f t : Nat) (h3 : t < xs.length) (hp : ∀ k, f < k → k < t → p (xs.getD k 0) = false) : (mid xs f t).any p = false := by
  rw [List.any_eq_false]
  intro x hx
  obtain ⟨i, hi⟩ := List.mem_iff_getElem?.1 hx
  have hlt : i < t - f - 1 := by
    rcases Nat.lt_or_ge i (t - f - 1) with h | h
    · exact h
    · rw [List.getElem?_eq_none (by rw [mid, List.length_take]; omega)] at hi; cases hi
  rw [mid_at xs f t i hlt] at hi
  have h4 := hp (f + 1 + i) (by omega) (by omega)
  have h5 : xs.getD (f + 1 + i) 0 = x := by simp [List.getD, hi]
  rw [h5] at h4
  rw [h4]; simp
/-- A handle between two places of a word. -/
def hdN (xs : List Int) (f t : Nat) : Bool := decide (xs.getD f 0 = -(xs.getD t 0)) && !((mid xs f t).any (isEnd (ab (xs.getD t 0))))
theorem hd_opp {xs : List Int} {f t : Nat} (h : ¬ xs.getD f 0 = -(xs.getD t 0)) : hdN xs f t = false := by rw [hdN, decide_eq_false h]; rfl
theorem hd_yes {xs : List Int} {f t : Nat} (h : xs.getD f 0 = -(xs.getD t 0)) : hdN xs f t = !((mid xs f t).any (isEnd (ab (xs.getD t 0)))) := by rw [hdN, decide_eq_true h]; rfl

set_option maxHeartbeats 800000 in
theorem specEnds (xs : List Int) (f t : Nat) (v : Value) (B : Nat) (w : World) (ha : Ints w B v xs) (hn : xs.length ≤ 1099511627776) (hft : f < t) (ht : t < xs.length) (hsm : Small xs) :
    Calls Try.prog 116 #[v, .int .i64 (f : Int), .int .i64 (t : Int)] w fun e w' => e = .returned (.bool (hdN xs f t)) ∧ ∃ q, w' = w.drewN q := by
  rcases ha with ⟨rfl, ao, cap, rfl⟩ | ⟨hp, b, off, cap, rfl, hb, hc⟩
  · simp at ht
  have HC := hid hc
  have HSm := hid hsm
  have hT := hc t ht
  have hF := hc f (by omega)
  have hfr := hsm f (by omega)
  have htr := hsm t ht
  have HAb := hid (fun (x : Int) (hx : -100 ≤ x ∧ x ≤ 100) (W : World) => specAbs x hx W)
  have HOp := hid (@hd_opp xs f t)
  have HYs := hid (@hd_yes xs f t)
  have HMy := hid (fun p k h1 h2 hp => mid_yes p xs f t k h1 h2 ht hp)
  have HMn := hid (fun p hp => mid_no p xs f t ht hp)
  have hwf : IntKind.i64.wrap ((f : Int) + 1) = (f : Int) + 1 := IntWalk.i64_in _ (by omega)
  clear hc hsm
  obtain ⟨n, hnn⟩ : ∃ n, n = xs.length := ⟨_, rfl⟩
  rw [← hnn] at hn ht hp HC ⊢
  have HN := hid hnn
  clear hnn
  generalize hxt : xs.getD t 0 = y at *
  generalize hxf : xs.getD f 0 = x at *
  have hwy : IntKind.i64.wrap (-y) = -y := IntWalk.i64_in _ (by omega)
  have hAy := hid (HAb.out y htr)
  have HJ : Hid (1 - 1 ≤ ab y ∧ ab y ≤ 100) := hid (by unfold ab; split <;> omega)
  generalize hj : ab y = j at *
  clear hxt hxf hj
  by_cases he : x = -y
  · have he2 : (x != -y) = false := by simpa using he
    have he3 : (x == -y) = true := by simpa using he
    have HY := hid (HYs.out he)
    clear HOp HYs
    subst he
    go_enter Try.func116, Try.ntmps116
    go_wp2_with (go_at_call 77; refine (hAy.out _).mono ?_; rintro e w' ⟨rfl, rfl⟩)
    go_quiet (fail)
    go_wp2
    generalize hwr0 : w.drewN nq = W0 at *
    have HW0 := hid hwr0
    clear hwr0
    go_loopw [8] (fun i wr => ∃ k : Nat, f < k ∧ k ≤ t ∧ i = .int .i64 k ∧ (∀ l, f < l → l < k → isEnd j (xs.getD l 0) = false) ∧ wr = W0) (fun i _ => t - (intOf i).toNat)
    case atStart => exact ⟨f + 1, by omega, by omega, by go_num, fun l h1 h2 => by omega, rfl⟩
    case round =>
      obtain ⟨k, hk1, hk2, rfl, hg, rfl⟩ := hrel
      have HG := hid hg
      clear hg
      by_cases hlt : k < t
      · have hx : wr.cell? ⟨b, off + k, none⟩ = some (.int .i64 (xs.getD k 0)) := by rw [← HW0.out]; exact HC.out k (by omega)
        have hr := HSm.out k (by rw [← HN.out]; omega)
        have HAx := hid (HAb.out _ hr)
        have HE : Hid (isEnd j (xs.getD k 0) = decide (j - 1 ≤ ab (xs.getD k 0) ∧ ab (xs.getD k 0) ≤ j)) := hid rfl
        have HMk := hid (HMy.out (isEnd j) k hk1 hlt)
        have hwj : IntKind.i64.wrap (j - 1) = j - 1 := by have := HJ.out; exact IntWalk.i64_in _ (by omega)
        have HG2 : Hid (isEnd j (xs.getD k 0) = false → ∀ l, f < l → l < k + 1 → isEnd j (xs.getD l 0) = false) := hid (fun h l h1 h2 => by
          rcases Nat.lt_or_ge l k with h3 | h3
          · exact HG.out l h1 h3
          · obtain rfl : l = k := by omega
            exact h)
        generalize isEnd j (xs.getD k 0) = r at HE HMk HG2
        generalize ab (xs.getD k 0) = z at *
        generalize xs.getD k 0 = x at *
        by_cases e1 : z = j
        · have e1' : (z == j) = true := by simpa using e1
          have HR : Hid (hdN xs f t = false) := hid (by rw [HY.out, HMk.out (by rw [HE.out]; simp; omega)]; rfl)
          go_wp2_with (go_at_call 77; refine (HAx.out _).mono ?_; rintro e w' ⟨rfl, rfl⟩)
          go_ret
          exact ⟨by rw [HR.out]; rfl, nq, HW0.out.symm⟩
        · have e1' : (z == j) = false := by simpa using e1
          by_cases e2 : z = j - 1
          · have e2' : (z == j - 1) = true := by simpa using e2
            have HR : Hid (hdN xs f t = false) := hid (by rw [HY.out, HMk.out (by rw [HE.out]; simp; omega)]; rfl)
            go_wp2_with (go_at_call 77; refine (HAx.out _).mono ?_; rintro e w' ⟨rfl, rfl⟩)
            go_ret
            exact ⟨by rw [HR.out]; rfl, nq, HW0.out.symm⟩
          · have e2' : (z == j - 1) = false := by simpa using e2
            have HR := hid (HG2.out (by rw [HE.out]; simp; omega))
            have hwk : IntKind.i64.wrap ((k : Int) + 1) = (k : Int) + 1 := IntWalk.i64_in _ (by omega)
            go_wp2_with (go_at_call 77; refine (HAx.out _).mono ?_; rintro e w' ⟨rfl, rfl⟩)
            go_roundw
            case rel => exact ⟨k + 1, by omega, by omega, by go_num, HR.out, trivial⟩
            case measure => simp [intOf]; omega
      · obtain rfl : k = t := by omega
        have HR : Hid (hdN xs f k = true) := hid (by rw [HY.out, HMn.out _ (fun l h1 h2 => HG.out l h1 h2)]; rfl)
        go_wp2
        go_ret
        exact ⟨by rw [HR.out]; rfl, nq, HW0.out.symm⟩
  · have he2 : (x != -y) = true := by simpa using he
    have he3 : (x == -y) = false := by simpa using he
    have HR := hid (HOp.out he)
    rw [HR.out]
    clear HOp HYs
    go_enter Try.func116, Try.ntmps116
    go_wp2_with (go_at_call 77; refine (hAy.out _).mono ?_; rintro e w' ⟨rfl, rfl⟩)
    go_quiet (fail)
    go_wp2
    go_ret
    exact ⟨rfl, _, rfl⟩

/-- A handle of a word. -/
def hdB (xs : List Int) (a c : Int) : Bool := decide (0 ≤ a ∧ a ≤ (xs.length : Int) - 1) && (decide (a + 1 ≤ c ∧ c ≤ (xs.length : Int) - 1) && hdN xs a.toNat c.toNat)
theorem hdB_1 {xs : List Int} {a c : Int} (h : ¬ (0 ≤ a ∧ a ≤ (xs.length : Int) - 1)) : hdB xs a c = false := by rw [hdB, decide_eq_false h]; rfl
theorem hdB_2 {xs : List Int} {a c : Int} (h : ¬ (a + 1 ≤ c ∧ c ≤ (xs.length : Int) - 1)) : hdB xs a c = false := by rw [hdB, decide_eq_false h]; simp
theorem hdB_3 {xs : List Int} {f t : Nat} (h : f < t) (h2 : t < xs.length) : hdB xs f t = hdN xs f t := by
  rw [hdB, decide_eq_true (by omega), decide_eq_true (by omega)]; simp

attribute [local go_sem] undef
theorem specIn' (c lo hi : Int) (q : Bool) (hq : decide (lo ≤ c ∧ c ≤ hi) = q) (w : World) : Calls Try.prog 53 #[.int .i64 c, .int .i64 lo, .int .i64 hi] w fun e w' => e = .returned (.bool q) ∧ w = w' :=
  (specIn c lo hi w).mono fun _ _ h => ⟨by rw [h.1, hq], h.2⟩
set_option maxRecDepth 20000 in
set_option maxHeartbeats 800000 in
theorem specIs (xs : List Int) (a c : Int) (v : Value) (B : Nat) (w : World) (ha : Ints w B v xs) (hB : B ≤ w.heap.size) (hn : xs.length ≤ 1099511627776) (hsm : Small xs) :
    Calls Try.prog 83 #[v, .agg #[.int .i64 a, .int .i64 c]] w fun e w' => e = .returned (.bool (hdB xs a c)) ∧ Below w.heap.size w w' := by
  obtain ⟨ao, cap, hv⟩ := ints_val ha
  have HA := hid ha
  clear ha
  have HH1 := hid (@hdB_1 xs a c)
  have HH2 := hid (@hdB_2 xs a c)
  have HH3 := hid (fun f t => @hdB_3 xs f t)
  have HSE := hid (fun f t h1 h2 W (i : Ints W B v xs) => specEnds xs f t v B W i hn h1 h2 hsm)
  obtain ⟨n, hnn⟩ : ∃ n, n = xs.length := ⟨_, rfl⟩
  rw [← hnn] at hv hn HH1 HH2 HH3 HSE
  have HN := hid hnn
  clear hnn
  have HA1 := hid (ints_al HA.out (.cells #[.int .i64 a, .int .i64 c] 50))
  subst hv
  clear HA
  have hwn : IntKind.i64.wrap ((n : Int) - 1) = (n : Int) - 1 := IntWalk.i64_in _ (by omega)
  by_cases h1 : 0 ≤ a ∧ a ≤ (n : Int) - 1
  · have hwa : IntKind.i64.wrap (a + 1) = a + 1 := IntWalk.i64_in _ (by omega)
    have HI1 := hid (fun W => specIn' a 0 ((n : Int) - 1) true (by simpa using h1) W)
    by_cases h2 : a + 1 ≤ c ∧ c ≤ (n : Int) - 1
    · have HI2 := hid (fun W => specIn' c (a + 1) ((n : Int) - 1) true (by simpa using h2) W)
      obtain ⟨f, rfl⟩ := Int.eq_ofNat_of_zero_le h1.1
      obtain ⟨t, rfl⟩ := Int.eq_ofNat_of_zero_le (show 0 ≤ c by omega)
      have HR := hid (HH3.out f t (by omega) (by omega))
      have HE := hid (HSE.out f t (by omega) (by omega) _ HA1.out)
      rw [HR.out]
      cases hq : hdN xs f t
      all_goals
        rw [hq] at HE
        go_enter Try.func83, Try.ntmps83
        go_wp2_with (first | (go_at_call 53; first | (with_reducible refine (HI1.out _).mono ?_; rintro e w' ⟨rfl, rfl⟩) | (with_reducible refine (HI2.out _).mono ?_; rintro e w' ⟨rfl, rfl⟩)) | (go_at_call 116; refine HE.out.mono ?_; rintro e w2 ⟨rfl, q2, rfl⟩))
        go_ret
        exact ⟨rfl, bdrewN ((Below.refl _ _).alloc (Nat.le_refl _) _) _⟩
    · have HI2 := hid (fun W => specIn' c (a + 1) ((n : Int) - 1) false (by simpa using h2) W)
      rw [HH2.out h2]
      go_enter Try.func83, Try.ntmps83
      go_wp2_with (go_at_call 53; first | (with_reducible refine (HI1.out _).mono ?_; rintro e w' ⟨rfl, rfl⟩) | (with_reducible refine (HI2.out _).mono ?_; rintro e w' ⟨rfl, rfl⟩))
      go_ret
      exact ⟨rfl, (Below.refl _ _).alloc (Nat.le_refl _) _⟩
  · have HI1 := hid (fun W => specIn' a 0 ((n : Int) - 1) false (by simpa using h1) W)
    rw [HH1.out h1]
    go_enter Try.func83, Try.ntmps83
    go_wp2_with (go_at_call 53; refine (HI1.out _).mono ?_; rintro e w' ⟨rfl, rfl⟩)
    go_ret
    exact ⟨rfl, (Below.refl _ _).alloc (Nat.le_refl _) _⟩

def ihB (s : Int) (xs : List Int) (a c : Int) : Bool := okB s xs && hdB xs a c
theorem ih_no {s : Int} {xs : List Int} {a c : Int} (h : okB s xs = false) : ihB s xs a c = false := by rw [ihB, h]; rfl
theorem ih_yes {s : Int} {xs : List Int} {a c : Int} (h : okB s xs = true) : ihB s xs a c = hdB xs a c := by rw [ihB, h]; rfl
theorem ok_small {s : Int} {xs : List Int} (h : okB s xs = true) : Small xs := fun j hj => by
  obtain ⟨q, _, _, h1, h2⟩ := letter_place h j hj
  exact ⟨h1, h2⟩

end Go.Proofs.Ytedajefapddekaa.ih
