/-
  Colour charts: SameColours of both sides, ValidColours of the program.
-/
import Derived.Test.YtnmnikpgjglonaaCu
import Derived.Test.YtnmnikpgjglonaaSn
import Derived.Test.YtnmnikpgjglonaaVmr
import Derived.Test.YtnmnikpgjglonaaSt2
import Derived.Test.YtnmnikpgjglonaaVo
namespace Go.Proofs.Ytnmnikpgjglonaa.cu
open Go.RowKit Go.Proofs.Ytnmnikpgjglonaa.sl Go.Proofs.Ytnmnikpgjglonaa.br Go.Proofs.Ytnmnikpgjglonaa.ss Go.Proofs.Ytnmnikpgjglonaa.nb
set_option linter.unusedVariables false
set_option linter.unusedSimpArgs false
set_option maxRecDepth 100000

def sameK (s : Int) (a : List (List Int)) (t : Int) (b : List (List Int)) : Bool := decide (s = t) && sameR a b

theorem implSK (s : Int) (a : List (List Int)) (t : Int) (b : List (List Int)) (f g : Value) (B C : Nat) (w : World) (ha : ss.Rows w B f a) (hB : B ≤ w.heap.size) (hb : ss.Rows w C g b) (hC : C ≤ w.heap.size) (qa : nb.Small a) (qb : nb.Small b) :
    Calls Try.prog 16 #[.agg #[.int .i64 s, f], .agg #[.int .i64 t, g]] w fun e w' => e = .returned (.bool (sameK s a t b)) ∧ Below w.heap.size w w' := by
  have HB : Hid (Below w.heap.size w ((w.alloc (.cells #[.int .i64 s, f] 27)).alloc (.cells #[.int .i64 t, g] 27))) := hid (((Below.refl w.heap.size w).alloc (Nat.le_refl _) _).alloc (by simp) _)
  have HE := hid (sameRowsQ a b f g B C _ ((ha.al (.cells #[.int .i64 s, f] 27)).al (.cells #[.int .i64 t, g] 27)) ((hb.al (.cells #[.int .i64 s, f] 27)).al (.cells #[.int .i64 t, g] 27)) qa qb)
  obtain ⟨ao, cap, hv⟩ := rows_val ha
  obtain ⟨ao', cap', hu⟩ := rows_val hb
  clear ha hb qa qb
  by_cases h : s = t
  · subst h
    have HF : Hid (sameK s a s b = sameR a b) := hid (by simp [sameK])
    generalize a.length = n at *
    generalize b.length = m at *
    subst hv hu
    generalize sameR a b = r at *
    go_enter Try.func16, Try.ntmps16
    go_wp2_with (go_at_call 44; refine HE.out.mono ?_; rintro e w1 ⟨rfl, q1, rfl⟩)
    go_ret
    exact ⟨by rw [HF.out]; rfl, bdrewN HB.out _⟩
  · have HF : Hid (sameK s a t b = false) := hid (by simp [sameK, h])
    have hd1 : (s == t) = false := by simpa using h
    clear h HE
    generalize a.length = n at *
    generalize b.length = m at *
    subst hv hu
    go_enter Try.func16, Try.ntmps16
    go_wp2
    go_ret
    exact ⟨by rw [HF.out]; rfl, HB.out⟩

set_option maxHeartbeats 800000 in
theorem l07SameQ (a b : List (List Int)) (v u : Value) (B C : Nat) (w : World) (ha : ss.Rows w B v a) (hb : ss.Rows w C u b) (hn : a.length ≤ 1099511627776) (hm : b.length ≤ 1099511627776) (sa : Short a 1099511627776) (sb : Short b 1099511627776) :
    Calls Try.prog 43 #[v, u] w fun e w' => e = .returned (.bool (sameR a b)) ∧ ∃ q, w' = w.drewN q := by
  by_cases hl : a.length = b.length
  · rcases ha with ⟨rfl, ao, cap, rfl⟩ | ⟨hp, g, off, cap, V, rfl, hb', hc⟩
    · rcases hb with ⟨rfl, ao', cap', rfl⟩ | ⟨hp', _⟩
      · go_enter Try.func43, Try.ntmps43
        go_wp2
        refine wp_loop_rounds 1 ?_
        rw [rounds_succ]
        go_wp2
        go_ret
        exact ⟨rfl, 0, rfl⟩
      · simp at hl; omega
    · rcases hb with ⟨rfl, ao', cap', rfl⟩ | ⟨hp', g', off', cap', U, rfl, hb'', hc'⟩
      · simp at hl; subst hl; simp at hp
      · have HS' := hid sb
        rw [← hl] at hc' ⊢
        obtain ⟨n, hnn⟩ : ∃ n, n = a.length := ⟨_, rfl⟩
        rw [← hnn] at hp hc hc' hn ⊢
        have HN := hid hnn
        have HL := hid hl
        have HC := hid hc
        have HC' := hid hc'
        have HS := hid sa
        clear hnn hl hp' hm hc hc' sa sb
        go_enter Try.func43, Try.ntmps43
        go_wp2
        go_loopw [5] (fun i wr => ∃ k : Nat, k ≤ n ∧ i = .int .i64 k ∧ (∀ j, j < k → a.getD j [] = b.getD j []) ∧ ∃ q, wr = w.drewN q)
          (fun i _ => n - (intOf i).toNat)
        case atStart => exact ⟨0, Nat.zero_le _, rfl, fun j hj => by omega, 0, rfl⟩
        case round =>
          obtain ⟨k, hk, rfl, heq, q, hwr⟩ := hrel
          have HE := hid heq
          have HW := hid hwr
          clear heq hwr
          by_cases hlt : k < n
          · have h1 : wr.cell? ⟨g, off + k, none⟩ = some (V k) := by rw [HW.out]; exact (HC.out k hlt).1
            have h2 : wr.cell? ⟨g', off' + k, none⟩ = some (U k) := by rw [HW.out]; exact (HC'.out k hlt).1
            have HI1 : Hid (Ints wr B (V k) (a.getD k [])) := hid (by rw [HW.out]; exact (HC.out k hlt).2)
            have HI2 : Hid (Ints wr C (U k) (b.getD k [])) := hid (by rw [HW.out]; exact (HC'.out k hlt).2)
            have HQ := hid (fun r hr q => nb.sameQ' (a.getD k []) (b.getD k []) r hr (V k) (U k) B C wr HI1.out HI2.out (HS.out k (by rw [← HN.out]; exact hlt)) (HS'.out k (by rw [← HL.out, ← HN.out]; exact hlt)) q)
            clear HI1 HI2
            generalize V k = x at *
            generalize U k = y at *
            by_cases he : a.getD k [] = b.getD k []
            · have HQ1 := hid (HQ.out true (by rw [he]; exact sameB_self _))
              have HX := hid he
              clear he HQ
              go_wp2
              go_quiet ((go_at_call 68; exact HQ1.out _))
              go_wp2
              go_roundw
              case rel => exact ⟨k + 1, by omega, by go_num, fun j hj => by
                rcases Nat.lt_or_ge j k with h | h
                · exact HE.out j h
                · obtain rfl : j = k := by omega
                  exact HX.out, _, by rw [HW.out]; exact drewN_add _ _ _⟩
              case measure => simp [intOf]; omega
            · have HQ1 := hid (HQ.out false (by unfold sameB; exact decide_eq_false he))
              have HF : Hid (sameR a b = false) := by
                refine hid ?_
                simp only [sameR, decide_eq_false_iff_not]
                rintro rfl
                exact he rfl
              clear he HQ
              go_wp2
              go_quiet ((go_at_call 68; exact HQ1.out _))
              go_wp2
              go_ret
              exact ⟨by rw [HF.out]; rfl, _, by rw [HW.out]; exact drewN_add _ _ _⟩
          · obtain rfl : k = n := by omega
            go_wp2
            go_ret
            have : a = b := rows_eq_of HL.out (fun j hj => HE.out j (by rw [HN.out]; exact hj))
            exact ⟨by rw [this, sameR_self]; rfl, q, HW.out⟩
  · have hd : (((a.length : Nat) : Int) == ((b.length : Nat) : Int)) = false := by simp; omega
    have hd' : (((a.length : Nat) : Int) != ((b.length : Nat) : Int)) = true := by simp; omega
    have HF : Hid (sameR a b = false) := by
      refine hid ?_
      simp only [sameR, decide_eq_false_iff_not]
      rintro rfl
      exact hl rfl
    obtain ⟨ao, cap, rfl⟩ := rows_val ha
    obtain ⟨ao', cap', rfl⟩ := rows_val hb
    clear ha hb hl sa sb
    generalize a.length = n at *
    generalize b.length = m at *
    go_enter Try.func43, Try.ntmps43
    go_wp2
    go_ret
    exact ⟨by rw [HF.out]; rfl, 0, rfl⟩

theorem specSK (s : Int) (a : List (List Int)) (t : Int) (b : List (List Int)) (f g : Value) (B C : Nat) (w : World) (ha : ss.Rows w B f a) (hB : B ≤ w.heap.size) (hb : ss.Rows w C g b) (hC : C ≤ w.heap.size) (qa : nb.Small a) (qb : nb.Small b) :
    Calls Try.prog 15 #[.agg #[.int .i64 s, f], .agg #[.int .i64 t, g]] w fun e w' => e = .returned (.bool (sameK s a t b)) ∧ Below w.heap.size w w' := by
  have HB : Hid (Below w.heap.size w ((w.alloc (.cells #[.int .i64 s, f] 27)).alloc (.cells #[.int .i64 t, g] 27))) := hid (((Below.refl w.heap.size w).alloc (Nat.le_refl _) _).alloc (by simp) _)
  have HE := hid (l07SameQ a b f g B C _ ((ha.al (.cells #[.int .i64 s, f] 27)).al (.cells #[.int .i64 t, g] 27)) ((hb.al (.cells #[.int .i64 s, f] 27)).al (.cells #[.int .i64 t, g] 27)) (by have := qa.len; omega) (by have := qb.len; omega) qa.short qb.short)
  obtain ⟨ao, cap, hv⟩ := rows_val ha
  obtain ⟨ao', cap', hu⟩ := rows_val hb
  clear ha hb qa qb
  by_cases h : s = t
  · subst h
    have HF : Hid (sameK s a s b = sameR a b) := hid (by simp [sameK])
    generalize a.length = n at *
    generalize b.length = m at *
    subst hv hu
    generalize sameR a b = r at *
    go_enter Try.func15, Try.ntmps15
    go_wp2_with (go_at_call 43; refine HE.out.mono ?_; rintro e w1 ⟨rfl, q1, rfl⟩)
    go_ret
    exact ⟨by rw [HF.out]; rfl, bdrewN HB.out _⟩
  · have HF : Hid (sameK s a t b = false) := hid (by simp [sameK, h])
    have hd1 : (s == t) = false := by simpa using h
    clear h HE
    generalize a.length = n at *
    generalize b.length = m at *
    subst hv hu
    go_enter Try.func15, Try.ntmps15
    go_wp2
    go_ret
    exact ⟨by rw [HF.out]; rfl, HB.out⟩

/-- A row of a colour chart; a colour chart. -/
def rowB (c : Int) (r : List Int) : Bool := decide ((r.length : Int) = c) && r.all vo.carB
def colB (c : Int) (rows : List (List Int)) : Bool := decide (1 ≤ c ∧ c ≤ 8) && (decide (1 ≤ (rows.length : Int) ∧ (rows.length : Int) ≤ 8) && rows.all (rowB c))
theorem any_notK (p : List Int → Bool) (xs : List (List Int)) : (!(xs.any fun x => !p x)) = xs.all p := by
  induction xs with
  | nil => rfl
  | cons x xs ih => simp only [List.any_cons, List.all_cons, Bool.not_or, Bool.not_not, ih]

theorem implRow (c : Int) (f : Value) (hf : ∃ a n k, f = .slice a n k) (xs : List Int) (V : Value) (B : Nat) (w : World) (ha : Ints w B V xs) (hB : B ≤ w.heap.size) (hn : xs.length ≤ 1099511627776) :
    Calls Try.prog 41 #[.agg #[.int .i64 c, f], V] w fun e w' => e = .returned (.bool (rowB c xs)) ∧ Below w.heap.size w w' := by
  obtain ⟨a, n, k, rfl⟩ := hf
  have hal := (Below.refl w.heap.size w).alloc (Nat.le_refl _) (.cells #[.int .i64 c, .slice a n k] 27)
  have HAll := hid (st.implAll 67 vo.carB xs V B (w.alloc (.cells #[.int .i64 c, .slice a n k] 27)) (ints_al ha _) (by simp; omega) hn (fun _ _ => rfl) (fun x W => vo.implCar x W))
  have HB := hid hal
  obtain ⟨ao, cap, hv⟩ := ints_val ha
  clear ha hal
  by_cases h : (xs.length : Int) = c
  · have HF : Hid (rowB c xs = xs.all vo.carB) := hid (by simp [rowB, h])
    have h2 : ((xs.length : Int) == c) = true := by simpa using h
    generalize xs.all vo.carB = q at *
    clear h
    generalize xs.length = l at *
    subst hv
    go_enter Try.func41, Try.ntmps41
    go_wp2_with fail
    refine HAll.out.mono ?_
    rintro e w1 ⟨rfl, b1⟩
    have HB1 := hid (HB.out.trans (b1.mono HB.out.size))
    clear b1
    go_wp2
    go_ret
    exact ⟨by rw [HF.out]; first | done | rfl, HB1.out⟩
  · have HF : Hid (rowB c xs = false) := hid (by simp [rowB, h])
    have h2 : ((xs.length : Int) == c) = false := by simpa using h
    clear h HAll
    generalize xs.length = l at *
    subst hv
    go_enter Try.func41, Try.ntmps41
    go_wp2
    go_ret
    exact ⟨by rw [HF.out]; first | done | rfl, HB.out⟩

theorem implNotRow (b : Nat) (c : Int) (f : Value) (hf : ∃ a n k, f = .slice a n k) (xs : List Int) (V : Value) (B : Nat) (w : World) (h0 : w.cell? ⟨b, 0, none⟩ = some (.func (.func 41) #[.agg #[.int .i64 c, f]] #[])) (ha : Ints w B V xs) (hB : B ≤ w.heap.size) (hn : xs.length ≤ 1099511627776) :
    Calls Try.prog 65 #[V, .pointer (some ⟨b, 0, none⟩)] w fun e w' => e = .returned (.bool (!(rowB c xs))) ∧ Below w.heap.size w w' := by
  have HR := hid (implRow c f hf xs V B w ha hB hn)
  obtain ⟨ao, cap, hv⟩ := ints_val ha
  clear ha
  generalize rowB c xs = q at *
  generalize xs.length = n at *
  subst hv
  go_enter Try.func65, Try.ntmps65
  go_wp2_with fail
  refine HR.out.mono ?_
  rintro e w1 ⟨rfl, b1⟩
  have HB1 := hid b1
  clear b1
  go_wp2
  go_ret
  exact ⟨rfl, HB1.out⟩

theorem implAllK (c : Int) (f : Value) (hf : ∃ a n k, f = .slice a n k) (xs : List (List Int)) (v : Value) (B : Nat) (w : World) (ha : ss.Rows w B v xs) (hB : B ≤ w.heap.size) (hq : nb.Small xs) :
    Calls Try.prog 40 #[.func (.func 41) #[.agg #[.int .i64 c, f]] #[], v] w fun e w' => e = .returned (.bool (xs.all (rowB c))) ∧ Below w.heap.size w w' := by
  have hal := (Below.refl w.heap.size w).alloc (Nat.le_refl _) (.cells #[.func (.func 41) #[.agg #[.int .i64 c, f]] #[]] 54)
  have h0 : (w.alloc (.cells #[.func (.func 41) #[.agg #[.int .i64 c, f]] #[]] 54)).cell? ⟨w.heap.size, 0, none⟩ = some (.func (.func 41) #[.agg #[.int .i64 c, f]] #[]) := World.cell?_alloc_at _ _ _ _ rfl
  have HC := hid (vr.contRows (fun x => !rowB c x) 65 #[.pointer (some ⟨w.heap.size, 0, none⟩)] xs v B (w.alloc (.cells #[.func (.func 41) #[.agg #[.int .i64 c, f]] #[]] 54)) (ha.al _) (by simp; omega) hq.len (fun _ _ => rfl) (fun k V W hk hb hi => implNotRow w.heap.size c f hf (xs.getD k []) V B W ((hb.cell (p := ⟨w.heap.size, 0, none⟩) (by simp)).trans h0) hi (by have := hb.size; simp at this; omega) (hq.short k hk)))
  have hqq := any_notK (rowB c) xs
  have HB := hid hal
  generalize (xs.any fun x => !rowB c x) = q at *
  obtain ⟨r, hr⟩ : ∃ r, r = xs.all (rowB c) := ⟨_, rfl⟩
  have hr2 : (!q) = r := by rw [hr]; exact hqq
  rw [← hr]
  have HR := hid hr2
  obtain ⟨a, n, k, rfl⟩ := hf
  obtain ⟨ao, cap, hv⟩ := rows_val ha
  clear hr hr2 hqq ha hal h0 hq
  generalize xs.length = n at *
  subst hv
  go_enter Try.func40, Try.ntmps40
  go_wp2_with fail
  refine HC.out.mono ?_
  rintro e w1 ⟨rfl, b1⟩
  have HB1 := hid (HB.out.trans (b1.mono HB.out.size))
  clear b1
  go_wp2
  go_ret
  exact ⟨by rw [← HR.out]; first | done | rfl, HB1.out⟩

theorem withinI (c lo hi : Int) (w : World) : Calls Try.prog 39 #[.int .i64 c, .int .i64 lo, .int .i64 hi] w fun e w' => e = .returned (.bool (decide (lo ≤ c ∧ c ≤ hi))) ∧ w = w' := by
  by_cases h1 : lo ≤ c <;> by_cases h2 : c ≤ hi <;>
    (go_enter Try.func39, Try.ntmps39
     go_wp2
     go_ret
     exact ⟨by simp [h1, h2], rfl⟩)

theorem implVC (c : Int) (xs : List (List Int)) (f : Value) (B : Nat) (w : World) (ha : ss.Rows w B f xs) (hB : B ≤ w.heap.size) (hq : nb.Small xs) :
    Calls Try.prog 13 #[.agg #[.int .i64 c, f]] w fun e w' => e = .returned (.bool (colB c xs)) ∧ Below w.heap.size w w' := by
  have hal := (Below.refl w.heap.size w).alloc (Nat.le_refl _) (.cells #[.int .i64 c, f] 27)
  obtain ⟨ao, cap, hv⟩ := rows_val ha
  have HAll := hid (implAllK c f ⟨_, _, _, hv⟩ xs f B (w.alloc (.cells #[.int .i64 c, f] 27)) (ha.al _) (by simp; omega) hq)
  have HB := hid hal
  have hln := hq.len
  clear ha hal hq
  have HF : Hid (colB c xs = (decide (1 ≤ c ∧ c ≤ 8) && (decide (1 ≤ (xs.length : Int) ∧ (xs.length : Int) ≤ 8) && xs.all (rowB c)))) := hid rfl
  generalize colB c xs = r at *
  generalize xs.all (rowB c) = q at *
  generalize xs.length = n at *
  subst hv
  have H1 := hid (fun w1 => show Calls Try.prog 38 #[.int .i64 c, .int .i64 1, .int .i64 8] w1 fun e w2 => e = .returned (.bool (decide (1 ≤ c ∧ c ≤ 8))) ∧ w1 = w2 from nd.within64 c 1 8 w1)
  have H2 := hid (fun w1 => show Calls Try.prog 39 #[.int .i64 (n : Int), .int .i64 1, .int .i64 8] w1 fun e w2 => e = .returned (.bool (decide (1 ≤ (n : Int) ∧ (n : Int) ≤ 8))) ∧ w1 = w2 from withinI n 1 8 w1)
  generalize decide (1 ≤ c ∧ c ≤ 8) = x at *
  generalize decide (1 ≤ (n : Int) ∧ (n : Int) ≤ 8) = y at *
  cases x with
  | false =>
    have HQ : Hid (r = false) := hid (by rw [HF.out]; rfl)
    clear HF HAll
    go_enter Try.func13, Try.ntmps13
    go_wp2_with fail
    refine (H1.out _).mono ?_
    rintro e w1 ⟨rfl, rfl⟩
    go_wp2
    go_ret
    exact ⟨by rw [HQ.out]; first | done | rfl, HB.out⟩
  | true =>
    cases y with
    | false =>
      have HQ : Hid (r = false) := hid (by rw [HF.out]; rfl)
      clear HF HAll
      go_enter Try.func13, Try.ntmps13
      go_wp2_with fail
      refine (H1.out _).mono ?_
      rintro e w1 ⟨rfl, rfl⟩
      go_wp2_with fail
      refine (H2.out _).mono ?_
      rintro e w1 ⟨rfl, rfl⟩
      go_wp2
      go_ret
      exact ⟨by rw [HQ.out]; first | done | rfl, HB.out⟩
    | true =>
      have HQ : Hid (r = q) := hid (by rw [HF.out]; rfl)
      clear HF
      go_enter Try.func13, Try.ntmps13
      go_wp2_with fail
      refine (H1.out _).mono ?_
      rintro e w1 ⟨rfl, rfl⟩
      go_wp2_with fail
      refine (H2.out _).mono ?_
      rintro e w1 ⟨rfl, rfl⟩
      go_wp2_with fail
      refine HAll.out.mono ?_
      rintro e w1 ⟨rfl, b1⟩
      have HB1 := hid (HB.out.trans (b1.mono HB.out.size))
      clear b1
      go_wp2
      go_ret
      exact ⟨by rw [HQ.out]; first | done | rfl, HB1.out⟩
end Go.Proofs.Ytnmnikpgjglonaa.cu
