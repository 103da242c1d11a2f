/-
  JoinBraids: the program's contract.
-/
import Derived.Test.YtedajefapddekaaWi
namespace Go.Proofs.Ytedajefapddekaa.br
open Go.RowKit Go.Proofs.Ytedajefapddekaa.sl Go.Proofs.Ytedajefapddekaa.pm Go.Proofs.Ytedajefapddekaa.bw Go.Proofs.Ytedajefapddekaa.fn
set_option linter.unusedVariables false

def jnOk (a b : Int) (xs ys : List Int) : Bool := okB a xs && okB b ys && decide (a = b) && decide (xs.length + ys.length ≤ 40)
def jnS (a b : Int) (xs ys : List Int) : Int := if jnOk a b xs ys = true then a else 0
def jnW (a b : Int) (xs ys : List Int) : List Int := if jnOk a b xs ys = true then xs ++ ys else []
def jnC (a b : Int) (xs ys : List Int) : Int := if okB a xs = false then 1 else if okB b ys = false then 1 else if ¬ a = b then 6 else if xs.length + ys.length ≤ 40 then 0 else 5
theorem jnW_len (a b : Int) (xs ys : List Int) : (jnW a b xs ys).length ≤ 1000 := by
  unfold jnW
  split
  · rename_i h
    simp only [jnOk, Bool.and_eq_true, decide_eq_true_eq] at h
    rw [List.length_append]; omega
  · simp
theorem jn_no {a b : Int} {xs ys : List Int} (h : jnOk a b xs ys = false) : jnS a b xs ys = 0 ∧ jnW a b xs ys = [] := by
  exact ⟨by rw [jnS, h]; rfl, by rw [jnW, h]; rfl⟩
theorem jn_join {a : Int} {xs ys : List Int} (h : okB a xs = true) (h2 : okB a ys = true) : joinS a [xs, ys] = jnS a a xs ys ∧ joinW a [xs, ys] = jnW a a xs ys ∧ joinC a [xs, ys] = jnC a a xs ys := by
  have hs := (ok_parts h).2.1
  have e : joinOk a [xs, ys] = jnOk a a xs ys := by
    simp only [joinOk, jnOk, h, h2, Bool.true_and, List.flatten_cons, List.flatten_nil, List.append_nil, List.length_append]
    rw [decide_eq_true hs]; simp
  refine ⟨by rw [joinS, jnS, e], by rw [joinW, jnW, e]; simp, ?_⟩
  rw [joinC, jnC, e, h, h2]
  simp only [jnOk, h, h2, Bool.true_and]
  simp
theorem wds_two (w : World) (B g : Nat) (a1 a2 : Option Addr) (c1 c2 : Nat) (xs ys : List Int) (h1 : w.cell? ⟨g, 0, none⟩ = some (.slice a1 xs.length c1)) (h2 : w.cell? ⟨g, 1, none⟩ = some (.slice a2 ys.length c2)) (i1 : Ints w B (.slice a1 xs.length c1) xs) (i2 : Ints w B (.slice a2 ys.length c2) ys) (n1 : NilOk (.slice a1 xs.length c1)) (n2 : NilOk (.slice a2 ys.length c2)) : Wds w B g [xs, ys] := by
  intro j hj
  match j, hj with
  | 0, _ => exact ⟨a1, c1, h1, i1, n1⟩
  | 1, _ => exact ⟨a2, c2, h2, i2, n2⟩
  | j + 2, hj => simp at hj; omega

/-- The code of a pair. -/
def jnP (a b : Int) (xs ys : List Int) : Int := if okB a xs = false then 1 else if okB b ys = false then 1 else if ¬ a = b then 6 else 0
theorem jnP_cases (a b : Int) (xs ys : List Int) : jnP a b xs ys = 1 ∨ jnP a b xs ys = 6 ∨ jnP a b xs ys = 0 := by
  unfold jnP; split
  · exact .inl rfl
  · split
    · exact .inl rfl
    · split
      · exact .inr (.inl rfl)
      · exact .inr (.inr rfl)
theorem jnP_err {a b : Int} {xs ys : List Int} (h : jnP a b xs ys ≠ 0) : jnOk a b xs ys = false ∧ jnC a b xs ys = jnP a b xs ys := by
  unfold jnP at h ⊢
  unfold jnC jnOk
  cases h1 : okB a xs
  · simp
  · cases h2 : okB b ys
    · simp
    · rw [h1, h2] at h
      have hab : ¬ a = b := fun e => h (by simp [e])
      simp [hab]
theorem jnP_ok {a b : Int} {xs ys : List Int} (h : jnP a b xs ys = 0) : okB a xs = true ∧ okB b ys = true ∧ a = b := by
  unfold jnP at h
  cases h1 : okB a xs
  · rw [h1] at h; simp at h
  · cases h2 : okB b ys
    · rw [h1, h2] at h; simp at h
    · rw [h1, h2] at h
      refine ⟨rfl, rfl, ?_⟩
      by_cases hab : a = b
      · exact hab
      · simp [hab] at h

set_option maxHeartbeats 2000000 in
theorem implPair (a b : Int) (xs ys : List Int) (v u : Value) (B C : Nat) (w : World) (ha : Ints w B v xs) (hB : B ≤ w.heap.size) (hb : Ints w C u ys) (hC : C ≤ w.heap.size) (hn : xs.length ≤ 1099511627776) (hm : ys.length ≤ 1099511627776) :
    Calls Try.prog 121 #[.agg #[.int .i64 a, v], .agg #[.int .i64 b, u]] w fun e w' => e = .returned (.int .i64 (jnP a b xs ys)) ∧ Below w.heap.size w w' := by
  obtain ⟨ao, cap, hv⟩ := ints_val ha
  obtain ⟨bo, dap, hu⟩ := ints_val hb
  subst hv
  subst hu
  have HX := hid ha
  have HY := hid hb
  clear ha hb
  have HV := hid (implValidB a xs (.slice ao xs.length cap) B ((w.alloc (.cells #[.int .i64 a, .slice ao xs.length cap] 39)).alloc (.cells #[.int .i64 b, .slice bo ys.length dap] 39)) (ints_al (ints_al HX.out _) _) (by simp; omega) hn)
  obtain ⟨p, hp⟩ : ∃ p, okB a xs = p := ⟨_, rfl⟩
  obtain ⟨q, hq⟩ : ∃ q, okB b ys = q := ⟨_, rfl⟩
  rw [hp] at HV
  have HC : Hid (jnP a b xs ys = if p = false then 1 else if q = false then 1 else if ¬ a = b then 6 else 0) := hid (by rw [jnP, hp, hq])
  generalize jnP a b xs ys = c at *
  have HQ := hid hq
  clear hp hq
  cases p
  · have HD : Hid (c = 1) := hid (by rw [HC.out, if_pos rfl])
    rw [HD.out]
    clear HC
    go_enter Try.func121, Try.ntmps121
    go_wp2_with fail
    refine HV.out.mono ?_
    rintro e w1 ⟨rfl, b1⟩
    have HB1 := hid (box2 b1).2.2.1
    clear b1 HV
    go_wp2
    go_ret
    exact ⟨rfl, HB1.out⟩
  · go_enter Try.func121, Try.ntmps121
    go_wp2_with fail
    refine HV.out.mono ?_
    rintro e w1 ⟨rfl, b1⟩
    have HB1 := hid (box2 b1)
    have d0 := HB1.out.1 0
    have d1 := HB1.out.1 1
    have e0 := (HB1.out.2.1 0).1
    have e1 := (HB1.out.2.1 1).1
    have hz := HB1.out.2.2.2
    simp at d0 d1 e0 e1
    have HBw := hid HB1.out.2.2.1
    have HY1 := hid (HY.out.chg (Chg.ofBelow (lo := 0) HBw.out) (.inr (Nat.zero_le _)))
    clear b1 HV HX HY HB1
    have HV2 := hid (implValidB b ys (.slice bo ys.length dap) C w1 HY1.out (by omega) hm)
    rw [HQ.out] at HV2
    go_wp2_with fail
    refine HV2.out.mono ?_
    rintro e w2 ⟨rfl, b2⟩
    have d0' := (b2.cell (p := ⟨w.heap.size, 0, none⟩) (by show w.heap.size < w1.heap.size; omega)).trans d0
    have e0' := (b2.cell (p := ⟨w.heap.size + 1, 0, none⟩) (by show w.heap.size + 1 < w1.heap.size; omega)).trans e0
    have HBw2 := hid (HBw.out.trans (b2.mono (by omega)))
    clear b2 HV2 HY1 HBw d0 d1 e0 e1
    cases q
    · have HD : Hid (c = 1) := hid (by rw [HC.out]; rfl)
      clear HC
      go_wp2
      go_ret
      exact ⟨by rw [HD.out]; rfl, HBw2.out⟩
    · by_cases hab : a = b
      · have HD : Hid (c = 0) := hid (by rw [HC.out]; simp [hab])
        subst hab
        clear HC
        go_wp2
        go_ret
        exact ⟨by rw [HD.out]; rfl, HBw2.out⟩
      · have HD : Hid (c = 6) := hid (by rw [HC.out]; simp [hab])
        have hab' : (a == b) = false := beq_eq_false_iff_ne.2 hab
        clear HC
        go_wp2
        go_ret
        exact ⟨by rw [HD.out]; rfl, HBw2.out⟩

end Go.Proofs.Ytedajefapddekaa.br
