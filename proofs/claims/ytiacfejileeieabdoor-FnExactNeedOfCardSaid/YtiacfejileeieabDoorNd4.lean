/-
  withOpen of the program: a copy in which the open group has Times; NeedOf.
-/
import Derived.Test.YtiacfejileeieabDoorCps
import Derived.Test.YtiacfejileeieabDoorNd3
import Derived.Test.YtiacfejileeieabDoorNd2
import Derived.Test.YtiacfejileeieabDoorPvk
namespace Go.Proofs.YtiacfejileeieabDoor.pc
open Go.RowKit Go.Sort Go.Proofs.YtiacfejileeieabDoor.sl Go.Proofs.YtiacfejileeieabDoor.st
set_option linter.unusedVariables false
set_option linter.unusedSimpArgs false

/-- The first k pieces with the open group closed. -/
def clT (t : Int) (xs : List V) : Nat → List V
  | 0 => xs
  | k + 1 => if opn (xs.getD k oz) = true then setT (clT t xs k) k t else clT t xs k
theorem clT_len (t : Int) (xs : List V) : ∀ k, (clT t xs k).length = xs.length
  | 0 => rfl
  | k + 1 => by
    rw [clT]
    split
    · rw [setT_len, clT_len]
    · exact clT_len t xs k
theorem clT_at (t : Int) (xs : List V) (j : Nat) (hj : j < xs.length) : ∀ k, (clT t xs k).getD j oz = if j < k then cls t (xs.getD j oz) else xs.getD j oz
  | 0 => by simp [clT]
  | k + 1 => by
    have ih := clT_at t xs j hj k
    by_cases hk : k = j
    · subst hk
      rw [if_neg (by omega)] at ih
      have e : (if k < k + 1 then cls t (xs.getD k oz) else xs.getD k oz) = cls t (xs.getD k oz) := if_pos (by omega)
      rw [e, clT]
      cases h : opn (xs.getD k oz)
      · simp only [Bool.false_eq_true, if_false]
        rw [ih, cls, h]; rfl
      · simp only [if_true]
        rw [setT_at _ _ _ (by rw [clT_len]; exact hj), ih, cls, h]; rfl
    · have e : (if j < k + 1 then cls t (xs.getD j oz) else xs.getD j oz) = if j < k then cls t (xs.getD j oz) else xs.getD j oz := by
        by_cases h : j < k
        · rw [if_pos h, if_pos (by omega)]
        · rw [if_neg h, if_neg (by omega)]
      rw [e, ← ih, clT]
      cases h : opn (xs.getD k oz)
      · simp only [Bool.false_eq_true, if_false]
      · simp only [if_true]
        exact setT_past _ _ _ _ (fun h => hk h.symm)
theorem clT_all (t : Int) (xs : List V) : clT t xs xs.length = wOp t xs := by
  apply List.ext_getElem
  · rw [clT_len, wOp_len]
  · intro j h1 h2
    rw [clT_len] at h1
    have h := clT_at t xs j h1 xs.length
    rw [if_pos h1] at h
    simp only [List.getD, List.getElem?_eq_getElem (show j < (clT t xs xs.length).length by rw [clT_len]; exact h1), List.getElem?_eq_getElem h1, Option.getD_some] at h
    rw [h]
    simp [wOp]

set_option maxHeartbeats 4000000 in
theorem withOpenC (t : Int) (xs : List V) (v : Value) (B : Nat) (w : World) (ha : OpsC w B v xs) (hB : B ≤ w.heap.size) (hq : Small xs) :
    Calls Tryd.prog 30 #[v, .int .i64 t] w fun e w' => ∃ v', e = .returned v' ∧ OOwn w' w.heap.size w'.heap.size v' (wOp t xs) ∧ Below w.heap.size w w' := by
  have hn := hq.len
  have HCl := hid (cloneE xs v B w ha.ops hB hq)
  have HAll := hid (clT_all t xs)
  have HL := hid (clT_len t xs)
  obtain ⟨ao, cap, hv⟩ := opsC_val ha
  clear ha hq
  rcases Nat.eq_zero_or_pos xs.length with h0 | hp
  · have hx : xs = [] := List.eq_nil_of_length_eq_zero h0
    subst hx
    subst hv
    go_enter Tryd.func30, Tryd.ntmps30
    go_wp2_with (go_at_call 56; refine HCl.out.mono ?_; rintro e w1 ⟨v1, rfl, o1, b1⟩; have HO1 := hid o1; have HB1 := hid b1; obtain ⟨ao1, cap1, hv1⟩ := rown_val o1; simp only [List.length_nil] at hv1; subst hv1; clear o1 b1)
    refine wp_loop_rounds 1 ?_
    rw [rounds_succ]
    go_wp2
    go_ret
    exact ⟨_, rfl, HO1.out.oown, HB1.out⟩
  · have HAt := hid (fun j hj k => clT_at t xs j hj k)
    have HSt : Hid (∀ k, clT t xs (k + 1) = if opn (xs.getD k oz) = true then setT (clT t xs k) k t else clT t xs k) := hid (fun _ => rfl)
    obtain ⟨n, hnn⟩ : ∃ n, n = xs.length := ⟨_, rfl⟩
    rw [← hnn] at hn hp hv HAll HL HAt
    have HNN := hid hnn
    clear hnn
    subst hv
    go_enter Tryd.func30, Tryd.ntmps30
    go_wp2_with (go_at_call 56; refine HCl.out.mono ?_; rintro e w1 ⟨v1, rfl, o1, b1⟩; have HO1 := hid o1; have HB1 := hid b1; obtain ⟨g, cap1, hv1, hg1, hg2⟩ := o1.addr (by rw [← HNN.out]; exact hp); rw [← HNN.out] at hv1; subst hv1; clear o1 b1)
    have hz1 := HB1.out.size
    go_loopw [12] (fun i wr => ∃ (k : Nat), k ≤ n ∧ i = .int .i64 k ∧ ROwn wr w.heap.size wr.heap.size (.slice (some ⟨g, 0, none⟩) n cap1) (clT t xs k) ∧ Below w.heap.size w wr) (fun i _ => n - (intOf i).toNat)
    case atStart => exact ⟨0, Nat.zero_le _, rfl, HO1.out, HB1.out⟩
    case round =>
      obtain ⟨k, hk, rfl, hro, hbr⟩ := hrel
      have HRo := hid hro
      have HBr := hid hbr
      have hzr := hbr.size
      clear hro hbr
      by_cases hlt : k < n
      · obtain ⟨hA, hfr⟩ := HRo.out.at' k (by rw [HL.out]; exact hlt)
        have HR2 := hid (fun (W : World) (b : Below wr.heap.size wr W) => HRo.out.up b (Nat.le_refl _))
        have hx := HAt.out k hlt k
        rw [if_neg (by omega)] at hx
        rw [hx] at hA
        have HA2 := hid (fun (W : World) (b : Below wr.heap.size wr W) => ((HR2.out W b).at' k (by rw [HL.out]; exact hlt)))
        rw [hx] at HA2
        have HO := hid (fun W => isOpenC (xs.getD k oz) W)
        have HS1 := HSt.out k
        have HSet := hid (fun (W : World) (b : Below wr.heap.size wr W) => (HR2.out W b).storeT (HL.out k).symm k t (by rw [HL.out]; exact hlt))
        clear hx hfr
        generalize xs.getD k oz = x at *
        generalize opn x = q at *
        have c0 := hA.c0
        have c1 := hA.c1
        have c2 := hA.c2
        obtain ⟨x0, x1, x2⟩ := x
        simp only [V.val] at c0 c1 c2 HO
        clear hA
        have HAl := hid ((Below.refl wr.heap.size wr).alloc (Nat.le_refl _) (.cells #[.int .i64 x0, .int .i64 x1, .int .i64 x2] 51))
        cases q with
        | false =>
          have HS2 : Hid (clT t xs (k + 1) = clT t xs k) := hid (by rw [HS1]; simp)
          clear HS1
          go_wp2_with (go_at_call 57; refine (HO.out _).mono ?_; rintro e w2 ⟨rfl, b1⟩; have HB2 := hid (HAl.out.trans (b1.mono HAl.out.size)); clear b1)
          go_roundw
          case rel => exact ⟨k + 1, by omega, by go_num, by rw [HS2.out]; exact HR2.out _ HB2.out, HBr.out.trans (HB2.out.mono hzr)⟩
          case measure => simp [intOf]; omega
        | true =>
          have HS2 : Hid (clT t xs (k + 1) = setT (clT t xs k) k t) := hid (by rw [HS1]; simp)
          clear HS1
          go_wp2_with (go_at_call 57; refine (HO.out _).mono ?_; rintro e w2 ⟨rfl, b1⟩; have HB2 := hid (HAl.out.trans (b1.mono HAl.out.size)); obtain ⟨hA2, fr2⟩ := HA2.out _ HB2.out; have e1 := hA2.c1; clear b1 hA2)
          go_roundw
          case rel =>
            refine ⟨k + 1, by omega, by go_num, ?_, ?_⟩
            · rw [HS2.out]; simpa using HSet.out _ HB2.out
            · exact (HBr.out.trans (HB2.out.mono hzr)).setCell (p := ⟨g, k * 3 + 1, none⟩) hg1 _
          case measure => simp [intOf]; omega
      · obtain rfl : k = n := by omega
        go_wp2
        go_ret
        exact ⟨_, rfl, by rw [← HAll.out]; exact HRo.out.oown, HBr.out⟩
set_option maxHeartbeats 4000000 in
theorem implNd (xs : List V) (v : Value) (B : Nat) (w : World) (ha : OpsC w B v xs) (hB : B ≤ w.heap.size) (hq : Small xs) (hT : stb.Tab w) :
    Calls Tryd.prog 10 #[v] w fun e w' => e = .returned (.tuple #[.int .i64 (ndA xs), .int .i64 (ndB xs), .bool (okP xs)]) ∧ Below w.heap.size w w' := by
  have HV := hid (implVP xs v B w ha hB hq)
  cases hok : okP xs
  · obtain ⟨f1, f2⟩ := nd_no hok
    have HF := hid f1
    have HG := hid f2
    rw [hok] at HV
    obtain ⟨ao, cap, rfl⟩ := opsC_val ha
    clear ha hok f1 f2 hq hT
    generalize xs.length = n at *
    go_enter Tryd.func10, Tryd.ntmps10
    go_wp2_with (go_at_call 27; refine HV.out.mono ?_; rintro e w1 ⟨rfl, b1⟩; have HB1 := hid b1; clear b1)
    refine bodyPost_ret (v := .tuple #[.int .i64 0, .int .i64 0, .bool false]) (by simp [results, Tryd.results10, go_sem]) rfl ⟨?_, ?_⟩
    · rw [HF.out, HG.out]
    · exact HB1.out
  · obtain ⟨f1, f2⟩ := nd_yes hok
    obtain ⟨p1, p2, p3⟩ := okP_parts hok
    rw [hok] at HV
    have hs := sumP_w tk 1 xs.length xs rfl p2 p3
    rw [Int.one_mul] at hs
    have q2 := arP_w 1 (by omega) xs.length xs rfl p2
    have bd1 := sum_b p2
    have bd2 := sum_b q2
    rw [wOp_len, hs] at bd2
    have HA := hid ha
    have HT := hid hT
    have HS1 := hid (fun W (b : Below w.heap.size w W) => show Calls Tryd.prog 28 #[v, .func (.func 29) #[] #[]] W fun e w' => e = .returned (.int .i64 (sumP tk xs)) ∧ Below W.heap.size W w' from sumOverC xs.length xs v B 0 W rfl (HA.out.below b) (Nat.le_trans hB b.size) p1 p2 (stb.carry HT.out b))
    have HW := hid (fun W (b : Below w.heap.size w W) => withOpenC 1 xs v B W (HA.out.below b) (Nat.le_trans hB b.size) hq)
    have HS2 := hid (fun u W (b : Below w.heap.size w W) (o : OpsC W W.heap.size u (wOp 1 xs)) => show Calls Tryd.prog 28 #[u, .func (.func 29) #[] #[]] W fun e w' => e = .returned (.int .i64 (sumP tk xs + sumP tk (part xs))) ∧ Below W.heap.size W w' from by
      have h := sumOverC (wOp 1 xs).length (wOp 1 xs) u W.heap.size 0 W rfl o (Nat.le_refl _) (by rw [wOp_len]; exact p1) q2 (stb.carry HT.out b)
      rw [hs] at h
      exact h)
    have hwl := wOp_len 1 xs
    obtain ⟨ao, cap, hv⟩ := opsC_val ha
    have HF := hid f1
    have HG := hid f2
    clear ha hok f1 f2 hq hT hs q2
    generalize sumP tk xs = s1 at *
    generalize sumP tk (part xs) = s2 at *
    obtain ⟨n, hn⟩ : ∃ n, n = xs.length := ⟨_, rfl⟩
    rw [← hn] at hv p1 bd1 bd2 hwl
    have hw1 : IntKind.i64.wrap (s1 + s2 - s1) = s2 := by rw [show s1 + s2 - s1 = s2 from by omega]; exact IntWalk.i64_in _ (by omega)
    clear hn p2 p3 bd1 bd2
    generalize hW : wOp 1 xs = ws at *
    obtain ⟨wl, hwl2⟩ : ∃ wl, wl = ws.length := ⟨_, rfl⟩
    have HWL := hid hwl2
    clear hwl2 hwl hW
    subst hv
    go_enter Tryd.func10, Tryd.ntmps10
    go_wp2_with fail
    refine HV.out.mono ?_
    rintro e w1 ⟨rfl, b1⟩
    have HB1 := hid b1
    have hs1 := b1.size
    clear b1
    go_wp2_with fail
    refine (HS1.out _ HB1.out).mono ?_
    rintro e w2 ⟨rfl, b2⟩
    have HB2 := hid (HB1.out.trans (b2.mono hs1))
    have hs2 := HB2.out.size
    clear b2
    go_wp2_with fail
    refine (HW.out _ HB2.out).mono ?_
    rintro e w3 ⟨u, rfl, ou, b3⟩
    have HB3 := hid (HB2.out.trans (b3.mono hs2))
    have hs3 := HB3.out.size
    have HO3 := hid ou.c
    obtain ⟨uo, uc, hu⟩ := opsC_val ou.c
    rw [← HWL.out] at hu
    clear b3 ou
    subst hu
    go_wp2_with fail
    refine (HS2.out _ _ HB3.out HO3.out).mono ?_
    rintro e w4 ⟨rfl, b4⟩
    have HB4 := hid (HB3.out.trans (b4.mono hs3))
    clear b4
    go_wp2
    refine bodyPost_ret (v := .tuple #[.int .i64 s1, .int .i64 s2, .bool true]) (by simp [results, Tryd.results10, go_sem]) rfl ⟨?_, ?_⟩
    · rw [HF.out, HG.out]
    · exact HB4.out
end Go.Proofs.YtiacfejileeieabDoor.pc
