/-
  FreeJoin: contracts of both sides.
-/
import Derived.Test.YtfechjhngcmdpabFr5
import Derived.Test.YtfechjhngcmdpabCc
namespace Go.Proofs.Ytfechjhngcmdpab.fr
open Go.RowKit Go.Proofs.Ytfechjhngcmdpab.sl Go.Proofs.Ytfechjhngcmdpab.pm Go.Proofs.Ytfechjhngcmdpab.bw Go.Proofs.Ytfechjhngcmdpab.br Go.Proofs.Ytfechjhngcmdpab.fv Go.Proofs.Ytfechjhngcmdpab.fn
set_option linter.unusedVariables false

def pTo (st xs : List Int) (k : Nat) : List Int := (xs.take k).foldl bw.push st
theorem pTo_all (st xs : List Int) : pTo st xs xs.length = xs.foldl bw.push st := by simp [pTo]
theorem pTo_succ (st xs : List Int) (k : Nat) (h : k < xs.length) : pTo st xs (k + 1) = bw.push (pTo st xs k) (xs.getD k 0) := by
  rw [pTo, take_snoc xs k h, List.foldl_append]; rfl
theorem pTo_len (st xs : List Int) (k : Nat) (h : k ≤ xs.length) : (pTo st xs k).length ≤ st.length + k := by
  induction k with
  | zero => simp [pTo]
  | succ k ih =>
    rw [pTo_succ st xs k (by omega)]
    have := push_len (pTo st xs k) (xs.getD k 0)
    have := ih (by omega)
    omega

set_option maxHeartbeats 800000 in
theorem specPush (st xs : List Int) (u0 v : Value) (lo B : Nat) (w : World) (ho : sl.Own w lo w.heap.size u0 st) (hlo : lo ≤ w.heap.size) (ha : Ints w B v xs) (hB : B ≤ lo) (hn : xs.length ≤ 1000000) (hst : st.length ≤ 1000000) (hb : ∀ j, j < xs.length → -100 ≤ xs.getD j 0 ∧ xs.getD j 0 ≤ 100) :
    Calls Try.prog 58 #[u0, v] w fun e w' => ∃ v', e = .returned v' ∧ sl.Own w' lo w'.heap.size v' (xs.foldl bw.push st) ∧ Below lo w w' := by
  have HO0 := hid ho
  obtain ⟨a0, c0, hu0⟩ := br.own_val ho
  obtain ⟨l0, hl0⟩ : ∃ l, l = st.length := ⟨_, rfl⟩
  rw [← hl0] at hu0
  have HL0 := hid hl0
  subst hu0
  clear ho hl0
  rcases ha with ⟨rfl, ao, cap, rfl⟩ | ⟨hp, b, off, cap, rfl, hbb, hc⟩
  · go_enter Try.func58, Try.ntmps58
    go_wp2
    refine wp_loop_rounds 1 ?_
    rw [rounds_succ]
    go_wp2
    go_ret
    exact ⟨_, rfl, HO0.out, Below.refl _ _⟩
  · obtain ⟨n, hnn⟩ : ∃ n, n = xs.length := ⟨_, rfl⟩
    rw [← hnn] at hp hc hn hb ⊢
    have HN := hid hnn
    have HC := hid hc
    have HBd := hid hb
    clear hnn hc hb
    go_enter Try.func58, Try.ntmps58
    go_wp2
    go_loopw [0, 5] (fun u i wr => ∃ k : Nat, k ≤ n ∧ i = .int .i64 k ∧ sl.Own wr lo wr.heap.size u (pTo st xs k) ∧ Below lo w wr)
      (fun _ i _ => n - (intOf i).toNat)
    case atStart => exact ⟨0, Nat.zero_le _, rfl, HO0.out, Below.refl _ _⟩
    case round =>
      obtain ⟨k, hk, rfl, hown, hbel⟩ := hrel
      have HO := hid hown
      have HB := hid hbel
      have hsz := hbel.size
      obtain ⟨ao2, cap2, rfl⟩ := br.own_val hown
      by_cases hlt : k < n
      · have hbx := HBd.out k hlt
        have h1 : wr.cell? ⟨b, off + k, none⟩ = some (.int .i64 (xs.getD k 0)) := (HB.out.cell (p := ⟨b, off + k, none⟩) (by show b < _; omega)).trans (HC.out k hlt)
        have HS := hid (pTo_succ st xs k (by rw [← HN.out]; exact hlt))
        have hle := pTo_len st xs k (by rw [← HN.out]; omega)
        generalize xs.getD k 0 = x at *
        by_cases h0 : pTo st xs k = []
        · rw [h0] at HO HS
          rw [h0, List.length_nil]
          have HP : Hid (pTo st xs (k + 1) = [] ++ [x]) := hid (by rw [HS.out]; rfl)
          clear hown hbel h0 HS hle
          go_wp2
          go_quiet (fail)
          have HO' : Hid (sl.Own (wr.drewN nq) lo (wr.drewN nq).heap.size (.slice ao2 0 cap2) []) := hid (HO.out.drewN nq)
          have HB' : Hid (Below lo w (wr.drewN nq)) := hid (bdrewN HB.out nq)
          have h1' : (wr.drewN nq).cell? ⟨b, off + k, none⟩ = some (.int .i64 x) := h1
          have hsz' : lo ≤ (wr.drewN nq).heap.size := Nat.le_trans hlo hsz
          generalize wr.drewN nq = wq at *
          clear h1 hsz HO HB
          go_wp2_with (at_builtin; refine wp_append rfl _ _ rfl lo wq.heap.size _ [] x HO'.out rfl rfl hsz' (by simp) ?_; intro v' w1 hown1 hchg1 hsz1)
          have HO1 := hid hown1
          have HB1 := hid (HB'.out.trans (hchg1.below (Nat.le_refl _) hsz'))
          clear hown1 hchg1
          go_wp2
          go_roundw
          case rel => exact ⟨k + 1, by omega, by go_num, by rw [HP.out]; exact HO1.out, HB1.out⟩
          case measure => simp [intOf]; omega
        · obtain ⟨m, hm⟩ : ∃ m, (pTo st xs k).length = m + 1 := ⟨(pTo st xs k).length - 1, by have := List.length_pos_iff.2 h0; omega⟩
          obtain ⟨g, hg⟩ : ∃ g, ao2 = some ⟨g, 0, none⟩ := by
            rcases hown.1.2 with ⟨h, h1⟩ | ⟨g, c, cur, h, _⟩
            · omega
            · cases h; exact ⟨g, rfl⟩
          subst hg
          have h2 := (hown.at' m (by omega)).1
          have hcc := (own_caps hown).1
          have hcm := (own_caps hown).2
          have HL := hid hm
          rw [hm] at HO hle hcc ⊢
          clear hown hbel h0 hm
          by_cases he : (pTo st xs k).getD m 0 = -x
          · have HP : Hid (pTo st xs (k + 1) = (pTo st xs k).take m) := hid (by rw [HS.out]; exact push_pop _ x m HL.out he)
            rw [he] at h2
            clear he
            go_wp2
            go_quiet (fail)
            have HB' : Hid (Below lo w (wr.drewN nq)) := hid (bdrewN HB.out nq)
            have hc := own_cut (HO.out.drewN nq) (m := m) (by rw [HL.out]; omega)
            have HO' := hid (hc.hi (hi' := (wr.drewN nq).heap.size) (Nat.le_refl _) (Nat.le_refl _))
            clear hc
            generalize wr.drewN nq = wq at *
            go_wp2
            go_roundw
            case rel => exact ⟨k + 1, by omega, by go_num, by rw [HP.out]; exact HO'.out, HB'.out⟩
            case measure => simp [intOf]; omega
          · have HP : Hid (pTo st xs (k + 1) = pTo st xs k ++ [x]) := hid (by rw [HS.out]; exact push_app _ x m HL.out he)
            have hd : ((pTo st xs k).getD m 0 == -x) = false := by simpa using he
            clear he
            generalize (pTo st xs k).getD m 0 = y at *
            go_wp2
            go_quiet (fail)
            have HO' := hid (HO.out.drewN nq)
            have HB' : Hid (Below lo w (wr.drewN nq)) := hid (bdrewN HB.out nq)
            have h1' : (wr.drewN nq).cell? ⟨b, off + k, none⟩ = some (.int .i64 x) := h1
            have hsz' : lo ≤ (wr.drewN nq).heap.size := Nat.le_trans hlo hsz
            have HO'' : Hid (sl.Own (wr.drewN nq) lo (wr.drewN nq).heap.size (.slice (some ⟨g, 0, none⟩) (m + 1) cap2) (pTo st xs k)) := HO'
            generalize wr.drewN nq = wq at *
            clear h1 h2 hsz HO HB HO'
            go_wp2_with (at_builtin; refine wp_append rfl _ _ rfl lo wq.heap.size _ (pTo st xs k) x HO''.out rfl rfl hsz' (by rw [HL.out]; omega) ?_; intro v' w1 hown1 hchg1 hsz1)
            have HO1 := hid hown1
            have HB1 := hid (HB'.out.trans (hchg1.below (Nat.le_refl _) hsz'))
            clear hown1 hchg1
            go_wp2
            go_roundw
            case rel => exact ⟨k + 1, by omega, by go_num, by rw [HP.out]; exact HO1.out, HB1.out⟩
            case measure => simp [intOf]; omega
      · obtain rfl : k = n := by omega
        have HS : Hid (pTo st xs k = xs.foldl bw.push st) := hid (by rw [HN.out]; exact pTo_all st xs)
        clear hown hbel
        generalize (pTo st xs k).length = m at *
        go_wp2
        go_ret
        exact ⟨_, rfl, by rw [← HS.out]; exact HO.out, HB.out⟩



/-! ### FreeJoin -/
def fjC (n : Int) (xs ys : List Int) : Int := if frB n xs = false then 1 else if frB n ys = false then 1 else if (redL (xs ++ ys)).length ≤ 20000 then 0 else 5
def fjW (n : Int) (xs ys : List Int) : List Int := if fjC n xs ys = 0 then redL (xs ++ ys) else []
theorem fj_one {n : Int} {xs ys : List Int} (h : frB n xs = false) : fjC n xs ys = 1 ∧ fjW n xs ys = [] := by
  have : fjC n xs ys = 1 := by rw [fjC, if_pos h]
  exact ⟨this, by rw [fjW, this]; rfl⟩
theorem fj_two {n : Int} {xs ys : List Int} (h : frB n xs = true) (h2 : frB n ys = false) : fjC n xs ys = 1 ∧ fjW n xs ys = [] := by
  have : fjC n xs ys = 1 := by rw [fjC, if_neg (by rw [h]; simp), if_pos h2]
  exact ⟨this, by rw [fjW, this]; rfl⟩
theorem fj_full {n : Int} {xs ys : List Int} (h : frB n xs = true) (h2 : frB n ys = true) (h3 : ¬ (redL (xs ++ ys)).length ≤ 20000) : fjC n xs ys = 5 ∧ fjW n xs ys = [] := by
  have : fjC n xs ys = 5 := by rw [fjC, if_neg (by rw [h]; simp), if_neg (by rw [h2]; simp), if_neg h3]
  exact ⟨this, by rw [fjW, this]; rfl⟩
theorem fj_ok {n : Int} {xs ys : List Int} (h : frB n xs = true) (h2 : frB n ys = true) (h3 : (redL (xs ++ ys)).length ≤ 20000) : fjC n xs ys = 0 ∧ fjW n xs ys = redL (xs ++ ys) := by
  have : fjC n xs ys = 0 := by rw [fjC, if_neg (by rw [h]; simp), if_neg (by rw [h2]; simp), if_pos h3]
  exact ⟨this, by rw [fjW, this]; rfl⟩
theorem fj_len (n : Int) (xs ys : List Int) : (fjW n xs ys).length ≤ 20000 := by
  by_cases h : fjC n xs ys = 0
  · rw [fjW, if_pos h]
    unfold fjC at h
    split at h
    · omega
    · split at h
      · omega
      · split at h
        · assumption
        · omega
  · rw [fjW, if_neg h]; simp
theorem small_app {xs ys : List Int} (h : Small xs) (h2 : Small ys) : Small (xs ++ ys) := fun j hj => by
  rw [List.length_append] at hj
  by_cases hx : j < xs.length
  · rw [show (xs ++ ys).getD j 0 = xs.getD j 0 from by simp [List.getD, List.getElem?_append_left hx]]; exact h j hx
  · rw [show (xs ++ ys).getD j 0 = ys.getD (j - xs.length) 0 from by simp [List.getD, List.getElem?_append_right (show xs.length ≤ j by omega)]]; exact h2 _ (by omega)
theorem two_wds (w : World) (B g : Nat) (a1 a2 : Option Addr) (c1 c2 : Nat) (xs ys : List Int) (h1 : w.cell? ⟨g, 0, none⟩ = some (.slice a1 xs.length c1)) (h2 : w.cell? ⟨g, 1, none⟩ = some (.slice a2 ys.length c2)) (i1 : Ints w B (.slice a1 xs.length c1) xs) (i2 : Ints w B (.slice a2 ys.length c2) ys) (n1 : NilOk (.slice a1 xs.length c1)) (n2 : NilOk (.slice a2 ys.length c2)) : Wds w B g [xs, ys] := by
  intro j hj
  match j, hj with
  | 0, _ => exact ⟨a1, c1, h1, i1, n1⟩
  | 1, _ => exact ⟨a2, c2, h2, i2, n2⟩
  | j + 2, hj => simp at hj; omega
theorem quiet_free (n : Int) (xs : List Int) (q : Bool) (hq : frB n xs = q) (v : Value) (B : Nat) (w : World) (ha : Ints w B v xs) (hn : xs.length ≤ 1099511627776) :
    Calls Try.prog 31 #[.int .i64 n, v] w fun e w' => e = .returned (.bool q) ∧ w = w' :=
  (specFreeOk n xs v B w ha hn).mono fun _ _ h => ⟨by rw [h.1, hq], h.2⟩

end Go.Proofs.Ytfechjhngcmdpab.fr
