/-
  The word of a permutation braid: contracts of the model's word and of the program's letters.
-/
import Derived.Test.YtfechjhngcmdpabH3
import Derived.Test.YtfechjhngcmdpabRed
namespace Go.Proofs.Ytfechjhngcmdpab.fn
open Go.RowKit Go.Proofs.Ytfechjhngcmdpab.sl Go.Proofs.Ytfechjhngcmdpab.pm

theorem own4 (xs : List Int) (v : Value) (B : Nat) (w : World) (ha : Ints w B v xs) (hnil : NilOk v) (hn : xs.length ≤ 1099511627776) :
    Calls Try.prog 73 #[v] w fun e w' => ∃ v', e = .returned v' ∧ Own w' w.heap.size w'.heap.size v' xs ∧ Below w.heap.size w w' := by
  have ha2 : Ints (w.alloc (.cells #[] 2)) B v xs := ha.chg (Chg.ofBelow (lo := 0) ((Below.refl w.heap.size w).alloc (Nat.le_refl _) _)) (.inr (Nat.zero_le _))
  go_enter Try.func73, Try.ntmps73
  go_wp2_with (at_builtin; refine wp_appendAll rfl _ _ rfl w.heap.size _ _ [] (Own.built w #[] rfl) rfl v xs B ha2 hnil rfl (by simp) (by simp; omega) ?_; intro v' w1 o1 c1)
  go_ret
  refine ⟨v', rfl, by simpa using o1, ?_⟩
  exact ((Below.refl w.heap.size w).alloc (Nat.le_refl _) (.cells #[] 2)).trans (c1.below (B := w.heap.size) (by omega) (by simp))

theorem specBefore (p : List Int) (k : Nat) (v : Value) (B : Nat) (w : World) (ha : Ints w B v p) (hB : B ≤ w.heap.size) (hnil : NilOk v) (hn : p.length ≤ 1099511627776) (hk : k + 1 < p.length) :
    Calls Try.prog 75 #[.int .i64 ((k : Int) + 1), v] w fun e w' => ∃ v', e = .returned v' ∧ Own w' w.heap.size w'.heap.size v' (swapAt p k) ∧ Below w.heap.size w w' := by
  have HA := hid ha
  have HNL := hid hnil
  rcases ha with ⟨rfl, ao, cap, rfl⟩ | ⟨hp, b, off, cap, rfl, hb', hc⟩
  · simp at hk
  · have HC : Hid (∀ j, j < p.length → w.cell? ⟨b, off + j, none⟩ = some (.int .i64 (p.getD j 0))) := hid hc
    clear hc hnil
    go_enter Try.func75, Try.ntmps75
    go_wp2_with fail
    refine (own4 p _ _ w HA.out HNL.out hn).mono ?_
    rintro e w1 ⟨v1, rfl, o1, b1⟩
    obtain ⟨g, c1, rfl, hg1, hg2⟩ := own_slice o1 hp
    have HO := hid o1
    have HB := hid b1
    have hz := b1.size
    clear o1 b1 HA HNL
    obtain ⟨n, hnn⟩ : ∃ n, n = p.length := ⟨_, rfl⟩
    have HN := hid hnn
    have e1 : w1.cell? ⟨b, off + (k + 1), none⟩ = some (.int .i64 (p.getD (k + 1) 0)) := (HB.out.cell (p := ⟨b, off + (k + 1), none⟩) (by show b < _; omega)).trans (HC.out (k + 1) hk)
    have e0 : w1.cell? ⟨b, off + k, none⟩ = some (.int .i64 (p.getD k 0)) := (HB.out.cell (p := ⟨b, off + k, none⟩) (by show b < _; omega)).trans (HC.out k (by omega))
    have q0 := (HO.out.at' k (by omega)).1
    have q1 := (HO.out.at' (k + 1) (by omega)).1
    have f0 := (HO.out.at' k (by omega)).2
    have f1 := (HO.out.at' (k + 1) (by omega)).2
    have SW := hid (swapWorld HO.out k)
    have hbg : b ≠ g := by omega
    rw [← hnn] at hk hn ⊢
    generalize p.getD k 0 = x at *
    generalize p.getD (k + 1) 0 = y at *
    clear hnn
    go_wp2
    go_ret
    exact ⟨_, rfl, by have h := SW.out.1; rw [← HN.out] at h; exact h.hi (by simp) (by simp), (HB.out.setCell (by simpa using hg1) _).setCell (by simpa using hg1) _⟩

def upW (ws : List Int) : List Int := ws.map (· + 1)
theorem upW_len (ws : List Int) : (upW ws).length = ws.length := by simp [upW]
theorem upW_snoc (ws : List Int) (k : Int) : upW (ws ++ [k]) = upW ws ++ [k + 1] := by simp [upW]

set_option maxHeartbeats 1000000 in
theorem specWord4 (p : List Int) (v : Value) (B : Nat) (w : World) (ha : Ints w B v p) (hnil : NilOk v) (_hB : B ≤ w.heap.size) (hn : p.length ≤ 1048576) :
    Calls Try.prog 39 #[v] w fun e w' => ∃ v', e = .returned v' ∧ Own w' w.heap.size w'.heap.size v' (upW (redW p)) ∧ Below w.heap.size w w' := by
  have HA2 : Hid (Ints (w.alloc (.cells #[] 2)) B v p) := hid (ha.chg (Chg.ofBelow (lo := 0) ((Below.refl w.heap.size w).alloc (Nat.le_refl _) _)) (.inr (Nat.zero_le _)))
  have HNL := hid hnil
  have hil := inv_le p
  have hin : inv p ≤ 1099511627776 := Nat.le_trans hil (Nat.mul_le_mul hn hn)
  clear hil ha hnil
  go_enter Try.func39, Try.ntmps39
  go_wp2_with fail
  refine (own4 p v B _ HA2.out HNL.out (by omega)).mono ?_
  rintro e w1 ⟨v1, rfl, o1, b1⟩
  have HO1 : Hid (Own w1 (w.heap.size + 1) w1.heap.size v1 p) := hid (by simpa using o1)
  have HW1 : Hid (Own w1 w.heap.size (w.heap.size + 1) (.slice (some ⟨w.heap.size, 0, none⟩) 0 0) []) := hid ((built1 w).chg (Chg.ofBelow (lo := 0) b1) (.inr (.inr (Nat.zero_le _))))
  have HB1 : Hid (Below w.heap.size w w1) := hid (((Below.refl w.heap.size w).alloc (Nat.le_refl _) _).trans (b1.mono (by simp)))
  have hz1 : w.heap.size + 1 ≤ w1.heap.size := by simpa using b1.size
  clear o1 b1 HA2 HNL
  go_wp2
  go_loopw [3, 4] (fun u r wr => ∃ (cur ws : List Int) (f m : Nat), Srt p cur ws f ∧ Own wr w.heap.size m u (upW ws) ∧ Own wr m wr.heap.size r cur ∧ w.heap.size ≤ m ∧ Below w.heap.size w wr)
    (fun u _ _ => inv p - lenOf u)
  case atStart => exact ⟨p, [], inv p, w.heap.size + 1, sort_start p, HW1.out, HO1.out, by omega, HB1.out⟩
  case round =>
    obtain ⟨cur, ws, f, m, hsrt, hw, hr, hm, hbel⟩ := hrel
    have HS := hid hsrt
    have HW := hid hw
    have HR := hid hr
    have HB := hid hbel
    have zr := hbel.size
    have zm := hw.2.2
    have hcl : cur.length ≤ 1048576 := by rw [hsrt.2.2.2]; exact hn
    have hwl : ws.length ≤ inv p := by have := hsrt.2.2.1; omega
    have HLU := hid (lenOf_own hw)
    clear hsrt hw hr hbel HO1 HW1 HB1
    go_wp2_with fail
    refine (specStart cur _ _ wr HR.out.ints (Nat.le_refl _) (by omega)).mono ?_
    rintro e w2 ⟨v2, rfl, o2, b2⟩
    have HD := hid o2
    have HW2 := hid (HW.out.chg (Chg.ofBelow (lo := 0) b2) (.inr (.inr (Nat.zero_le _))))
    have HR2 := hid (HR.out.chg (Chg.ofBelow (lo := 0) b2) (.inr (.inr (Nat.zero_le _))))
    have HB2 := hid (HB.out.trans (b2.mono zr))
    have z2 := b2.size
    clear o2 b2 HW HR HB
    cases hds : descL cur with
    | nil =>
      have HFin := hid (sort_end p cur ws f HS.out ((descL_nil cur).1 hds))
      obtain ⟨ad, cd, hvd⟩ := own_val HD.out
      have hl0 : (startL cur).length = 0 := by rw [startL, hds]; rfl
      rw [hl0] at hvd
      rw [hvd]
      clear hds hvd hcl hl0
      go_wp2
      go_ret
      exact ⟨_, rfl, by rw [← HFin.out]; exact (HW2.out.hi (by omega) (Nat.le_refl _)), HB2.out⟩
    | cons x t =>
      obtain ⟨k, hxk, hk1, hnd, hdk⟩ := descL_cons cur x t hds
      obtain ⟨f', _, hst⟩ := sort_step p cur ws f k HS.out hk1 hnd hdk
      have HST := hid hst
      have hwl' : (ws ++ [(k : Int)]).length ≤ inv p := by have := hst.2.2.1; omega
      clear hst hnd hdk HS
      subst hxk
      have hsl : startL cur = ((k : Int) + 1) :: t.map (· + 1) := by rw [startL, hds]; rfl
      rw [hsl] at HD
      clear hds hsl
      obtain ⟨gd, cd, hvd, hg1, hg2⟩ := own_slice HD.out (by simp)
      obtain ⟨L, hL⟩ : ∃ L, L = (((k : Int) + 1) :: t.map (· + 1)).length := ⟨_, rfl⟩
      rw [← hL] at hvd
      have hL0 : 0 < L := by rw [hL]; simp
      subst hvd
      have hc0 : w2.cell? ⟨gd, 0, none⟩ = some (.int .i64 ((k : Int) + 1)) := by have := (HD.out.at' 0 (by simp)).1; simpa using this
      have hLI : (0 : Int) < (L : Int) := by omega
      have hLb : (L : Int) ≠ 0 := by omega
      have hLe : ((L : Int) == 0) = false := by simpa using hLb
      have hkk : k ≤ 1048576 := by omega
      clear hL
      have hml : m ≤ w2.heap.size := by omega
      go_wp2_with (at_builtin; refine wp_append rfl _ _ rfl w.heap.size m _ (upW ws) ((k : Int) + 1) HW2.out rfl rfl (by omega) (by rw [upW_len]; omega) ?_; intro v6 w6 hown6 hchg6 hsz6; have HD6 := hid (HD.out.chg hchg6 (by omega)); have hc6 : w6.cell? ⟨gd, 0, none⟩ = some (.int .i64 ((k : Int) + 1)) := by have := (HD6.out.at' 0 (by simp)).1; simpa using this)
      have HW6 := hid hown6
      have HR6 := hid (HR2.out.chg hchg6 (by omega))
      have HB6 := hid (HB2.out.trans (hchg6.below (B := w.heap.size) (by omega) (by omega)))
      have HL6 := hid (lenOf_own hown6)
      clear hown6 hchg6 HW2 HR2 HB2 HD hc0
      go_wp2_with fail
      refine (specBefore cur k _ _ w6 HR6.out.ints (by omega) (nilok_own HR6.out) (by omega) hk1).mono ?_
      rintro e w7 ⟨v7, rfl, o7, b7⟩
      have HR7 := hid o7
      have HW7 := hid (HW6.out.chg (Chg.ofBelow (lo := 0) b7) (.inr (.inr (Nat.zero_le _))))
      have HB7 := hid (HB6.out.trans (b7.mono (by omega)))
      clear o7 b7 HR6 HW6 HB6 HD6 hc6
      go_wp2
      go_roundw
      case rel => exact ⟨swapAt cur k, ws ++ [(k : Int)], f', w6.heap.size, HST.out, by rw [upW_snoc]; exact HW7.out, HR7.out, by omega, HB7.out⟩
      case measure =>
        show inv p - lenOf v6 < inv p - lenOf u3
        rw [HL6.out, HLU.out]
        have e3 : (ws ++ [(k : Int)]).length = ws.length + 1 := by simp
        rw [e3] at hwl'
        simp only [List.length_append, upW_len, List.length_cons, List.length_nil]
        omega

/-! ### the program's letters -/
theorem redF_small (f : Nat) (p : List Int) : ∀ x ∈ redF f p, 0 ≤ x ∧ x ≤ (p.length : Int) := by
  induction f generalizing p with
  | zero => simp [redF]
  | succ f ih =>
    unfold redF
    cases hf : firstDesc p with
    | none => simp
    | some k =>
      have hk : k < p.length - 1 := by
        have := List.mem_of_find?_eq_some hf
        simpa using this
      intro x hx
      simp only [List.mem_cons] at hx
      rcases hx with rfl | hx
      · omega
      · have := ih (swapAt p k) x hx
        rw [swap_len] at this
        exact this
theorem redP_small (p : List Int) (h : permB p = true) : ∀ j, j < (redP p).length → 0 ≤ (redP p).getD j 0 ∧ (redP p).getD j 0 ≤ 1099511627776 := by
  intro j hj
  have hm : (redP p).getD j 0 ∈ redP p := by
    rw [show (redP p).getD j 0 = (redP p)[j] from by simp [List.getD, List.getElem?_eq_getElem hj]]
    exact List.getElem_mem hj
  have e : redP p = redF (inv p) p := by rw [redP, if_pos h]; rfl
  rw [e] at hm
  have h1 := redF_small (inv p) p _ hm
  have h2 := perm_len h
  rw [e]
  omega

theorem implPermLetters (p : List Int) (v : Value) (B : Nat) (w : World) (ha : Ints w B v p) (hB : B ≤ w.heap.size) (hn : p.length ≤ 1099511627776) (hnil : NilOk v) (h : permB p = true) :
    Calls Try.prog 43 #[v] w fun e w' => ∃ v', e = .returned v' ∧ Own w' w.heap.size w'.heap.size v' (upW (redW p)) ∧ Below w.heap.size w w' := by
  have HR := hid (implReduced p v B w ha hB hn hnil)
  have HS := hid (redP_small p h)
  have HL : Hid ((redP p).length ≤ 1099511627776) := hid (Nat.le_trans (redP_len p) (by omega))
  have HE : Hid (upW (redW p) = (redP p).map (· + 1)) := hid (by rw [redP, if_pos h]; rfl)
  clear ha hnil
  go_enter Try.func43, Try.ntmps43
  go_wp2_with fail
  refine HR.out.mono ?_
  rintro e w1 ⟨v1, rfl, o1, b1⟩
  have O1 := hid o1
  have C1 := hid b1
  clear o1 b1
  go_wp2_with fail
  refine (implLetters (redP p) v1 _ w1 O1.out.ints (Nat.le_refl _) HL.out HS.out).mono ?_
  rintro e w2 ⟨v2, rfl, o2, b2⟩
  have O2 := hid (o2.lo C1.out.size)
  have C2 := hid (C1.out.trans (b2.mono C1.out.size))
  clear o2 b2
  go_wp2
  go_ret
  exact ⟨_, rfl, by rw [HE.out]; exact O2.out, C2.out⟩

end Go.Proofs.Ytfechjhngcmdpab.fn
