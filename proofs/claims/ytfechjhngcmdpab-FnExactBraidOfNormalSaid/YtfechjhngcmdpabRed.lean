/-
  Contracts of slices.Clone and of ReducedWord, of the program and of its model.
-/
import Derived.Test.YtfechjhngcmdpabWd
import Derived.WalkSpells
namespace Go.Proofs.Ytfechjhngcmdpab.fn
open Go.RowKit Go.Proofs.Ytfechjhngcmdpab.sl Go.Proofs.Ytfechjhngcmdpab.pm

theorem clone (p : List Int) (v : Value) (B : Nat) (w : World) (ha : Ints w B v p) (hnil : NilOk v) (hn : p.length ≤ 1048576) :
    Calls Try.prog 95 #[v] w fun e w' => ∃ v', e = .returned v' ∧ Own w' w.heap.size w'.heap.size v' p ∧ Below w.heap.size w w' := by
  have HA2 : Hid (Ints (w.alloc (.cells #[] 2)) B v p) := hid (ha.chg (Chg.ofBelow (lo := 0) ((Below.refl w.heap.size w).alloc (Nat.le_refl _) _)) (.inr (Nat.zero_le _)))
  have HE := hid (built1 w)
  obtain ⟨ao, cap, hv⟩ := ints_slice ha
  have HP := hid ha
  clear ha
  obtain ⟨n, hnn⟩ : ∃ n, n = p.length := ⟨_, rfl⟩
  rw [← hnn] at hv hn
  subst hv
  have HN := hid hnn
  clear hnn
  have hq := Lib.run_eql_slice_nil (P := Try.prog) w 23 2 ao n cap 0 0 Try.underlying23
  cases ao with
  | none =>
    obtain ⟨rfl, rfl⟩ := hnil _ _ rfl
    have hp : p = [] := List.length_eq_zero_iff.1 HN.out.symm
    go_enter Try.func95, Try.ntmps95
    go_wp2
    go_ret
    exact ⟨_, rfl, by rw [hp]; exact Own.nil _ _, Below.refl _ _⟩
  | some ad =>
    go_enter Try.func95, Try.ntmps95
    go_wp2_with (at_builtin; refine wp_appendAll rfl _ _ rfl w.heap.size (w.heap.size + 1) (.slice (some ⟨w.heap.size, 0, none⟩) 0 0) [] HE.out rfl (.slice (some ad) n cap) p B HA2.out hnil rfl (by simp) (by simp; rw [← HN.out]; omega) ?_; intro v1 w1 hown1 hchg1)
    rw [List.nil_append] at hown1
    have HO1 := hid hown1
    have HB1 : Hid (Below w.heap.size w w1) := hid (((Below.refl w.heap.size w).alloc (Nat.le_refl _) _).trans (hchg1.below (Nat.le_refl _) (by simp)))
    clear hown1 hchg1
    go_wp2
    go_ret
    exact ⟨_, rfl, HO1.out, HB1.out⟩

def redP (p : List Int) : List Int := if permB p = true then redW p else []
theorem redP_len (p : List Int) : (redP p).length ≤ 144 := by
  unfold redP
  split
  · rename_i h
    have h1 := perm_len h
    have h2 := inv_le p
    have h3 := red_len (inv p) p
    have h4 : p.length * p.length ≤ 12 * 12 := Nat.mul_le_mul h1 h1
    unfold redW
    omega
  · simp

theorem descL_nil (p : List Int) : descL p = [] ↔ NoDesc p (p.length - 1) := by
  rw [descL, desc_filter, List.map_eq_nil_iff, List.filter_eq_nil_iff]
  constructor
  · intro h j hj
    have := h j (by simpa using hj)
    simpa [isDesc] using this
  · intro h j hj
    have := h j (by simpa using hj)
    simpa [isDesc] using this
theorem descL_cons (p : List Int) (x : Int) (r : List Int) (h : descL p = x :: r) : ∃ k : Nat, x = (k : Int) ∧ k + 1 < p.length ∧ NoDesc p k ∧ p.getD (k + 1) 0 < p.getD k 0 := by
  have h1 := desc_first p
  rw [h] at h1
  cases hf : firstDesc p with
  | none => rw [hf] at h1; simp at h1
  | some k =>
    rw [hf] at h1
    simp only [List.head?_cons, Option.map_some, Option.some.injEq] at h1
    unfold firstDesc at hf
    have h2 := List.find?_some hf
    have h3 := List.mem_of_find?_eq_some hf
    simp only [List.mem_range] at h3
    refine ⟨k, h1, by omega, ?_, of_decide_eq_true h2⟩
    intro j hj
    have e : p.length - 1 = j + (p.length - 1 - j - 1) + 1 := by omega
    intro hd
    have hb : isDesc p j = true := decide_eq_true hd
    rw [List.find?_range_eq_some] at hf
    have := hf.2.2 j hj
    simp [hb] at this

set_option maxHeartbeats 1000000 in
theorem implReduced (p : List Int) (v : Value) (B : Nat) (w : World) (ha : Ints w B v p) (hB : B ≤ w.heap.size) (hn : p.length ≤ 1099511627776) (hnil : NilOk v) :
    Calls Try.prog 82 #[v] w fun e w' => ∃ v', e = .returned v' ∧ Own w' w.heap.size w'.heap.size v' (redP p) ∧ Below w.heap.size w w' := by
  have HA := hid ha
  have HNL := hid hnil
  clear ha hnil
  by_cases h : permB p = true
  · have HF : Hid (redP p = redW p) := hid (by rw [redP, if_pos h])
    have hp := perm_len h
    have hil := inv_le p
    have hin : inv p ≤ 144 := Nat.le_trans hil (Nat.mul_le_mul hp hp)
    clear hil
    go_enter Try.func82, Try.ntmps82
    go_wp2_with fail
    refine (implOk p v _ w HA.out hB hn).mono ?_
    rintro e w1 ⟨rfl, b1⟩
    have HA1 := hid (HA.out.chg (Chg.ofBelow (lo := 0) b1) (.inr (Nat.zero_le _)))
    have C1 := hid b1
    have z1 := b1.size
    clear b1
    go_wp2_with fail
    refine (clone p v _ w1 HA1.out HNL.out (by omega)).mono ?_
    rintro e w2 ⟨v2, rfl, o2, b2⟩
    have HR := hid o2
    have C2 := hid (C1.out.trans (b2.mono C1.out.size))
    have z2 := b2.size
    clear o2 b2 HNL HA1
    have HR3 : Hid (Own (w2.alloc (.cells #[] 2)) w1.heap.size w2.heap.size v2 p) := hid (HR.out.chg (Chg.ofBelow (lo := 0) ((Below.refl w2.heap.size w2).alloc (Nat.le_refl _) _)) (.inr (.inr (Nat.le_refl _))))
    have HW3 := hid (built1 w2)
    go_wp2_with fail
    refine (implDesc p v2 _ _ HR3.out.ints (by simp) (by omega)).mono ?_
    rintro e w4 ⟨v4, rfl, o4, b4⟩
    have z4 : w2.heap.size + 1 ≤ w4.heap.size := by simpa using b4.size
    have HR4 := hid (HR3.out.chg (Chg.ofBelow (lo := 0) b4) (.inr (.inr (Nat.le_refl _))))
    have HW4 := hid (HW3.out.chg (Chg.ofBelow (lo := 0) b4) (.inr (.inr (Nat.le_refl _))))
    have HD4 : Hid (Own w4 (w2.heap.size + 1) w4.heap.size v4 (descL p)) := hid (by simpa using o4)
    have C4 : Hid (Below w.heap.size w w4) := hid ((C2.out.alloc (by omega) _).trans (b4.mono (by simp; omega)))
    clear o4 b4 HR HR3 HW3
    go_wp2
    go_loopw [4, 5] (fun u d wr => ∃ (cur ws : List Int) (f m : Nat), Srt p cur ws f ∧ Own wr w1.heap.size w2.heap.size v2 cur ∧ Own wr w2.heap.size m u ws ∧ Own wr m wr.heap.size d (descL cur) ∧ w2.heap.size ≤ m ∧ Below w.heap.size w wr)
      (fun u _ _ => inv p - lenOf u)
    case atStart => exact ⟨p, [], inv p, w2.heap.size + 1, sort_start p, HR4.out, HW4.out, HD4.out, by omega, C4.out⟩
    case round =>
      obtain ⟨cur, ws, f, m, hsrt, hr, hw, hd, hm, hbel⟩ := hrel
      have HS := hid hsrt
      have HR := hid hr
      have HW := hid hw
      have HD := hid hd
      have HB := hid hbel
      have zr := hbel.size
      have zm := hd.2.2
      have zm' := hw.2.2
      have hcl := hsrt.2.2.2
      have hwl : ws.length ≤ inv p := by have := hsrt.2.2.1; omega
      have HLU := hid (lenOf_own hw)
      clear hsrt hr hw hd hbel HR4 HW4 HD4 C4
      cases hds : descL cur with
      | nil =>
        have HFin := hid (sort_end p cur ws f HS.out ((descL_nil cur).1 hds))
        obtain ⟨ad, cd, hvd⟩ := own_val HD.out
        rw [hds] at hvd
        rw [hvd]
        clear hds hvd hcl
        go_wp2
        go_ret
        exact ⟨_, rfl, by rw [HF.out, ← HFin.out]; exact (HW.out.lo (by omega)).hi (by omega) (Nat.le_refl _), HB.out⟩
      | cons x r =>
        obtain ⟨k, hxk, hk1, hnd, hdk⟩ := descL_cons cur x r hds
        obtain ⟨f', _, hst⟩ := sort_step p cur ws f k HS.out hk1 hnd hdk
        have HST := hid hst
        have hwl' : (ws ++ [(k : Int)]).length ≤ inv p := by have := hst.2.2.1; omega
        clear hst hnd hdk HS
        subst hxk
        rw [hds] at HD
        clear hds
        obtain ⟨gd, cd, hvd, hg1, hg2⟩ := own_slice HD.out (by simp)
        obtain ⟨L, hL⟩ : ∃ L, L = ((k : Int) :: r).length := ⟨_, rfl⟩
        rw [← hL] at hvd
        have hL0 : 0 < L := by rw [hL]; simp
        subst hvd
        have hc0 : wr.cell? ⟨gd, 0, none⟩ = some (.int .i64 (k : Int)) := by have := (HD.out.at' 0 (by simp)).1; simpa using this
        have hLI : (0 : Int) < (L : Int) := by omega
        have hcn : cur.length ≤ 1099511627776 := by omega
        have hcp : cur.length ≤ 12 := by omega
        clear hL hcl
        go_wp2_with fail
        refine (implExchange cur v2 w1.heap.size w2.heap.size k wr HR.out hcn hk1).mono ?_
        rintro e w5 ⟨rfl, o5, c5⟩
        have HR5 := hid o5
        have HW5 := hid (HW.out.chg c5 (by omega))
        have HD5 := hid (HD.out.chg c5 (by omega))
        have HB5 := hid (HB.out.trans (c5.below (B := w.heap.size) (by omega) (by omega)))
        have z5 := c5.size
        have z5' : w2.heap.size ≤ w5.heap.size := by omega
        have hc5 : w5.cell? ⟨gd, 0, none⟩ = some (.int .i64 (k : Int)) := by have := (HD5.out.at' 0 (by simp)).1; simpa using this
        clear o5 c5 HR HW HD HB hc0
        go_wp2_with (at_builtin; refine wp_append rfl _ _ rfl w2.heap.size m _ ws k HW5.out rfl rfl z5' (by omega) ?_; intro v6 w6 hown6 hchg6 hsz6)
        have HW6 := hid hown6
        have HR6 := hid (HR5.out.chg hchg6 (by omega))
        have HB6 := hid (HB5.out.trans (hchg6.below (B := w.heap.size) (by omega) (by omega)))
        have HL6 := hid (lenOf_own hown6)
        clear hown6 hchg6 HR5 HW5 HB5 HD5 hc5
        go_wp2_with fail
        refine (implDesc (swapAt cur k) v2 _ w6 HR6.out.ints (by omega) (by rw [swap_len]; omega)).mono ?_
        rintro e w7 ⟨v7, rfl, o7, b7⟩
        have HD7 := hid o7
        have HR7 := hid (HR6.out.chg (Chg.ofBelow (lo := 0) b7) (.inr (.inr (Nat.le_refl _))))
        have HW7 := hid (HW6.out.chg (Chg.ofBelow (lo := 0) b7) (.inr (.inr (Nat.le_refl _))))
        have HB7 := hid (HB6.out.trans (b7.mono (by omega)))
        clear o7 b7 HR6 HW6 HB6
        go_wp2
        go_roundw
        case rel => exact ⟨swapAt cur k, ws ++ [(k : Int)], f', w6.heap.size, HST.out, HR7.out, HW7.out, HD7.out, by omega, HB7.out⟩
        case measure =>
          show inv p - lenOf v6 < inv p - lenOf u4
          rw [HL6.out, HLU.out]
          have e3 : (ws ++ [(k : Int)]).length = ws.length + 1 := by simp
          rw [e3] at hwl' ⊢
          omega
  · have h' : permB p = false := by simpa using h
    have HF : Hid (redP p = []) := hid (by rw [redP, if_neg h])
    clear h
    go_enter Try.func82, Try.ntmps82
    go_wp2_with fail
    refine (implOk p v _ w HA.out hB hn).mono ?_
    rintro e w1 ⟨rfl, b1⟩
    have C1 := hid b1
    clear b1
    go_wp2
    go_ret
    exact ⟨_, rfl, by rw [HF.out]; exact (Own.nil _ _), C1.out⟩
end Go.Proofs.Ytfechjhngcmdpab.fn
