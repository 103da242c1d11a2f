/-
  ApplyAction: mathematics, and the model.
-/
import Derived.Test.YtfechjhngcmdpabPx
namespace Go.Proofs.Ytfechjhngcmdpab.aa
open Go.RowKit Go.Proofs.Ytfechjhngcmdpab.sl Go.Proofs.Ytfechjhngcmdpab.pm Go.Proofs.Ytfechjhngcmdpab.bw Go.Proofs.Ytfechjhngcmdpab.br Go.Proofs.Ytfechjhngcmdpab.fv Go.Proofs.Ytfechjhngcmdpab.fn Go.Proofs.Ytfechjhngcmdpab.fr Go.Proofs.Ytfechjhngcmdpab.ss Go.Proofs.Ytfechjhngcmdpab.ai Go.Proofs.Ytfechjhngcmdpab.ao Go.Proofs.Ytfechjhngcmdpab.pv Go.Proofs.Ytfechjhngcmdpab.ia
set_option linter.unusedVariables false

/-- What replaces a letter. -/
def imL (rows : List (List Int)) (x : Int) : List Int := if 0 < x then rows.getD (x - 1).toNat [] else neg (rows.getD (-x - 1).toNat [])
/-- The product behind some letters. -/
def stA (rows : List (List Int)) (word : List Int) (k : Nat) : List Int := redL (((word.take k).map (imL rows)).flatten)
theorem stA_zero (rows : List (List Int)) (word : List Int) : stA rows word 0 = [] := rfl
theorem stA_succ (rows : List (List Int)) (word : List Int) (k : Nat) (h : k < word.length) : stA rows word (k + 1) = (imL rows (word.getD k 0)).foldl bw.push (stA rows word k) := by
  rw [stA, take_snoc word k h]
  simp [stA, redL, List.foldl_append]
def ayB (rows : List (List Int)) (word : List Int) : Bool := (List.range word.length).all fun j => decide ((stA rows word (j + 1)).length ≤ 20000)
theorem ay_bad {rows : List (List Int)} {word : List Int} (k : Nat) (hk : k < word.length) (h : ¬ (stA rows word (k + 1)).length ≤ 20000) : ayB rows word = false := by
  rw [ayB, List.all_eq_false]
  exact ⟨k, by simpa using hk, by simpa using h⟩
theorem ay_good {rows : List (List Int)} {word : List Int} (h : ∀ k, k < word.length → (stA rows word (k + 1)).length ≤ 20000) : ayB rows word = true := by
  rw [ayB, List.all_eq_true]
  intro k hk
  simpa using h k (by simpa using hk)
def ayL (rows : List (List Int)) (word : List Int) : List Int := if ayB rows word = true then stA rows word word.length else []
theorem ayL_no {rows : List (List Int)} {word : List Int} (h : ayB rows word = false) : ayL rows word = [] := by rw [ayL, h]; rfl
theorem ayL_yes {rows : List (List Int)} {word : List Int} (h : ayB rows word = true) : ayL rows word = stA rows word word.length := by rw [ayL, if_pos h]
theorem ayL_len (rows : List (List Int)) (word : List Int) : (ayL rows word).length ≤ 20000 := by
  by_cases h : ayB rows word = true
  · rw [ayL_yes h]
    by_cases h0 : word.length = 0
    · have : word = [] := List.length_eq_zero_iff.1 h0
      subst this; simp [stA, redL]
    · rw [ayB, List.all_eq_true] at h
      have := h (word.length - 1) (by simp; omega)
      rw [show word.length - 1 + 1 = word.length by omega] at this
      simpa using this
  · simp [ayL, h]
def aaC (rows : List (List Int)) (word : List Int) : Int := if imB rows = false then 1 else if frB (rows.length : Int) word = false then 1 else if ayB rows word = true then 0 else 5
def aaW (rows : List (List Int)) (word : List Int) : List Int := if imB rows = false then [] else if frB (rows.length : Int) word = false then [] else ayL rows word
theorem aa_im {rows : List (List Int)} {word : List Int} (h : imB rows = false) : aaC rows word = 1 ∧ aaW rows word = [] := by simp [aaC, aaW, h]
theorem aa_fr {rows : List (List Int)} {word : List Int} (h : imB rows = true) (h2 : frB (rows.length : Int) word = false) : aaC rows word = 1 ∧ aaW rows word = [] := by simp [aaC, aaW, h, h2]
theorem aa_full {rows : List (List Int)} {word : List Int} (h : imB rows = true) (h2 : frB (rows.length : Int) word = true) (h3 : ayB rows word = false) : aaC rows word = 5 ∧ aaW rows word = [] := by simp [aaC, aaW, ayL, h, h2, h3]
theorem aa_ok {rows : List (List Int)} {word : List Int} (h : imB rows = true) (h2 : frB (rows.length : Int) word = true) (h3 : ayB rows word = true) : aaC rows word = 0 ∧ aaW rows word = ayL rows word := by simp [aaC, aaW, h, h2, h3]
theorem aaW_len (rows : List (List Int)) (word : List Int) : (aaW rows word).length ≤ 20000 := by
  unfold aaW
  split
  · simp
  · split
    · simp
    · exact ayL_len rows word

/-! ### a reduced word in place of a word -/
theorem push_undo {s : List Int} (h : Reduced s) (x : Int) : bw.push (bw.push s (-x)) x = s := by
  by_cases h0 : s.length = 0
  · have : s = [] := List.length_eq_zero_iff.1 h0
    subst this
    simp [bw.push]
  · obtain ⟨n, hn⟩ : ∃ n, s.length = n + 1 := ⟨s.length - 1, by omega⟩
    by_cases hp : s.getD n 0 = x
    · rw [push_pop s (-x) n hn (by rw [hp]; omega)]
      have hs : s = s.take n ++ [x] := by
        have := take_snoc s n (by omega)
        rw [hp, List.take_of_length_le (by omega)] at this
        exact this
      by_cases h1 : n = 0
      · subst h1
        rw [List.take_zero] at hs ⊢
        rw [hs]; rfl
      · have hr := h (n - 1) (by omega)
        rw [show n - 1 + 1 = n by omega, hp] at hr
        rw [push_app (s.take n) x (n - 1) (by rw [List.length_take]; omega) (by
          simp only [List.getD, List.getElem?_take]
          rw [if_pos (by omega)]
          exact hr)]
        exact hs.symm
    · rw [push_app s (-x) n hn (by omega)]
      simp [bw.push]
theorem reduced_push {s : List Int} (h : Reduced s) (x : Int) : Reduced (bw.push s x) := by
  have h1 : redL s = s := red_of h
  have h2 := red_reduced (s ++ [x])
  rw [redL_snoc, h1] at h2
  exact h2
theorem reduced_fold {s : List Int} (h : Reduced s) (xs : List Int) : Reduced (xs.foldl bw.push s) := by
  induction xs generalizing s with
  | nil => exact h
  | cons x xs ih => exact ih (reduced_push h x)
theorem fold_red {s : List Int} (h : Reduced s) (xs : List Int) : (redL xs).foldl bw.push s = xs.foldl bw.push s := by
  refine snoc_ind (P := fun xs => (redL xs).foldl bw.push s = xs.foldl bw.push s) rfl (fun xs x ih => ?_) xs
  rw [redL_snoc, List.foldl_append, ← ih]
  simp only [List.foldl_cons, List.foldl_nil]
  by_cases h0 : (redL xs).length = 0
  · have : redL xs = [] := List.length_eq_zero_iff.1 h0
    rw [this]
    rfl
  · obtain ⟨n, hn⟩ : ∃ n, (redL xs).length = n + 1 := ⟨(redL xs).length - 1, by omega⟩
    by_cases hp : (redL xs).getD n 0 = -x
    · rw [push_pop _ x n hn hp]
      have hs : redL xs = (redL xs).take n ++ [-x] := by
        have := take_snoc (redL xs) n (by omega)
        rw [hp, List.take_of_length_le (by omega)] at this
        exact this
      have e : (redL xs).foldl bw.push s = bw.push (((redL xs).take n).foldl bw.push s) (-x) := by
        conv => lhs; rw [hs]
        rw [List.foldl_append]; rfl
      rw [e, push_undo (reduced_fold h _)]
    · rw [push_app _ x n hn hp, List.foldl_append]; rfl
theorem stA_reduced (rows : List (List Int)) (word : List Int) (k : Nat) : Reduced (stA rows word k) := red_reduced _
/-- What the program pushes for a letter. -/
def imR (rows : List (List Int)) (x : Int) : List Int := redL (imL rows x)
theorem imR_push (rows : List (List Int)) (word : List Int) (k : Nat) (h : k < word.length) : (imR rows (word.getD k 0)).foldl bw.push (stA rows word k) = stA rows word (k + 1) := by
  rw [stA_succ rows word k h, imR, fold_red (stA_reduced rows word k)]
theorem imR_pos (rows : List (List Int)) (x : Int) (h : 0 < x) : imR rows x = redL (rows.getD (x - 1).toNat []) := by rw [imR, imL, if_pos h]
theorem imR_neg (rows : List (List Int)) (x : Int) (h : ¬ 0 < x) : imR rows x = neg (redL (rows.getD (-x - 1).toNat [])) := by rw [imR, imL, if_neg h, redL_neg]

set_option maxRecDepth 100000 in
set_option maxHeartbeats 1600000 in
theorem specApply (rows : List (List Int)) (word : List Int) (v u : Value) (B : Nat) (w : World) (ha : ss.Rows w B v rows) (hb : Ints w B u word) (hB : B ≤ w.heap.size) (him : imB rows = true) (hf : frB (rows.length : Int) word = true) :
    Calls Try.prog 32 #[v, u] w fun e w' => ∃ v', e = .returned (.tuple #[v', .bool (ayB rows word)]) ∧ sl.Own w' w.heap.size w'.heap.size v' (ayL rows word) ∧ Below w.heap.size w w' := by
  obtain ⟨ao, cap, hv⟩ := rows_val ha
  obtain ⟨bo, dap, hu⟩ := ints_val hb
  have h12 := im_small him
  have HIm := hid (fun k hk => im_rows him k hk)
  have hfp := fr_parts hf
  have HLt := hid (fun k hk => g_parts (hfp.2.2.2 k hk))
  have hm2 := hfp.2.2.1
  have HSc := hid (stA_succ rows word)
  have HBad := hid (fun k => @ay_bad rows word k)
  have HGood := hid (@ay_good rows word)
  have HNo := hid (@ayL_no rows word)
  have HYes := hid (@ayL_yes rows word)
  have HRw := hid ha
  have HWd := hid hb
  obtain ⟨n, hnn⟩ : ∃ n, n = rows.length := ⟨_, rfl⟩
  obtain ⟨m, hmm⟩ : ∃ m, m = word.length := ⟨_, rfl⟩
  rw [← hnn] at hv h12 HIm HLt
  rw [← hmm] at hu hm2 HLt HSc HBad HGood HYes
  have HN := hid hnn
  have HM := hid hmm
  subst hv
  subst hu
  clear ha hb him hf hfp hnn hmm
  go_enter Try.func32, Try.ntmps32
  go_wp2
  go_loopw [6, 7] (fun u i wr => ∃ k : Nat, k ≤ m ∧ i = .int .i64 k ∧ sl.Own wr w.heap.size wr.heap.size u (stA rows word k) ∧ Below w.heap.size w wr ∧ (stA rows word k).length ≤ 20000 ∧ ∀ j, j < k → (stA rows word (j + 1)).length ≤ 20000)
    (fun _ i _ => m - (intOf i).toNat)
  case atStart => exact ⟨0, Nat.zero_le _, rfl, sl.Own.built w _ rfl, (Below.refl _ _).alloc (Nat.le_refl _) _, by simp [stA_zero], fun j hj => by omega⟩
  case round =>
    obtain ⟨k, hk, rfl, hown, hbel, hlen, hone⟩ := hrel
    have HO := hid hown
    have HB := hid hbel
    have HOn := hid hone
    have HLn := hid hlen
    have hsz := hbel.size
    obtain ⟨ao2, cp2, hv2⟩ := br.own_val hown
    clear hown hbel hone hlen
    by_cases hlt : k < m
    · have hy : ∃ b off, bo = some ⟨b, off, none⟩ ∧ wr.cell? ⟨b, off + k, none⟩ = some (.int .i64 (word.getD k 0)) := by
        rcases HWd.out with ⟨h, _⟩ | ⟨_, b, off, c, he, hbb, hc⟩
        · have := HM.out; rw [h] at this; simp at this; omega
        · simp only [Value.slice.injEq] at he
          exact ⟨b, off, he.1, (HB.out.cell (p := ⟨b, off + k, none⟩) (by show b < _; omega)).trans (hc k (by rw [← HM.out]; exact hlt))⟩
      obtain ⟨b2, off2, rfl, hc2⟩ := hy
      have hx := HLt.out k hlt
      have HS := hid (HSc.out k hlt)
      have HBd := hid (HBad.out k hlt)
      generalize word.getD k 0 = x at *
      have hrow : ∀ t : Nat, t < n → ∃ b off y, ao = some ⟨b, off, none⟩ ∧ wr.cell? ⟨b, off + t, none⟩ = some y ∧ Ints wr B y (rows.getD t []) := fun t ht => by
        rcases HRw.out with ⟨h, _⟩ | ⟨_, b, off, c, V, he, hb, hc⟩
        · have := HN.out; rw [h] at this; simp at this; omega
        · simp only [Value.slice.injEq] at he
          have h1 := hc t (by rw [← HN.out]; exact ht)
          exact ⟨b, off, V t, he.1, (HB.out.cell (p := ⟨b, off + t, none⟩) (by show b < _; omega)).trans h1.1, h1.2.chg (Chg.ofBelow (lo := 0) HB.out) (.inr (Nat.zero_le _))⟩
      by_cases hpos : 0 < x
      · obtain ⟨t, ht⟩ : ∃ t : Nat, t = (x - 1).toNat := ⟨_, rfl⟩
        have htx : x = (t : Int) + 1 := by omega
        have htn : t < n := by omega
        have hiL : imL rows x = rows.getD t [] := by rw [imL, if_pos hpos, ← ht]
        obtain ⟨b, off, y, rfl, hc1, hI⟩ := hrow t htn
        have hr := HIm.out t htn
        have HP := hid (specPush (stA rows word k) (rows.getD t []) (.slice ao2 (stA rows word k).length cp2) y w.heap.size B wr (by rw [← hv2]; exact HO.out) hsz hI hB (by omega) (by have := HLn.out; omega) hr.2)
        rw [← hiL, ← HS.out] at HP
        have hw1 : IntKind.i64.wrap (x - 1) = (t : Int) := by rw [IntWalk.i64_in _ (by omega)]; omega
        have htI : (t : Int) < (n : Int) := by omega
        have hln2 := HLn.out
        clear hrow hI hiL ht hr HLt
        generalize (stA rows word k).length = l2 at *
        subst hv2
        subst htx
        go_wp2_with (go_at_call 58; refine HP.out.mono ?_; rintro e w5 ⟨v5, rfl, o5, b5⟩; have HO5 := hid o5; have HB5 := hid (HB.out.trans b5); obtain ⟨ao5, cp5, hv5⟩ := br.own_val o5; clear o5 b5; generalize hl5 : (stA rows word (k + 1)).length = l5 at *; subst hv5; by_cases h20 : l5 ≤ 20000)
        · go_wp2
          go_roundw
          case rel => exact ⟨k + 1, by omega, by go_num, HO5.out, HB5.out, by rw [hl5]; exact h20, fun j hj => by
            rcases Nat.lt_or_ge j k with h | h
            · exact HOn.out j h
            · obtain rfl : j = k := by omega
              rw [hl5]; exact h20⟩
          case measure => simp [intOf]; omega
        · have HF := hid (HBd.out h20)
          have HL := hid (HNo.out HF.out)
          go_wp2
          go_ret2
          exact ⟨_, by rw [HF.out]; rfl, by rw [HL.out]; exact sl.Own.nil _ w.heap.size, HB5.out⟩
      · obtain ⟨t, ht⟩ : ∃ t : Nat, t = (-x - 1).toNat := ⟨_, rfl⟩
        have htx : x = -((t : Int) + 1) := by omega
        have htn : t < n := by omega
        have hiL : imL rows x = neg (rows.getD t []) := by rw [imL, if_neg hpos, ← ht]
        obtain ⟨b, off, y, rfl, hc1, hI⟩ := hrow t htn
        have hr := HIm.out t htn
        have HIv := hid (specInverse (rows.getD t []) y B wr hI (by omega) (by omega) hr.2)
        have hnl := neg_len (rows.getD t [])
        have hns := small_neg hr.2
        have HP : Hid (∀ (W : World) (z : Value), Below wr.heap.size wr W → sl.Own W wr.heap.size W.heap.size z (neg (rows.getD t [])) → Calls Try.prog 58 #[.slice ao2 (stA rows word k).length cp2, z] W fun e w' => ∃ v', e = .returned v' ∧ sl.Own w' w.heap.size w'.heap.size v' (stA rows word (k + 1)) ∧ Below w.heap.size W w') := hid (fun W z hW oz => by
          have hst : sl.Own W w.heap.size W.heap.size (.slice ao2 (stA rows word k).length cp2) (stA rows word k) := by
            rw [← hv2]
            exact (HO.out.chg (Chg.ofBelow (lo := 0) hW) (.inr (.inr (Nat.zero_le _)))).hi hW.size (Nat.le_refl _)
          have := specPushX (stA rows word k) (neg (rows.getD t [])) (.slice ao2 (stA rows word k).length cp2) z w.heap.size W.heap.size W hst (Nat.le_trans hsz hW.size) oz.ints (Nat.le_refl _) (fun b off nn cc e eo => by
            have h1 : b < wr.heap.size := by
              have h2 := HO.out
              rw [hv2] at h2
              exact (h2.1.lt b eo).2
            rcases oz.1.2 with ⟨h3, _⟩ | ⟨g, c, cur, h3, h4, _⟩
            · rw [h3] at e; cases e
            · rw [h3] at e
              simp only [Value.slice.injEq, Option.some.injEq, Addr.mk.injEq] at e
              omega) (by omega) (by have := HLn.out; omega) hns
          rw [← hiL, ← HS.out] at this
          exact this)
        have hw0 : IntKind.i64.wrap (-x) = -x := IntWalk.i64_in _ (by omega)
        have hw1 : IntKind.i64.wrap (-x - 1) = (t : Int) := by rw [IntWalk.i64_in _ (by omega)]; omega
        have htI : (t : Int) < (n : Int) := by omega
        have hln2 := HLn.out
        have hng : ¬ 0 < x := hpos
        clear hrow hI hiL ht hr HLt hnl hns htx
        generalize (stA rows word k).length = l2 at *
        subst hv2
        go_wp2_with fail
        refine HIv.out.mono ?_
        rintro e w3 ⟨v3, rfl, o3, b3⟩
        have HP3 := hid (HP.out w3 v3 b3 o3)
        have HB3 := hid (HB.out.trans (b3.mono hsz))
        clear o3 b3 HIv HP
        go_wp2_with fail
        refine HP3.out.mono ?_
        rintro e w5 ⟨v5, rfl, o5, b5⟩
        have HO5 := hid o5
        have HB5 := hid (HB3.out.trans b5)
        obtain ⟨ao5, cp5, hv5⟩ := br.own_val o5
        clear o5 b5
        generalize hl5 : (stA rows word (k + 1)).length = l5 at *
        subst hv5
        by_cases h20 : l5 ≤ 20000
        · go_wp2
          go_roundw
          case rel => exact ⟨k + 1, by omega, by go_num, HO5.out, HB5.out, by rw [hl5]; exact h20, fun j hj => by
            rcases Nat.lt_or_ge j k with h | h
            · exact HOn.out j h
            · obtain rfl : j = k := by omega
              rw [hl5]; exact h20⟩
          case measure => simp [intOf]; omega
        · have HF := hid (HBd.out h20)
          have HL := hid (HNo.out HF.out)
          go_wp2
          go_ret2
          exact ⟨_, by rw [HF.out]; rfl, by rw [HL.out]; exact sl.Own.nil _ w.heap.size, HB5.out⟩
    · obtain rfl : k = m := by omega
      have HF := hid (HGood.out HOn.out)
      have HL := hid (HYes.out HF.out)
      generalize (stA rows word k).length = l2 at *
      subst hv2
      go_wp2
      go_ret2
      exact ⟨_, by rw [HF.out]; rfl, by rw [HL.out]; exact HO.out, HB.out⟩

set_option maxRecDepth 100000 in
set_option maxHeartbeats 1600000 in
theorem specAA (rows : List (List Int)) (word : List Int) (v u : Value) (B C : Nat) (w : World) (ha : RowsC w B v rows) (hb : Ints w C u word) (hB : B ≤ w.heap.size) (hC : C ≤ w.heap.size) (hq : SmallR rows) (hn : word.length ≤ 1099511627776) :
    Calls Try.prog 7 #[v, u] w fun e w' => ∃ v', e = .returned (.tuple #[v', .int .i64 (aaC rows word)]) ∧ sl.Own w' w.heap.size w'.heap.size v' (aaW rows word) ∧ Below w.heap.size w w' := by
  have HV := hid (specImages rows v B w ha.rows hq.len hq.short)
  have HF := hid (specFreeOk (rows.length : Int) word u C w hb hn)
  have HAp := hid (fun h1 h2 => specApply rows word v u w.heap.size w (ha.rows.mono hB) (hb.mono hC) (Nat.le_refl _) h1 h2)
  obtain ⟨ao, cap, hv⟩ := rows_val ha.rows
  obtain ⟨bo, dap, hu⟩ := ints_val hb
  have H1 := hid (fun h => @aa_im rows word h)
  have H2 := hid (fun h h2 => @aa_fr rows word h h2)
  have H3 := hid (fun h h2 h3 => @aa_full rows word h h2 h3)
  have H4 := hid (fun h h2 h3 => @aa_ok rows word h h2 h3)
  have H5 := hid (@ayL_no rows word)
  clear ha hb hq
  generalize ayL rows word = l at *
  generalize ayB rows word = q at *
  generalize frB (rows.length : Int) word = q2 at *
  generalize imB rows = q1 at *
  generalize aaC rows word = c at *
  generalize aaW rows word = z at *
  generalize rows.length = n at *
  generalize word.length = m at *
  subst hv
  subst hu
  cases q1
  · have HR := hid (H1.out rfl)
    rw [HR.out.1, HR.out.2]
    go_enter Try.func7, Try.ntmps7
    go_wp2_with fail
    refine HV.out.mono ?_
    rintro e w1 ⟨rfl, rfl⟩
    go_wp2
    go_ret2
    exact ⟨_, rfl, sl.Own.nil _ _, Below.refl _ _⟩
  · cases q2
    · have HR := hid (H2.out rfl rfl)
      rw [HR.out.1, HR.out.2]
      go_enter Try.func7, Try.ntmps7
      go_wp2_with fail
      refine HV.out.mono ?_
      rintro e w1 ⟨rfl, rfl⟩
      go_wp2_with fail
      refine HF.out.mono ?_
      rintro e w1 ⟨rfl, rfl⟩
      go_wp2
      go_ret2
      exact ⟨_, rfl, sl.Own.nil _ _, Below.refl _ _⟩
    · have HA := hid (HAp.out rfl rfl)
      cases q
      · have HR := hid (H3.out rfl rfl rfl)
        rw [HR.out.1, HR.out.2]
        go_enter Try.func7, Try.ntmps7
        go_wp2_with fail
        refine HV.out.mono ?_
        rintro e w1 ⟨rfl, rfl⟩
        go_wp2_with fail
        refine HF.out.mono ?_
        rintro e w1 ⟨rfl, rfl⟩
        go_wp2_with fail
        refine HA.out.mono ?_
        rintro e w2 ⟨v2, rfl, o2, b2⟩
        have HB2 := hid b2
        clear o2 b2
        go_wp2
        go_ret2
        exact ⟨_, rfl, sl.Own.nil _ _, HB2.out⟩
      · have HR := hid (H4.out rfl rfl rfl)
        rw [HR.out.1, HR.out.2]
        go_enter Try.func7, Try.ntmps7
        go_wp2_with fail
        refine HV.out.mono ?_
        rintro e w1 ⟨rfl, rfl⟩
        go_wp2_with fail
        refine HF.out.mono ?_
        rintro e w1 ⟨rfl, rfl⟩
        go_wp2_with fail
        refine HA.out.mono ?_
        rintro e w2 ⟨v2, rfl, o2, b2⟩
        have HO2 := hid o2
        have HB2 := hid b2
        clear o2 b2
        go_wp2
        go_ret2
        exact ⟨_, rfl, HO2.out, HB2.out⟩
end Go.Proofs.Ytfechjhngcmdpab.aa
