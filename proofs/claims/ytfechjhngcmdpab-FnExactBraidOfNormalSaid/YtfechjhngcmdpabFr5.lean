/-
  FreeReduce and FreeInverse: contracts of both sides.
-/
import Derived.Test.YtfechjhngcmdpabFr0
import Derived.Test.YtfechjhngcmdpabFr4
import Derived.Test.YtfechjhngcmdpabIv
import Derived.Test.YtfechjhngcmdpabH1
namespace Go.Proofs.Ytfechjhngcmdpab.fr
open Go.RowKit Go.Proofs.Ytfechjhngcmdpab.sl Go.Proofs.Ytfechjhngcmdpab.pm Go.Proofs.Ytfechjhngcmdpab.bw Go.Proofs.Ytfechjhngcmdpab.br Go.Proofs.Ytfechjhngcmdpab.fv Go.Proofs.Ytfechjhngcmdpab.fn
set_option linter.unusedVariables false

theorem fr_small {n : Int} {xs : List Int} (h : frB n xs = true) : Small xs := fun j hj => by
  have h1 := fr_parts h
  have h2 := g_parts (h1.2.2.2 j hj)
  omega
def frW (n : Int) (xs ys : List Int) : List Int := if frB n xs = true then ys else []
theorem frW_no {n : Int} {xs ys : List Int} (h : frB n xs = false) : frW n xs ys = [] := by rw [frW, h]; rfl
theorem frW_yes {n : Int} {xs ys : List Int} (h : frB n xs = true) : frW n xs ys = ys := by rw [frW, if_pos h]
theorem frW_len (n : Int) (xs ys : List Int) (hy : ys.length ≤ xs.length) : (frW n xs ys).length ≤ 20000 := by
  cases h : frB n xs
  · rw [frW_no h]; simp
  · rw [frW_yes h]; have := (fr_parts h).2.2.1; omega

/-! ### inverses of reduced words -/
def neg (xs : List Int) : List Int := xs.reverse.map fun x => -x
def lpush (a : Int) (r : List Int) : List Int := if r.head? = some (-a) then r.tail else a :: r
theorem push_cons (z y : Int) (s : List Int) (hs : s ≠ []) : bw.push (z :: s) y = z :: bw.push s y := by
  cases s with
  | nil => exact absurd rfl hs
  | cons w t =>
    unfold bw.push
    rw [List.getLast?_cons_cons]
    split
    · simp
    · simp
theorem push_lpush (a y : Int) (r : List Int) : bw.push (lpush a r) y = lpush a (bw.push r y) := by
  match r with
  | [] =>
    by_cases h : a = -y
    · have h2 : y = -a := by omega
      simp [lpush, bw.push, h]
    · have h2 : ¬ y = -a := by omega
      simp [lpush, bw.push, h, h2]
  | [z] =>
    by_cases hz : z = -a
    · by_cases hy : z = -y
      · have : y = a := by omega
        subst this
        simp [lpush, bw.push, hz]
      · subst hz
        have h2 : ¬ a = y := by omega
        simp [lpush, bw.push, h2]
    · by_cases hy : z = -y
      · subst hy
        have h2 : ¬ y = a := by omega
        simp [lpush, bw.push, h2]
      · simp [lpush, bw.push, hz, hy]
  | z :: w :: t =>
    rw [push_cons z y (w :: t) (by simp)]
    by_cases hz : z = -a
    · simp [lpush, hz]
    · have e1 : lpush a (z :: w :: t) = a :: z :: w :: t := by simp [lpush, hz]
      have e2 : lpush a (z :: bw.push (w :: t) y) = a :: z :: bw.push (w :: t) y := by simp [lpush, hz]
      rw [e1, e2, push_cons a y _ (by simp), push_cons z y _ (by simp)]
theorem snoc_ind {P : List Int → Prop} (h0 : P []) (hs : ∀ xs x, P xs → P (xs ++ [x])) (xs : List Int) : P xs := by
  rw [← List.reverse_reverse xs]
  induction xs.reverse with
  | nil => exact h0
  | cons x r ih => rw [List.reverse_cons]; exact hs _ _ ih
theorem redL_snoc (xs : List Int) (x : Int) : redL (xs ++ [x]) = bw.push (redL xs) x := by simp [redL]
theorem redL_cons (a : Int) (ys : List Int) : redL (a :: ys) = lpush a (redL ys) := by
  refine snoc_ind (P := fun ys => redL (a :: ys) = lpush a (redL ys)) rfl (fun ys y ih => ?_) ys
  rw [← List.cons_append, redL_snoc, ih, redL_snoc, push_lpush]
theorem neg_push (st : List Int) (x : Int) : neg (bw.push st x) = lpush (-x) (neg st) := by
  unfold bw.push lpush neg
  rw [List.head?_map, List.head?_reverse]
  by_cases h : st.getLast? = some (-x)
  · rw [if_pos h, h, if_pos (by simp)]
    rw [← List.map_tail, List.tail_reverse]
  · rw [if_neg h, if_neg ?_]
    · simp
    · intro e
      apply h
      cases hl : st.getLast? with
      | none => rw [hl] at e; cases e
      | some z => rw [hl] at e; simp at e; rw [show z = -x by omega]
theorem redL_neg (xs : List Int) : redL (neg xs) = neg (redL xs) := by
  refine snoc_ind (P := fun xs => redL (neg xs) = neg (redL xs)) rfl (fun xs x ih => ?_) xs
  have e : neg (xs ++ [x]) = -x :: neg xs := by simp [neg]
  rw [e, redL_cons, ih, redL_snoc, neg_push]
theorem neg_len (xs : List Int) : (neg xs).length = xs.length := by simp [neg]
theorem neg_at (xs : List Int) (j : Nat) (hj : j < xs.length) : (neg xs).getD j 0 = -(xs.getD (xs.length - 1 - j) 0) := by
  have h : xs.length - 1 - j < xs.length := by omega
  rw [neg, List.getD, List.getElem?_map, List.getElem?_reverse hj, List.getElem?_eq_getElem h]
  simp [List.getD, List.getElem?_eq_getElem h]
theorem small_neg {xs : List Int} (h : Small xs) : Small (neg xs) := fun j hj => by
  rw [neg_len] at hj
  rw [neg_at xs j hj]
  have := h (xs.length - 1 - j) (by omega)
  omega
theorem small_red {xs : List Int} (h : Small xs) : Small (redL xs) := by
  have hm : ∀ x ∈ xs, -100 ≤ x ∧ x ≤ 100 := fun x hx => by
    obtain ⟨j, hj, rfl⟩ := List.getElem_of_mem hx
    have := h j hj
    rwa [show xs.getD j 0 = xs[j] from by simp [List.getD, List.getElem?_eq_getElem hj]] at this
  have hsub : ∀ ys : List Int, (∀ x ∈ ys, -100 ≤ x ∧ x ≤ 100) → ∀ x ∈ redL ys, -100 ≤ x ∧ x ≤ 100 := by
    intro ys
    refine snoc_ind (P := fun ys => (∀ x ∈ ys, -100 ≤ x ∧ x ≤ 100) → ∀ x ∈ redL ys, -100 ≤ x ∧ x ≤ 100) (fun _ x hx => by cases hx) (fun ys y ih => ?_) ys
    · intro hy x hx
      rw [redL_snoc] at hx
      unfold bw.push at hx
      split at hx
      · exact ih (fun z hz => hy z (by simp [hz])) x (List.dropLast_subset _ hx)
      · rcases List.mem_append.1 hx with h1 | h1
        · exact ih (fun z hz => hy z (by simp [hz])) x h1
        · simp at h1; exact hy x (by simp [h1])
  intro j hj
  refine hsub xs hm _ ?_
  rw [show (redL xs).getD j 0 = (redL xs)[j] from by simp [List.getD, List.getElem?_eq_getElem hj]]
  exact List.getElem_mem hj

/-! ### inverseWord -/
def negTo (xs : List Int) (k : Nat) : List Int := List.replicate (xs.length - k) 0 ++ neg (xs.take k)
theorem negTo_len (xs : List Int) (k : Nat) (h : k ≤ xs.length) : (negTo xs k).length = xs.length := by simp [negTo, neg]; omega
theorem negTo_all (xs : List Int) : negTo xs xs.length = neg xs := by simp [negTo]
theorem negTo_zero (xs : List Int) : negTo xs 0 = List.replicate xs.length 0 := by simp [negTo, neg]
theorem negTo_set (xs : List Int) (k : Nat) (h : k < xs.length) : (negTo xs k).set (xs.length - 1 - k) (-(xs.getD k 0)) = negTo xs (k + 1) := by
  unfold negTo
  obtain ⟨m, hm⟩ : ∃ m, xs.length - k = m + 1 := ⟨xs.length - k - 1, by omega⟩
  have e1 : xs.length - 1 - k = m := by omega
  have e2 : xs.length - (k + 1) = m := by omega
  have e3 : neg (xs.take (k + 1)) = -(xs.getD k 0) :: neg (xs.take k) := by rw [take_one xs k h]; simp [neg]
  rw [hm, e1, e2, e3, List.set_append_left _ _ (by simp), List.replicate_succ', List.set_append_right _ _ (by simp)]
  simp

set_option maxHeartbeats 800000 in
theorem inverseWord (xs : List Int) (v : Value) (B : Nat) (w : World) (ha : Ints w B v xs) (hB : B ≤ w.heap.size) (hn : xs.length ≤ 1000000) (hs : Small xs) :
    Calls Try.prog 64 #[v] w fun e w' => ∃ v', e = .returned v' ∧ sl.Own w' w.heap.size w'.heap.size v' (neg xs) ∧ Below w.heap.size w w' := by
  obtain ⟨i0, hi, hz0, hz1, hz2⟩ := info_parts info64
  rcases ha with ⟨rfl, ao, cap, rfl⟩ | ⟨hp, b, off, cap, rfl, hb, hc⟩
  · go_enter Try.func64, Try.ntmps64
    go_wp2_with (at_make; refine wpList_make_full _ rfl (.tmp 7) (.tmp 7) 23 rfl w.heap.size 2 i0 (.int .i64 0) 1 Try.underlying23 hi hz0 hz1 .i64 .i64 _ _ 0 rfl rfl (by rfl) (by rfl) (by omega) (by unfold maxLen; omega) (Nat.le_refl _) ?_; intro w1 hown1 hgrow1)
    have HO1 := hid (sl.Own.mk' (xs := []) (by simpa [madeCells] using hown1))
    have HB1 : Hid (Below w.heap.size w w1) := hid ((Below.refl _ _).grown hgrow1 (Nat.le_refl _) (fun k hk => by cases hk))
    clear hown1 hgrow1
    refine wp_loop_rounds 1 ?_
    rw [rounds_succ]
    go_wp2
    go_ret
    exact ⟨_, rfl, HO1.out, HB1.out⟩
  · obtain ⟨n, hnn⟩ : ∃ n, n = xs.length := ⟨_, rfl⟩
    rw [← hnn] at hp hc hn ⊢
    have HN := hid hnn
    have HC := hid hc
    have HS := hid hs
    clear hnn hc hs
    go_enter Try.func64, Try.ntmps64
    go_wp2_with (at_make; refine wpList_make_full _ rfl (.tmp 7) (.tmp 7) 23 rfl w.heap.size 2 i0 (.int .i64 0) 1 Try.underlying23 hi hz0 hz1 .i64 .i64 _ _ n rfl rfl (by omega) (by omega) (by rw [hz2]; omega) (by unfold maxLen; omega) (Nat.le_refl _) ?_; intro w1 hown1 hgrow1)
    rw [zeros_list] at hown1
    have HO1 : Hid (sl.Own w1 w.heap.size w1.heap.size (.slice (some ⟨w.heap.size, 0, none⟩) n n) (negTo xs 0)) := hid (sl.Own.mk' (by rw [negTo_zero, ← HN.out]; simpa using hown1))
    have HB1 : Hid (Below w.heap.size w w1) := hid ((Below.refl _ _).grown hgrow1 (Nat.le_refl _) (fun k hk => by cases hk))
    clear hown1 hgrow1
    go_wp2
    go_loopw [11] (fun i wr => ∃ k : Nat, k ≤ n ∧ i = .int .i64 k ∧ sl.Own wr w.heap.size wr.heap.size (.slice (some ⟨w.heap.size, 0, none⟩) n n) (negTo xs k) ∧ Below w.heap.size w wr) (fun i _ => n - (intOf i).toNat)
    case atStart => exact ⟨0, Nat.zero_le _, rfl, HO1.out, HB1.out⟩
    case round =>
      obtain ⟨k, hk, rfl, hown, hbel⟩ := hrel
      have HO := hid hown
      have HB := hid hbel
      by_cases hlt : k < n
      · have h1 : wr.cell? ⟨b, off + k, none⟩ = some (.int .i64 (xs.getD k 0)) := (hbel.cell (p := ⟨b, off + k, none⟩) (by show b < _; omega)).trans (HC.out k hlt)
        have hx := HS.out k (by rw [← HN.out]; exact hlt)
        obtain ⟨q, hq⟩ : ∃ q : Nat, q = n - 1 - k := ⟨_, rfl⟩
        have hlen : (negTo xs k).length = n := by rw [negTo_len xs k (by rw [← HN.out]; omega), ← HN.out]
        have hcell := (hown.at' q (by omega)).1
        have hfr := (hown.at' q (by omega)).2
        have hst := hid (hown.set q (-(xs.getD k 0)))
        have HSet := hid (negTo_set xs k (by rw [← HN.out]; exact hlt))
        rw [← HN.out, ← hq] at HSet
        rw [HSet.out] at hst
        have hwq : IntKind.i64.wrap ((n : Int) - 1 - (k : Int)) = (q : Int) := by rw [IntWalk.i64_in _ (by omega)]; omega
        have hwn : IntKind.i64.wrap ((n : Int) - 1) = (n : Int) - 1 := IntWalk.i64_in _ (by omega)
        have hq1 : (q : Int) < (n : Int) := by omega
        generalize xs.getD k 0 = x at *
        have hwx : IntKind.i64.wrap (-x) = -x := IntWalk.i64_in _ (by omega)
        clear hown hbel hq HSet
        go_wp2
        go_roundw
        case rel => exact ⟨k + 1, by omega, by go_num, by simpa using hst.out.1, HB.out.trans (hst.out.2.below (B := w.heap.size) (by omega) HB.out.size)⟩
        case measure => simp [intOf]; omega
      · obtain rfl : k = n := by omega
        have HF : Hid (negTo xs k = neg xs) := hid (by rw [HN.out]; exact negTo_all xs)
        clear hown hbel
        go_wp2
        go_ret
        exact ⟨_, rfl, by rw [← HF.out]; exact HO.out, HB.out⟩

/-! ### FreeReduce, FreeInverse -/
def invR (xs : List Int) : List Int := neg (redL xs)

theorem red_len20 (n : Int) (xs : List Int) : (frW n xs (redL xs)).length ≤ 20000 := frW_len n xs _ (redL_len xs)
theorem inv_len20 (n : Int) (xs : List Int) : (frW n xs (invR xs)).length ≤ 20000 := frW_len n xs _ (by rw [invR, neg_len]; exact redL_len xs)
end Go.Proofs.Ytfechjhngcmdpab.fr
