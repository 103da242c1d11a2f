/-
  slices.Repeat of a list of numbers.
-/
import Derived.Test.YtbbnheiibkcgiabDoorBnr
import Derived.Test.YtbbnheiibkcgiabDoorShelfBm
import Derived.Laws.CopyOwn
import Derived.Deep.RegionHeld3
import Derived.RegionTactic
namespace Go.Proofs.YtbbnheiibkcgiabDoor.bn
open Go.RowKit Go.Proofs.YtbbnheiibkcgiabDoor.sl Go.Proofs.YtbbnheiibkcgiabDoor.pm Go.Proofs.YtbbnheiibkcgiabDoor.br
set_option linter.unusedVariables false

theorem splice_get {α : Type} (L : List α) (off : Nat) (cs : List α) (h : off + cs.length ≤ L.length) (j : Nat) : (splice L off cs)[j]? = if off ≤ j ∧ j < off + cs.length then cs[j - off]? else L[j]? := by
  unfold splice
  by_cases h1 : j < off
  · rw [List.getElem?_append_left (by simp; omega), if_neg (by omega), List.getElem?_take, if_pos h1]
  · rw [List.getElem?_append_right (by simp; omega)]
    rw [List.length_take, Nat.min_eq_left (by omega)]
    by_cases h2 : j - off < cs.length
    · rw [List.getElem?_append_left h2, if_pos (by omega)]
    · rw [List.getElem?_append_right (by omega), if_neg (by omega), List.getElem?_drop]
      congr 1; omega
def patL (xs : List Int) (M c : Nat) : List Int := (List.range M).map fun j => if j < c then xs.getD (j % xs.length) 0 else 0
theorem pat_len (xs : List Int) (M c : Nat) : (patL xs M c).length = M := by simp [patL]
theorem pat_get (xs : List Int) (M c j : Nat) : (patL xs M c)[j]? = if j < M then some (if j < c then xs.getD (j % xs.length) 0 else 0) else none := by
  unfold patL
  rw [List.getElem?_map]
  by_cases h : j < M
  · rw [List.getElem?_range h, if_pos h]; rfl
  · rw [if_neg h, List.getElem?_eq_none (by simpa using h)]; rfl
theorem rep_get (xs : List Int) (k j : Nat) (h : j < k * xs.length) : (rep k xs)[j]? = some (xs.getD (j % xs.length) 0) := by
  induction k with
  | zero => simp at h
  | succ k ih =>
    rw [rep_succ]
    by_cases h2 : j < k * xs.length
    · rw [List.getElem?_append_left (by rw [rep_len]; exact h2)]; exact ih h2
    · rw [List.getElem?_append_right (by rw [rep_len]; omega), rep_len]
      rw [Nat.succ_mul] at h
      have hj : j % xs.length = j - k * xs.length := by
        have e : j = (j - k * xs.length) + xs.length * k := by have hm : xs.length * k = k * xs.length := Nat.mul_comm _ _; omega
        conv => lhs; rw [e, Nat.add_mul_mod_self_left]
        exact Nat.mod_eq_of_lt (by omega)
      rw [hj, List.getElem?_eq_getElem (by omega)]
      simp [List.getD, List.getElem?_eq_getElem (show j - k * xs.length < xs.length by omega)]
theorem pat_all (xs : List Int) (k : Nat) : patL xs (k * xs.length) (k * xs.length) = rep k xs := by
  apply List.ext_getElem?
  intro j
  rw [pat_get]
  by_cases h : j < k * xs.length
  · rw [if_pos h, if_pos h, rep_get xs k j h]
  · rw [if_neg h, List.getElem?_eq_none (by rw [rep_len]; omega)]
/-- The first copy. -/
theorem pat_one (xs : List Int) (M : Nat) (h : xs.length ≤ M) : splice (List.replicate M (Value.int .i64 0)) 0 (xs.map (Value.int .i64)) = (patL xs M xs.length).map (Value.int .i64) := by
  apply List.ext_getElem?
  intro j
  rw [splice_get _ _ _ (by simpa using h)]
  simp only [List.getElem?_map, pat_get]
  by_cases h1 : j < xs.length
  · rw [if_pos (by simp; exact h1), if_pos (by omega), if_pos h1, Nat.mod_eq_of_lt h1]
    simp [List.getElem?_eq_getElem h1]
  · rw [if_neg (by simp; omega), if_neg h1]
    by_cases h2 : j < M
    · rw [if_pos h2, List.getElem?_replicate, if_pos h2]; rfl
    · rw [if_neg h2, List.getElem?_replicate, if_neg h2]; rfl
theorem pat_zero (xs : List Int) : splice (List.replicate 0 (Value.int .i64 0)) 0 [] = (patL xs 0 0).map (Value.int .i64) := rfl
/-- A copy of what is there behind it. -/
theorem pat_more (xs : List Int) (M c d : Nat) (hc : c ≤ M) (hd : d = Nat.min c (M - c)) (hdiv : xs.length ∣ c) : splice ((patL xs M c).map (Value.int .i64)) c (((patL xs M c).take d).map (Value.int .i64)) = (patL xs M (c + d)).map (Value.int .i64) := by
  have hdc : d ≤ c := by rw [hd]; exact Nat.min_le_left _ _
  have hdM : d ≤ M - c := by rw [hd]; exact Nat.min_le_right _ _
  have hl : (((patL xs M c).take d).map (Value.int .i64)).length = d := by simp [pat_len]; omega
  apply List.ext_getElem?
  intro j
  rw [splice_get _ _ _ (by rw [hl, List.length_map, pat_len]; omega), hl]
  simp only [List.getElem?_map, List.getElem?_take, pat_get]
  by_cases h1 : c ≤ j ∧ j < c + d
  · rw [if_pos h1, if_pos (by omega), if_pos (by omega), if_pos (by omega), if_pos (by omega), if_pos (by omega)]
    congr 3
    obtain ⟨q, rfl⟩ := hdiv
    have e : j = (j - xs.length * q) + xs.length * q := by omega
    conv => rhs; rw [e, Nat.add_mul_mod_self_left]
  · rw [if_neg h1]
    by_cases h2 : j < M
    · rw [if_pos h2, if_pos h2]
      by_cases h3 : j < c
      · rw [if_pos h3, if_pos (by omega)]
      · rw [if_neg h3, if_neg (by omega)]
    · rw [if_neg h2, if_neg h2]

theorem made_row {w w' : World} {M : Nat} {vs : List Value} (h : w'.ownsRow w.heap.size 2 1 (.slice (some ⟨w.heap.size, 0, none⟩) M M) M vs) : w'.heap[w.heap.size]? = some (.cells vs.toArray 2 (0, 0)) := by
  rcases h.2 with ⟨h1, _⟩ | ⟨g, c, cur, h1, h2, h3, h4, h5, h6, h7⟩
  · cases h1
  · simp only [Value.slice.injEq, Option.some.injEq, Addr.mk.injEq] at h1
    obtain ⟨⟨rfl, _⟩, _, rfl⟩ := h1
    have e : cur.toList = vs := by rw [← h7, List.take_of_length_le (by simp [h6])]
    rw [h3, ← e]
theorem made_row0 {w w' : World} {M : Nat} (h : w'.ownsRow w.heap.size 2 1 (.slice (some ⟨w.heap.size, 0, none⟩) M M) M (madeCells (Value.int .i64 0).cells (M * 1)).toList) : w'.heap[w.heap.size]? = some (.cells (List.replicate M (Value.int .i64 0)).toArray 2 (0, 0)) := by
  rw [zeros_list, List.map_replicate] at h
  exact made_row h
theorem pos_at2 {w w2 : World} {ao : Option Addr} {cs : List Value} (h : ∃ ad, ao = some ad ∧ ∀ (W : World), Below w.heap.size w W → ∀ j u, cs[j]? = some u → W.cell? (ad.add j) = some u) (hb : Below w.heap.size w w2) :
    some (⟨w.heap.size, 0, none⟩ : Addr) = some ⟨w.heap.size, 0, none⟩ ∧ ∃ ad, ao = some ad ∧ ∀ j u, cs[j]? = some u → w2.cell? (ad.add j) = some u := by
  obtain ⟨ad, h1, h2⟩ := h
  exact ⟨rfl, ad, h1, h2 w2 hb⟩
theorem below_made {w w' : World} (h : w.grownBy w' none) : Below w.heap.size w w' := ⟨h.os, h.tape, h.output, h.size, fun k hk => h.block k hk (by simp)⟩

set_option maxRecDepth 100000 in
set_option maxHeartbeats 4000000 in
theorem repeatW (xs : List Int) (k : Nat) (v : Value) (B : Nat) (w : World) (ha : Ints w B v xs) (hB : B ≤ w.heap.size) (hn : xs.length ≤ 1000) (hk : k ≤ 1000) :
    Calls Tryd.prog 49 #[v, .int .i64 (k : Int)] w fun e w' => ∃ v', e = .returned v' ∧ sl.Own w' w.heap.size w'.heap.size v' (rep k xs) ∧ Below w.heap.size w w' := by
  obtain ⟨ao, cap, hv⟩ := ints_val ha
  obtain ⟨M, hM⟩ : ∃ M, M = k * xs.length := ⟨_, rfl⟩
  have hM1 : M ≤ 1000000 := by rw [hM]; exact Nat.mul_le_mul hk hn
  have hmul : (xs.length * k) = M := by rw [hM, Nat.mul_comm]
  have HBm := hid (fun W => Tryd.bits_Mul xs.length k (by omega) (by omega) W)
  rw [hmul, Nat.div_eq_of_lt (show M < 18446744073709551616 by omega), Nat.mod_eq_of_lt (show M < 18446744073709551616 by omega)] at HBm
  have HI := hid ha
  have HMM := hid hM
  obtain ⟨n, hnn⟩ : ∃ n, n = xs.length := ⟨_, rfl⟩
  have hw1 : IntKind.u64.wrap (n : Int) = (n : Int) := by rw [IntKind.wrap_u64]; omega
  have hw2 : IntKind.u64.wrap (k : Int) = (k : Int) := by rw [IntKind.wrap_u64]; omega
  have hw3 : IntKind.i64.wrap (M : Int) = (M : Int) := by rw [IntKind.wrap_i64]; omega
  have hk0 : ¬ ((k : Int) < 0) := by omega
  have hM0 : ¬ ((M : Int) < 0) := by omega
  have hM2 : ¬ ((9223372036854775807 : Int) < (M : Int)) := by omega
  have HInfo : Hid ((Tryd.prog.info? 2).map (·.size) = some 1) := hid (by kernel_rfl)
  have hys : ∃ ys : List Int, ys.length = Nat.min n M ∧ (0 < ys.length → ys = xs) ∧ splice (List.replicate M (Value.int .i64 0)) 0 (ys.map (Value.int .i64)) = (patL xs M ys.length).map (Value.int .i64) ∧ n ∣ ys.length ∧ (0 < ys.length ∨ M = 0) ∧ ys.length ≤ M := by
    by_cases h0 : M = 0
    · exact ⟨[], by rw [h0]; simp, fun h => absurd h (by simp), by rw [h0]; exact pat_zero xs, by simp, .inr h0, by simp⟩
    · have h1 : n ≤ M := by
        rw [hM, ← hnn]
        have : 1 ≤ k := Nat.pos_of_ne_zero (fun e => h0 (by rw [hM, e]; simp))
        calc n = 1 * n := (Nat.one_mul n).symm
          _ ≤ k * n := Nat.mul_le_mul this (Nat.le_refl _)
      have h2 : 0 < n := Nat.pos_of_ne_zero (fun e => h0 (by rw [hM, ← hnn, e]; simp))
      exact ⟨xs, by rw [← hnn]; exact (Nat.min_eq_left h1).symm, fun _ => rfl, pat_one xs M (by omega), by rw [hnn]; exact Nat.dvd_refl _, .inl (by omega), by omega⟩
  obtain ⟨ys, hy1, hy2, hy3, hy4, hy5, hy6⟩ := hys
  have HY3 := hid hy3
  have HFin : Hid (patL xs M M = rep k xs) := hid (by rw [hM]; exact pat_all xs k)
  have HMore := hid (fun c d h1 h2 h3 => pat_more xs M c d h1 h2 h3)
  rw [← hnn] at hv HBm hn HMore
  have HPos : Hid (0 < (ys.map (Value.int .i64)).length → ∃ ad, ao = some ad ∧ ∀ (W : World), Below w.heap.size w W → ∀ j u, (ys.map (Value.int .i64))[j]? = some u → W.cell? (ad.add j) = some u) := hid (by
    intro h
    rw [List.length_map] at h
    obtain rfl := hy2 h
    rcases ha with ⟨h0, _⟩ | ⟨hp, b, off, cap', hv', hb, hc⟩
    · rw [h0] at h; simp at h
    · rw [hv] at hv'
      simp only [Value.slice.injEq] at hv'
      obtain ⟨rfl, _, _⟩ := hv'
      refine ⟨_, rfl, fun W hW j u hj => ?_⟩
      have hj' : j < ys.length := by
        have := (List.getElem?_eq_some_iff.1 hj).1
        simpa using this
      rw [Addr.add_lit, (hW.cell (p := ⟨b, off + j, none⟩) (by show b < _; omega)).trans (hc j hj')]
      simp only [List.getElem?_map, List.getElem?_eq_getElem hj', Option.map_some, Option.some.injEq] at hj
      rw [← hj]
      simp [List.getD, List.getElem?_eq_getElem hj'])
  have HOne : Hid (∀ u ∈ ys.map (Value.int .i64), u.oneCell' = true) := hid (by intro u hu; obtain ⟨x, _, rfl⟩ := List.mem_map.1 hu; rfl)
  have HLen : Hid ((ys.map (Value.int .i64)).length = Nat.min n M) := hid (by rw [List.length_map]; exact hy1)
  have HFit : Hid (0 + (ys.map (Value.int .i64)).length ≤ (List.replicate M (Value.int .i64 0)).length) := hid (by simp; omega)
  have HY1 := hid hy1
  have HN2 : Hid (n ∣ ys.length) := hid hy4
  clear hy1 hy2 hy3 hy4
  subst hv
  have HNn := hid hnn
  clear ha hM hmul hnn
  go_enter Tryd.func49, Tryd.ntmps49
  go_wp2_with fail
  refine (HBm.out _).mono ?_
  rintro e w1 ⟨rfl, rfl⟩
  obtain ⟨i0, hi, hz0, hz1, hz2⟩ := info_parts info64
  go_wp2_with (first
    | (at_make; refine wpList_make_full _ rfl (.tmp 29) (.tmp 29) 48 rfl w1.heap.size 2 i0 (.int .i64 0) 1 Tryd.underlying48 hi hz0 hz1 .i64 .i64 _ _ M rfl rfl (by rfl) (by rfl) (by rw [hz2]; omega) (by unfold maxLen; omega) (Nat.le_refl _) ?_; intro w2 hown1 hgrow1; have HOw := hid hown1; have HB2 := hid (below_made hgrow1); have HRow := hid (made_row0 hown1); have HP2 := hid (fun h => pos_at2 (HPos.out h) HB2.out); clear hown1 hgrow1)
    | (with_reducible refine wpList_copy_splice rfl (.tmp 31) (.tmp 32) 48 48 rfl 2 Tryd.underlying48 HInfo.out (some ⟨w1.heap.size, 0, none⟩) ao M M n cap rfl rfl w1.heap.size 0 (List.replicate M (Value.int .i64 0)) 2 HRow.out (ys.map (Value.int .i64)) HLen.out HP2.out HFit.out HOne.out w1.heap.size w1 HB2.out (Nat.le_refl _) ?_; intro w3 hg3 hb3; have HG3 := hid hg3; have HB3 := hid hb3; clear hg3 hb3))
  have HRow3 : Hid (w3.heap[w1.heap.size]? = some (.cells ((patL xs M ys.length).map (Value.int .i64)).toArray 2 (0, 0))) := hid (by rw [← HY3.out]; exact HG3.out)
  clear HG3 HRow HP2 HPos HLen HFit HOne HY3 HY1 HBm
  go_loopw [8] (fun i wr => ∃ c : Nat, c ≤ M ∧ n ∣ c ∧ (0 < c ∨ M = 0) ∧ i = .int .i64 c ∧ wr.heap[w1.heap.size]? = some (.cells ((patL xs M c).map (Value.int .i64)).toArray 2 (0, 0)) ∧ Below w1.heap.size w1 wr)
    (fun i _ => M - (intOf i).toNat)
  case atStart => exact ⟨_, hy6, HN2.out, hy5, rfl, HRow3.out, HB3.out⟩
  case round =>
    obtain ⟨c, hc, hdv, hp0, rfl, hrow, hb⟩ := hrel
    have HR := hid hrow
    have HB := hid hb
    have HD := hid hdv
    clear hrow hb hdv HN2 HRow3 HB3
    by_cases hlt : c < M
    · have hcp : 0 < c := by omega
      have hne : ¬ M = c := by omega
      obtain ⟨d, hd⟩ : ∃ d, d = Nat.min c (M - c) := ⟨_, rfl⟩
      have hdc : d ≤ c := by rw [hd]; exact Nat.min_le_left _ _
      have hdM : d ≤ M - c := by rw [hd]; exact Nat.min_le_right _ _
      have hdp : 0 < d := by rw [hd]; exact Nat.lt_min.2 ⟨hcp, by omega⟩
      obtain ⟨cs, hcs⟩ : ∃ cs, cs = ((patL xs M c).take d).map (Value.int .i64) := ⟨_, rfl⟩
      have hcl : cs.length = d := by rw [hcs]; simp [pat_len]; omega
      have HCl : Hid (cs.length = Nat.min c (M - c)) := hid (hcl.trans hd)
      have HNew : Hid (splice ((patL xs M c).map (Value.int .i64)) c cs = (patL xs M (c + d)).map (Value.int .i64)) := hid (by rw [hcs]; exact HMore.out c d hc hd HD.out)
      have HSrc : Hid (∀ (W : World), W.heap[w1.heap.size]? = some (.cells ((patL xs M c).map (Value.int .i64)).toArray 2 (0, 0)) → ∀ j u, cs[j]? = some u → W.cell? (Addr.add ⟨w1.heap.size, 0, none⟩ j) = some u) := hid (fun W hW j u hj => by
        rw [Addr.add_lit, hcs] at *
        have hj2 : ((patL xs M c).map (Value.int .i64))[j]? = some u := by
          rw [List.getElem?_map, List.getElem?_take] at hj
          by_cases hjd : j < d
          · rw [if_pos hjd] at hj; rw [List.getElem?_map]; exact hj
          · rw [if_neg hjd] at hj; simp at hj
        simp [World.cell?, hW]
        simpa using hj2)
      have HFt : Hid (c + cs.length ≤ ((patL xs M c).map (Value.int .i64)).length) := hid (by rw [List.length_map, pat_len, hcl]; omega)
      have HOn : Hid (∀ u ∈ cs, u.oneCell' = true) := hid (by rw [hcs]; intro u hu; obtain ⟨x, _, rfl⟩ := List.mem_map.1 hu; rfl)
      have HDv : Hid (n ∣ c + d) := hid (by
        by_cases h : c ≤ M - c
        · have : d = c := by rw [hd]; exact Nat.min_eq_left h
          rw [this]; exact Nat.dvd_add HD.out HD.out
        · have h2 : d = M - c := by rw [hd]; exact Nat.min_eq_right (by omega)
          have h3 : c + d = M := by omega
          rw [h3, HMM.out, ← HNn.out]; exact ⟨k, Nat.mul_comm _ _⟩)
      clear hcs hd
      go_wp2_with fail
      go_region_held3 (fun w' => True) (exact trivial)
        (first
          | (refine step_copy_splice rfl (.tmp 41) (.tmp 44) 48 48 rfl 2 Tryd.underlying48 HInfo.out _ _ _ _ _ _ rfl rfl w1.heap.size c ((patL xs M c).map (Value.int .i64)) 2 HR.out cs HCl.out (fun _ => ⟨rfl, _, rfl, HSrc.out _ HR.out⟩) HFt.out HOn.out w1.heap.size w1 (HB.out.drew) (Nat.le_refl _) ?_; intro w4 hg4 hb4; have HG4 := hid hg4; have HB4 := hid hb4; clear hg4 hb4))
      have hwr : IntKind.i64.wrap ((c : Int) + (d : Int)) = ((c + d : Nat) : Int) := by rw [IntKind.wrap_i64]; omega
      go_wp2
      go_roundw
      case rel => exact ⟨c + d, by omega, HDv.out, .inl (by omega), by go_num, by rw [← HNew.out]; exact HG4.out, HB4.out⟩
      case measure => simp [intOf]; omega
    · obtain rfl : c = M := by omega
      have HOwn : Hid (sl.Own wr w1.heap.size wr.heap.size (.slice (some ⟨w1.heap.size, 0, none⟩) c c) (rep k xs)) := hid (by
        have hl : (rep k xs).length = c := by rw [← HFin.out, pat_len]
        have h1 := HR.out
        rw [HFin.out] at h1
        refine sl.Own.mk' ⟨by simp, .inr ⟨w1.heap.size, c, _, by rw [hl], Nat.le_refl _, h1, by rw [hl]; exact Nat.le_refl _, by unfold maxLen; omega, by simp [hl], ?_⟩⟩
        rw [List.take_of_length_le (by simp)])
      go_wp2
      go_ret
      exact ⟨_, rfl, HOwn.out, HB.out⟩
end Go.Proofs.YtbbnheiibkcgiabDoor.bn
