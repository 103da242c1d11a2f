/-
  The walk of the law FnPermutations.
-/
import Derived.Test.YtaconeliiicloaaPm1
import Derived.Test.YtaconeliiicloaaLt2
import Derived.Lib.QuietBelow
import Derived.BigQuiet
namespace Go.Proofs.Ytaconeliiicloaa.wpf
open Go.RowKit Go.Sort Go.Proofs.Ytaconeliiicloaa.sl Go.Proofs.Ytaconeliiicloaa.pm Go.Proofs.Ytaconeliiicloaa.fn Go.Proofs.Ytaconeliiicloaa.sr Go.Proofs.Ytaconeliiicloaa.lt Go.Proofs.Ytaconeliiicloaa.pf
set_option linter.unusedVariables false

theorem idC (p : List Int) (h : Facts p) (w : World) :
    Calls Try.prog 13 #[.int .i64 p.length] w fun e w' => ∃ v', e = .returned (.tuple #[v', .bool true]) ∧ Own w' w.heap.size w'.heap.size v' (ids p.length) ∧ Below w.heap.size w w' := by
  have h1 := implIdentity p.length w
  rw [h.ok, h.idl] at h1
  exact h1
theorem ivC (p : List Int) (h : Facts p) (v : Value) (B : Nat) (w : World) (ha : Ints w B v p) (hB : B ≤ w.heap.size) :
    Calls Try.prog 15 #[v] w fun e w' => ∃ v', e = .returned v' ∧ Own w' w.heap.size w'.heap.size v' (invL p) ∧ Below w.heap.size w w' := by
  have := h.l12
  have h1 := implInvert p v B w ha hB (by omega)
  rw [h.iv] at h1
  exact h1
theorem cpC (p : List Int) (h : Facts p) (v u : Value) (B C : Nat) (w : World) (ha : Ints w B v p) (hb : Ints w C u (invL p)) (hB : B ≤ w.heap.size) (hC : C ≤ w.heap.size) :
    Calls Try.prog 14 #[v, u] w fun e w' => ∃ v', e = .returned (.tuple #[v', .bool true]) ∧ Own w' w.heap.size w'.heap.size v' (ids p.length) ∧ Below w.heap.size w w' := by
  have := h.l12
  have := h.ivl
  have h1 := implCompose p (invL p) v u B C w ha hb hB hC (by omega) (by omega)
  rw [cmpL, if_pos h.both, h.both, h.comp] at h1
  exact h1
theorem rdC (p : List Int) (h : Facts p) (v : Value) (B : Nat) (w : World) (ha : Ints w B v p) (hB : B ≤ w.heap.size) (hnil : NilOk v) :
    Calls Try.prog 16 #[v] w fun e w' => ∃ v', e = .returned v' ∧ Own w' w.heap.size w'.heap.size v' (redW p) ∧ Below w.heap.size w w' := by
  have := h.l12
  have h1 := implReduced p v B w ha hB (by omega) hnil
  rw [h.red] at h1
  exact h1
theorem pwC (p : List Int) (h : Facts p) (v : Value) (B : Nat) (w : World) (ha : Ints w B v (redW p)) (hB : B ≤ w.heap.size) :
    Calls Try.prog 17 #[.int .i64 p.length, v] w fun e w' => ∃ v', e = .returned (.tuple #[v', .bool true]) ∧ Own w' w.heap.size w'.heap.size v' p ∧ Below w.heap.size w w' := by
  have := h.wl
  have h1 := implPow p.length (redW p) v B w ha hB (by omega)
  rw [h.wok, h.pow] at h1
  exact h1
theorem nmC (p : List Int) (h : Facts p) (v : Value) (B : Nat) (w : World) (ha : Ints w B v p) (hB : B ≤ w.heap.size) :
    Calls Try.prog 19 #[v] w fun e w' => e = .returned (.int .i64 ((redW p).length : Int)) ∧ Below w.heap.size w w' := by
  have := h.l12
  have h1 := bt.implInversions p v B w ha hB (by omega)
  rw [h.num] at h1
  exact h1
theorem nmK (p : List Int) (h : Facts p) (k : Nat) (hk : (redW p).length = k) (v : Value) (B : Nat) (w : World) (ha : Ints w B v p) (hB : B ≤ w.heap.size) :
    Calls Try.prog 19 #[v] w fun e w' => e = .returned (.int .i64 (k : Int)) ∧ Below w.heap.size w w' := by
  subst hk
  exact nmC p h v B w ha hB
theorem niC (p : List Int) (h : Facts p) (v : Value) (B : Nat) (w : World) (ha : Ints w B v (invL p)) (hB : B ≤ w.heap.size) :
    Calls Try.prog 19 #[v] w fun e w' => e = .returned (.int .i64 ((redW p).length : Int)) ∧ Below w.heap.size w w' := by
  have := h.l12
  have := h.ivl
  have h1 := bt.implInversions (invL p) v B w ha hB (by omega)
  rw [h.num2, h.num] at h1
  exact h1
theorem rkC (p : List Int) (h : p.length ≤ 12) (v : Value) (B : Nat) (w : World) (ha : Ints w B v p) (hB : B ≤ w.heap.size) :
    Calls Try.prog 21 #[v] w fun e w' => e = .returned (.int .i64 (bt.rankP p)) ∧ Below w.heap.size w w' :=
  bt.implRank p v B w ha hB (by omega)
theorem ptC (p : List Int) (h : Facts p) (w : World) :
    Calls Try.prog 20 #[.int .i64 p.length, .int .i64 (bt.rankP p)] w fun e w' => ∃ v', e = .returned (.tuple #[v', .bool true]) ∧ Own w' w.heap.size w'.heap.size v' p ∧ Below w.heap.size w w' := by
  have h1 := pa.implPat p.length (bt.rankP p) w
  rw [h.pok, h.pat] at h1
  exact h1
theorem dsC (p : List Int) (h : Facts p) (v : Value) (B : Nat) (w : World) (ha : Ints w B v p) (hB : B ≤ w.heap.size) :
    Calls Try.prog 22 #[v] w fun e w' => ∃ v', e = .returned v' ∧ Own w' w.heap.size w'.heap.size v' (descL p) ∧ Below w.heap.size w w' := by
  have := h.l12
  have h1 := implDescents p v B w ha hB (by omega)
  rw [h.desc] at h1
  exact h1
/-- The first elements of both lists, where there are any. -/
theorem heads {p : List Int} (h : Facts p) : ((descL p).length = 0 ↔ (redW p).length = 0) ∧ (0 < (descL p).length → ∃ x, (descL p).getD 0 0 = x ∧ (redW p).getD 0 0 = x) := by
  refine ⟨by rw [List.length_eq_zero_iff, List.length_eq_zero_iff]; exact h.d0, fun hp => ?_⟩
  cases hd : descL p with
  | nil => rw [hd] at hp; cases hp
  | cons x r =>
    have := h.d1 x r hd
    cases hr : redW p with
    | nil => rw [hr] at this; cases this
    | cons y s => rw [hr] at this; simp at this; exact ⟨x, rfl, by simp [this]⟩
theorem first_cell {w : World} {B : Nat} {a : Option Addr} {n c : Nat} {xs : List Int} (h : Ints w B (.slice a n c) xs) (hn : 0 < n) : n = xs.length ∧ ∃ b off, a = some ⟨b, off, none⟩ ∧ w.cell? ⟨b, off, none⟩ = some (.int .i64 (xs.getD 0 0)) := by
  rcases h with ⟨_, ao, cap, hv⟩ | ⟨hp, b, off, cap, hv, _, hc⟩
  · cases hv; cases hn
  · simp only [Value.slice.injEq] at hv
    obtain ⟨rfl, rfl, rfl⟩ := hv
    exact ⟨rfl, b, off, rfl, by simpa using hc 0 hp⟩

set_option maxRecDepth 100000 in
set_option maxHeartbeats 4000000 in
theorem law (b0 : Option Addr) (cap0 n : Nat) (w : World) (hb : Bytes w w.heap.size (.slice b0 n cap0) n) :
    Calls Try.prog 3 #[.slice b0 n cap0] w fun e w' => e = .returned (.bool true) ∧ Below w.heap.size w w' := by
  have mixed : Try.prog.follows .mixedOrders = true := by kernel_rfl
  have HBy := hid hb
  clear hb
  by_cases hbig : n ≤ 3000
  · have hd : decide ((3000 : Int) < (n : Int)) = false := by simp; omega
    go_enter Try.func3, Try.ntmps3
    go_wp2_with fail
    refine (long1 n cap0 b0 false hd w).mono ?_
    rintro e w0 ⟨rfl, rfl⟩
    go_wp2_with fail
    refine (perms n _ w0 HBy.out (by omega)).mono ?_
    rintro e W1 ⟨u1, u2, p, q, k, rfl, hp, hq, hl, o1, o2, b1⟩
    have HFa := hid (facts hp)
    have HFb := hid (facts hq)
    have HInj := hid (rank_inj hp hq hl)
    have HLL := hid hl
    have HNil := hid (nilok_own o1)
    obtain ⟨ua, uc, hu⟩ := own_val o1
    subst hu
    have HHd := hid (heads HFa.out)
    have hk1 := o1.2.2
    have hk2 := b1.size
    have Ia1 : Hid (Ints W1 W1.heap.size (.slice ua p.length uc) p) := hid (o1.ints.mono hk1)
    have Ib1 : Hid (Ints W1 W1.heap.size u2 q) := hid o2.ints
    have C1 := hid b1
    have h12 : p.length ≤ 12 := HFa.out.l12
    clear o1 o2 b1 HBy hp hq hl
    go_wp2_with fail
    refine (idC p HFa.out W1).mono ?_
    rintro e W2 ⟨v2, rfl, o2, b2⟩
    have hz2 := b2.size
    have Ia2 : Hid (Ints W2 W2.heap.size (.slice ua p.length uc) p) := hid ((Ia1.out.chg (Chg.ofBelow (lo := 0) b2) (.inr (Nat.zero_le _))).mono hz2)
    have Ib2 : Hid (Ints W2 W2.heap.size u2 q) := hid ((Ib1.out.chg (Chg.ofBelow (lo := 0) b2) (.inr (Nat.zero_le _))).mono hz2)
    have Ii2 : Hid (Ints W2 W2.heap.size v2 (ids p.length)) := hid o2.ints
    have C2 := hid (C1.out.trans (b2.mono (by have := C1.out.size; omega)))
    clear Ia1 Ib1 o2 C1 b2
    go_wp2_with fail
    refine (ivC p HFa.out _ _ W2 Ia2.out (Nat.le_refl _)).mono ?_
    rintro e W3 ⟨v3, rfl, o3, b3⟩
    have hz3 := b3.size
    have Ia3 : Hid (Ints W3 W3.heap.size (.slice ua p.length uc) p) := hid ((Ia2.out.chg (Chg.ofBelow (lo := 0) b3) (.inr (Nat.zero_le _))).mono hz3)
    have Ib3 : Hid (Ints W3 W3.heap.size u2 q) := hid ((Ib2.out.chg (Chg.ofBelow (lo := 0) b3) (.inr (Nat.zero_le _))).mono hz3)
    have Ii3 : Hid (Ints W3 W3.heap.size v2 (ids p.length)) := hid ((Ii2.out.chg (Chg.ofBelow (lo := 0) b3) (.inr (Nat.zero_le _))).mono hz3)
    have Iv3 : Hid (Ints W3 W3.heap.size v3 (invL p)) := hid o3.ints
    have C3 := hid (C2.out.trans (b3.mono (by have := C2.out.size; omega)))
    clear Ia2 Ib2 Ii2 o3 C2 b3
    go_wp2_with fail
    refine (cpC p HFa.out _ _ _ _ W3 Ia3.out Iv3.out (Nat.le_refl _) (Nat.le_refl _)).mono ?_
    rintro e W4 ⟨v4, rfl, o4, b4⟩
    have hz4 := b4.size
    have Ia4 : Hid (Ints W4 W4.heap.size (.slice ua p.length uc) p) := hid ((Ia3.out.chg (Chg.ofBelow (lo := 0) b4) (.inr (Nat.zero_le _))).mono hz4)
    have Ib4 : Hid (Ints W4 W4.heap.size u2 q) := hid ((Ib3.out.chg (Chg.ofBelow (lo := 0) b4) (.inr (Nat.zero_le _))).mono hz4)
    have Ii4 : Hid (Ints W4 W4.heap.size v2 (ids p.length)) := hid ((Ii3.out.chg (Chg.ofBelow (lo := 0) b4) (.inr (Nat.zero_le _))).mono hz4)
    have Iv4 : Hid (Ints W4 W4.heap.size v3 (invL p)) := hid ((Iv3.out.chg (Chg.ofBelow (lo := 0) b4) (.inr (Nat.zero_le _))).mono hz4)
    have Ic4 : Hid (Ints W4 W4.heap.size v4 (ids p.length)) := hid o4.ints
    have C4 := hid (C3.out.trans (b4.mono (by have := C3.out.size; omega)))
    clear Ia3 Ib3 Ii3 Iv3 o4 C3 b4
    go_wp2_with fail
    refine (rdC p HFa.out _ _ W4 Ia4.out (Nat.le_refl _) HNil.out).mono ?_
    rintro e W5 ⟨v5, rfl, o5, b5⟩
    have hz5 := b5.size
    have Ia5 : Hid (Ints W5 W5.heap.size (.slice ua p.length uc) p) := hid ((Ia4.out.chg (Chg.ofBelow (lo := 0) b5) (.inr (Nat.zero_le _))).mono hz5)
    have Ib5 : Hid (Ints W5 W5.heap.size u2 q) := hid ((Ib4.out.chg (Chg.ofBelow (lo := 0) b5) (.inr (Nat.zero_le _))).mono hz5)
    have Ii5 : Hid (Ints W5 W5.heap.size v2 (ids p.length)) := hid ((Ii4.out.chg (Chg.ofBelow (lo := 0) b5) (.inr (Nat.zero_le _))).mono hz5)
    have Iv5 : Hid (Ints W5 W5.heap.size v3 (invL p)) := hid ((Iv4.out.chg (Chg.ofBelow (lo := 0) b5) (.inr (Nat.zero_le _))).mono hz5)
    have Ic5 : Hid (Ints W5 W5.heap.size v4 (ids p.length)) := hid ((Ic4.out.chg (Chg.ofBelow (lo := 0) b5) (.inr (Nat.zero_le _))).mono hz5)
    obtain ⟨s5a, s5c, hs5⟩ := own_val o5
    subst hs5
    have Iw5 : Hid (Ints W5 W5.heap.size (.slice s5a ((redW p)).length s5c) (redW p)) := hid o5.ints
    have C5 := hid (C4.out.trans (b5.mono (by have := C4.out.size; omega)))
    clear Ia4 Ib4 Ii4 Iv4 Ic4 o5 C4 b5
    go_wp2_with fail
    refine (pwC p HFa.out _ _ W5 Iw5.out (Nat.le_refl _)).mono ?_
    rintro e W6 ⟨v6, rfl, o6, b6⟩
    have hz6 := b6.size
    have Ia6 : Hid (Ints W6 W6.heap.size (.slice ua p.length uc) p) := hid ((Ia5.out.chg (Chg.ofBelow (lo := 0) b6) (.inr (Nat.zero_le _))).mono hz6)
    have Ib6 : Hid (Ints W6 W6.heap.size u2 q) := hid ((Ib5.out.chg (Chg.ofBelow (lo := 0) b6) (.inr (Nat.zero_le _))).mono hz6)
    have Ii6 : Hid (Ints W6 W6.heap.size v2 (ids p.length)) := hid ((Ii5.out.chg (Chg.ofBelow (lo := 0) b6) (.inr (Nat.zero_le _))).mono hz6)
    have Iv6 : Hid (Ints W6 W6.heap.size v3 (invL p)) := hid ((Iv5.out.chg (Chg.ofBelow (lo := 0) b6) (.inr (Nat.zero_le _))).mono hz6)
    have Ic6 : Hid (Ints W6 W6.heap.size v4 (ids p.length)) := hid ((Ic5.out.chg (Chg.ofBelow (lo := 0) b6) (.inr (Nat.zero_le _))).mono hz6)
    have Iw6 : Hid (Ints W6 W6.heap.size (.slice s5a ((redW p)).length s5c) (redW p)) := hid ((Iw5.out.chg (Chg.ofBelow (lo := 0) b6) (.inr (Nat.zero_le _))).mono hz6)
    have Ig6 : Hid (Ints W6 W6.heap.size v6 p) := hid o6.ints
    have C6 := hid (C5.out.trans (b6.mono (by have := C5.out.size; omega)))
    clear Ia5 Ib5 Ii5 Iv5 Ic5 Iw5 o6 C5 b6
    go_wp2_with fail
    refine (sameQ (ids p.length) (ids p.length) true rfl rfl _ _ _ _ W6 Ic6.out Ii6.out (by rw [ids_len]; omega)).mono ?_
    rintro e W7 ⟨rfl, b7⟩
    have hz7 := b7.size
    have Ia7 : Hid (Ints W7 W7.heap.size (.slice ua p.length uc) p) := hid ((Ia6.out.chg (Chg.ofBelow (lo := 0) b7) (.inr (Nat.zero_le _))).mono hz7)
    have Ib7 : Hid (Ints W7 W7.heap.size u2 q) := hid ((Ib6.out.chg (Chg.ofBelow (lo := 0) b7) (.inr (Nat.zero_le _))).mono hz7)
    have Ii7 : Hid (Ints W7 W7.heap.size v2 (ids p.length)) := hid ((Ii6.out.chg (Chg.ofBelow (lo := 0) b7) (.inr (Nat.zero_le _))).mono hz7)
    have Iv7 : Hid (Ints W7 W7.heap.size v3 (invL p)) := hid ((Iv6.out.chg (Chg.ofBelow (lo := 0) b7) (.inr (Nat.zero_le _))).mono hz7)
    have Ic7 : Hid (Ints W7 W7.heap.size v4 (ids p.length)) := hid ((Ic6.out.chg (Chg.ofBelow (lo := 0) b7) (.inr (Nat.zero_le _))).mono hz7)
    have Iw7 : Hid (Ints W7 W7.heap.size (.slice s5a ((redW p)).length s5c) (redW p)) := hid ((Iw6.out.chg (Chg.ofBelow (lo := 0) b7) (.inr (Nat.zero_le _))).mono hz7)
    have Ig7 : Hid (Ints W7 W7.heap.size v6 p) := hid ((Ig6.out.chg (Chg.ofBelow (lo := 0) b7) (.inr (Nat.zero_le _))).mono hz7)
    have C7 := hid (C6.out.trans (b7.mono (by have := C6.out.size; omega)))
    clear Ia6 Ib6 Ii6 Iv6 Ic6 Iw6 Ig6 C6 b7
    go_wp2_with fail
    refine (nmC p HFa.out _ _ W7 Ia7.out (Nat.le_refl _)).mono ?_
    rintro e W8 ⟨rfl, b8⟩
    have hz8 := b8.size
    have Ia8 : Hid (Ints W8 W8.heap.size (.slice ua p.length uc) p) := hid ((Ia7.out.chg (Chg.ofBelow (lo := 0) b8) (.inr (Nat.zero_le _))).mono hz8)
    have Ib8 : Hid (Ints W8 W8.heap.size u2 q) := hid ((Ib7.out.chg (Chg.ofBelow (lo := 0) b8) (.inr (Nat.zero_le _))).mono hz8)
    have Iw8 : Hid (Ints W8 W8.heap.size (.slice s5a ((redW p)).length s5c) (redW p)) := hid ((Iw7.out.chg (Chg.ofBelow (lo := 0) b8) (.inr (Nat.zero_le _))).mono hz8)
    have Ig8 : Hid (Ints W8 W8.heap.size v6 p) := hid ((Ig7.out.chg (Chg.ofBelow (lo := 0) b8) (.inr (Nat.zero_le _))).mono hz8)
    have C8 := hid (C7.out.trans (b8.mono (by have := C7.out.size; omega)))
    clear Ia7 Ib7 Iw7 Ig7 C7 b8
    go_wp2_with fail
    refine (sameQ p p true rfl rfl _ _ _ _ W8 Ig8.out Ia8.out (by omega)).mono ?_
    rintro e W9 ⟨rfl, b9⟩
    have hz9 := b9.size
    have Ia9 : Hid (Ints W9 W9.heap.size (.slice ua p.length uc) p) := hid ((Ia8.out.chg (Chg.ofBelow (lo := 0) b9) (.inr (Nat.zero_le _))).mono hz9)
    have Ib9 : Hid (Ints W9 W9.heap.size u2 q) := hid ((Ib8.out.chg (Chg.ofBelow (lo := 0) b9) (.inr (Nat.zero_le _))).mono hz9)
    have Iw9 : Hid (Ints W9 W9.heap.size (.slice s5a ((redW p)).length s5c) (redW p)) := hid ((Iw8.out.chg (Chg.ofBelow (lo := 0) b9) (.inr (Nat.zero_le _))).mono hz9)
    have Ig9 : Hid (Ints W9 W9.heap.size v6 p) := hid ((Ig8.out.chg (Chg.ofBelow (lo := 0) b9) (.inr (Nat.zero_le _))).mono hz9)
    have C9 := hid (C8.out.trans (b9.mono (by have := C8.out.size; omega)))
    clear Ia8 Ib8 Iw8 Ig8 C8 b9
    go_wp2_with fail
    refine (rkC p HFa.out.l12 _ _ W9 Ia9.out (Nat.le_refl _)).mono ?_
    rintro e W10 ⟨rfl, b10⟩
    have hz10 := b10.size
    have Ia10 : Hid (Ints W10 W10.heap.size (.slice ua p.length uc) p) := hid ((Ia9.out.chg (Chg.ofBelow (lo := 0) b10) (.inr (Nat.zero_le _))).mono hz10)
    have Ib10 : Hid (Ints W10 W10.heap.size u2 q) := hid ((Ib9.out.chg (Chg.ofBelow (lo := 0) b10) (.inr (Nat.zero_le _))).mono hz10)
    have Iw10 : Hid (Ints W10 W10.heap.size (.slice s5a ((redW p)).length s5c) (redW p)) := hid ((Iw9.out.chg (Chg.ofBelow (lo := 0) b10) (.inr (Nat.zero_le _))).mono hz10)
    have C10 := hid (C9.out.trans (b10.mono (by have := C9.out.size; omega)))
    clear Ia9 Ib9 Iw9 C9 b10
    go_wp2_with fail
    refine (ptC p HFa.out W10).mono ?_
    rintro e W11 ⟨v11, rfl, o11, b11⟩
    have hz11 := b11.size
    have Ia11 : Hid (Ints W11 W11.heap.size (.slice ua p.length uc) p) := hid ((Ia10.out.chg (Chg.ofBelow (lo := 0) b11) (.inr (Nat.zero_le _))).mono hz11)
    have Ib11 : Hid (Ints W11 W11.heap.size u2 q) := hid ((Ib10.out.chg (Chg.ofBelow (lo := 0) b11) (.inr (Nat.zero_le _))).mono hz11)
    have Iw11 : Hid (Ints W11 W11.heap.size (.slice s5a ((redW p)).length s5c) (redW p)) := hid ((Iw10.out.chg (Chg.ofBelow (lo := 0) b11) (.inr (Nat.zero_le _))).mono hz11)
    have Ix11 : Hid (Ints W11 W11.heap.size v11 p) := hid o11.ints
    have C11 := hid (C10.out.trans (b11.mono (by have := C10.out.size; omega)))
    clear Ia10 Ib10 Iw10 o11 C10 b11
    go_wp2_with fail
    refine (dsC p HFa.out _ _ W11 Ia11.out (Nat.le_refl _)).mono ?_
    rintro e W12 ⟨v12, rfl, o12, b12⟩
    have hz12 := b12.size
    have Ia12 : Hid (Ints W12 W12.heap.size (.slice ua p.length uc) p) := hid ((Ia11.out.chg (Chg.ofBelow (lo := 0) b12) (.inr (Nat.zero_le _))).mono hz12)
    have Ib12 : Hid (Ints W12 W12.heap.size u2 q) := hid ((Ib11.out.chg (Chg.ofBelow (lo := 0) b12) (.inr (Nat.zero_le _))).mono hz12)
    have Iw12 : Hid (Ints W12 W12.heap.size (.slice s5a ((redW p)).length s5c) (redW p)) := hid ((Iw11.out.chg (Chg.ofBelow (lo := 0) b12) (.inr (Nat.zero_le _))).mono hz12)
    have Ix12 : Hid (Ints W12 W12.heap.size v11 p) := hid ((Ix11.out.chg (Chg.ofBelow (lo := 0) b12) (.inr (Nat.zero_le _))).mono hz12)
    obtain ⟨s12a, s12c, hs12⟩ := own_val o12
    subst hs12
    have Id12 : Hid (Ints W12 W12.heap.size (.slice s12a ((descL p)).length s12c) (descL p)) := hid o12.ints
    have C12 := hid (C11.out.trans (b12.mono (by have := C11.out.size; omega)))
    clear Ia11 Ib11 Iw11 Ix11 o12 C11 b12
    have HEq : Hid (bt.rankP p = bt.rankP q ↔ p = q) := hid HInj.out
    have hdl := HFa.out.dl
    have hwl := HFa.out.wl
    have hh := HHd.out
    by_cases hd0 : (descL p).length = 0
    · have hw0 := hh.1.1 hd0
      have HWN := hid hw0
      rw [hd0, hw0]
      have HS1 := hid (fun (d : Nat) (os : Array Obj) => sameQ p p true rfl rfl _ _ _ _ (grow (redrawn W12 d) os) ((Ix12.out.chg (Chg.ofBelow (lo := 0) (below_regrown W12 d os)) (.inr (Nat.zero_le _))).mono (below_regrown W12 d os).size) ((Ia12.out.chg (Chg.ofBelow (lo := 0) (below_regrown W12 d os)) (.inr (Nat.zero_le _))).mono (below_regrown W12 d os).size) (by omega))
      have HS2 := hid (fun (d : Nat) (os : Array Obj) => nmK p HFa.out _ HWN.out _ _ (grow (redrawn W12 d) os) ((Ia12.out.chg (Chg.ofBelow (lo := 0) (below_regrown W12 d os)) (.inr (Nat.zero_le _))).mono (below_regrown W12 d os).size) (Nat.le_refl _))
      go_wp2_with fail
      refine wp_region_quiet_below mixed (by kernel_rfl) ?_
      repeat (go_big_quiet_step ((first | (go_at_call 18; exact Calls.regrown_of (HS1.out _ _)) | (go_at_call 19; exact Calls.regrown_of (HS2.out _ _)))))
      refine wpQuiet_nil ?_
      intro _ hw'
      obtain ⟨⟨nq, osq⟩, hw''⟩ := hw'
      subst hw''
      have bR := below_regrown W12 nq osq
      have hz13 := bR.size
      have Ia13 := hid ((Ia12.out.chg (Chg.ofBelow (lo := 0) bR) (.inr (Nat.zero_le _))).mono hz13)
      have Ib13 := hid ((Ib12.out.chg (Chg.ofBelow (lo := 0) bR) (.inr (Nat.zero_le _))).mono hz13)
      have Ix13 := hid ((Ix12.out.chg (Chg.ofBelow (lo := 0) bR) (.inr (Nat.zero_le _))).mono hz13)
      have C13 := hid (C12.out.trans (bR.mono (by have := C12.out.size; omega)))
      clear Ia12 Ib12 Ix12 C12 bR HS1 HS2
      generalize grow (redrawn W12 nq) osq = W13 at *
      go_wp2_with fail
      refine (rkC p HFa.out.l12 _ _ W13 Ia13.out (Nat.le_refl _)).mono ?_
      rintro e W14 ⟨rfl, b14⟩
      have hz14 := b14.size
      have Ia14 : Hid (Ints W14 W14.heap.size (.slice ua p.length uc) p) := hid ((Ia13.out.chg (Chg.ofBelow (lo := 0) b14) (.inr (Nat.zero_le _))).mono hz14)
      have Ib14 : Hid (Ints W14 W14.heap.size u2 q) := hid ((Ib13.out.chg (Chg.ofBelow (lo := 0) b14) (.inr (Nat.zero_le _))).mono hz14)
      have C14 := hid (C13.out.trans (b14.mono (by have := C13.out.size; omega)))
      clear Ia13 Ib13 C13 b14
      go_wp2_with fail
      refine (rkC q HFb.out.l12 _ _ W14 Ib14.out (Nat.le_refl _)).mono ?_
      rintro e W15 ⟨rfl, b15⟩
      have hz15 := b15.size
      have Ia15 : Hid (Ints W15 W15.heap.size (.slice ua p.length uc) p) := hid ((Ia14.out.chg (Chg.ofBelow (lo := 0) b15) (.inr (Nat.zero_le _))).mono hz15)
      have Ib15 : Hid (Ints W15 W15.heap.size u2 q) := hid ((Ib14.out.chg (Chg.ofBelow (lo := 0) b15) (.inr (Nat.zero_le _))).mono hz15)
      have C15 := hid (C14.out.trans (b15.mono (by have := C14.out.size; omega)))
      clear Ia14 Ib14 C14 b15
      go_wp2_with fail
      refine (same2 p q _ _ _ _ W15 Ia15.out Ib15.out (by omega) (by have := HLL.out; omega)).mono ?_
      rintro e W16 ⟨rfl, b16⟩
      have hz16 := b16.size
      have Ia16 : Hid (Ints W16 W16.heap.size (.slice ua p.length uc) p) := hid ((Ia15.out.chg (Chg.ofBelow (lo := 0) b16) (.inr (Nat.zero_le _))).mono hz16)
      have Ib16 : Hid (Ints W16 W16.heap.size u2 q) := hid ((Ib15.out.chg (Chg.ofBelow (lo := 0) b16) (.inr (Nat.zero_le _))).mono hz16)
      have C16 := hid (C15.out.trans (b16.mono (by have := C15.out.size; omega)))
      clear Ia15 Ib15 C15 b16
      obtain ⟨z, hz⟩ : ∃ z, sameB p q = z := ⟨_, rfl⟩
      obtain ⟨r, hr⟩ : ∃ r, bt.rankP p = r := ⟨_, rfl⟩
      obtain ⟨r2, hr2⟩ : ∃ r2, bt.rankP q = r2 := ⟨_, rfl⟩
      have HE := HEq.out
      rw [hz, hr, hr2]
      rw [hr, hr2] at HE
      clear hr hr2
      have hb3 : (r == r2) = z := by
        cases z
        · have hne : ¬ r = r2 := fun h => by rw [HE.1 h, sameB_self] at hz; cases hz
          simpa using hne
        · have : p = q := by simpa [sameB] using hz
          simpa using HE.2 this
      have hb4 : decide (r = r2) = z := by rw [← hb3]; rfl
      clear HE hz
      cases z
      · go_wp2_with fail
        refine (ivC p HFa.out _ _ W16 Ia16.out (Nat.le_refl _)).mono ?_
        rintro e W17 ⟨v17, rfl, o17, b17⟩
        have hz17 := b17.size
        have Ia17 : Hid (Ints W17 W17.heap.size (.slice ua p.length uc) p) := hid ((Ia16.out.chg (Chg.ofBelow (lo := 0) b17) (.inr (Nat.zero_le _))).mono hz17)
        have Ib17 : Hid (Ints W17 W17.heap.size u2 q) := hid ((Ib16.out.chg (Chg.ofBelow (lo := 0) b17) (.inr (Nat.zero_le _))).mono hz17)
        have Iv17 : Hid (Ints W17 W17.heap.size v17 (invL p)) := hid o17.ints
        have C17 := hid (C16.out.trans (b17.mono (by have := C16.out.size; omega)))
        clear Ia16 Ib16 o17 C16 b17
        go_wp2_with fail
        refine (niC p HFa.out _ _ W17 Iv17.out (Nat.le_refl _)).mono ?_
        rintro e W18 ⟨rfl, b18⟩
        have hz18 := b18.size
        have Ia18 : Hid (Ints W18 W18.heap.size (.slice ua p.length uc) p) := hid ((Ia17.out.chg (Chg.ofBelow (lo := 0) b18) (.inr (Nat.zero_le _))).mono hz18)
        have Ib18 : Hid (Ints W18 W18.heap.size u2 q) := hid ((Ib17.out.chg (Chg.ofBelow (lo := 0) b18) (.inr (Nat.zero_le _))).mono hz18)
        have Iv18 : Hid (Ints W18 W18.heap.size v17 (invL p)) := hid ((Iv17.out.chg (Chg.ofBelow (lo := 0) b18) (.inr (Nat.zero_le _))).mono hz18)
        have C18 := hid (C17.out.trans (b18.mono (by have := C17.out.size; omega)))
        clear Ia17 Ib17 Iv17 C17 b18
        go_wp2_with fail
        refine (nmC p HFa.out _ _ W18 Ia18.out (Nat.le_refl _)).mono ?_
        rintro e W19 ⟨rfl, b19⟩
        have hz19 := b19.size
        have Ia19 : Hid (Ints W19 W19.heap.size (.slice ua p.length uc) p) := hid ((Ia18.out.chg (Chg.ofBelow (lo := 0) b19) (.inr (Nat.zero_le _))).mono hz19)
        have Ib19 : Hid (Ints W19 W19.heap.size u2 q) := hid ((Ib18.out.chg (Chg.ofBelow (lo := 0) b19) (.inr (Nat.zero_le _))).mono hz19)
        have Iv19 : Hid (Ints W19 W19.heap.size v17 (invL p)) := hid ((Iv18.out.chg (Chg.ofBelow (lo := 0) b19) (.inr (Nat.zero_le _))).mono hz19)
        have C19 := hid (C18.out.trans (b19.mono (by have := C18.out.size; omega)))
        clear Ia18 Ib18 Iv18 C18 b19
        go_wp2
        go_ret
        exact ⟨rfl, C19.out⟩
      · go_wp2_with fail
        refine (ivC p HFa.out _ _ W16 Ia16.out (Nat.le_refl _)).mono ?_
        rintro e W17 ⟨v17, rfl, o17, b17⟩
        have hz17 := b17.size
        have Ia17 : Hid (Ints W17 W17.heap.size (.slice ua p.length uc) p) := hid ((Ia16.out.chg (Chg.ofBelow (lo := 0) b17) (.inr (Nat.zero_le _))).mono hz17)
        have Ib17 : Hid (Ints W17 W17.heap.size u2 q) := hid ((Ib16.out.chg (Chg.ofBelow (lo := 0) b17) (.inr (Nat.zero_le _))).mono hz17)
        have Iv17 : Hid (Ints W17 W17.heap.size v17 (invL p)) := hid o17.ints
        have C17 := hid (C16.out.trans (b17.mono (by have := C16.out.size; omega)))
        clear Ia16 Ib16 o17 C16 b17
        go_wp2_with fail
        refine (niC p HFa.out _ _ W17 Iv17.out (Nat.le_refl _)).mono ?_
        rintro e W18 ⟨rfl, b18⟩
        have hz18 := b18.size
        have Ia18 : Hid (Ints W18 W18.heap.size (.slice ua p.length uc) p) := hid ((Ia17.out.chg (Chg.ofBelow (lo := 0) b18) (.inr (Nat.zero_le _))).mono hz18)
        have Ib18 : Hid (Ints W18 W18.heap.size u2 q) := hid ((Ib17.out.chg (Chg.ofBelow (lo := 0) b18) (.inr (Nat.zero_le _))).mono hz18)
        have Iv18 : Hid (Ints W18 W18.heap.size v17 (invL p)) := hid ((Iv17.out.chg (Chg.ofBelow (lo := 0) b18) (.inr (Nat.zero_le _))).mono hz18)
        have C18 := hid (C17.out.trans (b18.mono (by have := C17.out.size; omega)))
        clear Ia17 Ib17 Iv17 C17 b18
        go_wp2_with fail
        refine (nmC p HFa.out _ _ W18 Ia18.out (Nat.le_refl _)).mono ?_
        rintro e W19 ⟨rfl, b19⟩
        have hz19 := b19.size
        have Ia19 : Hid (Ints W19 W19.heap.size (.slice ua p.length uc) p) := hid ((Ia18.out.chg (Chg.ofBelow (lo := 0) b19) (.inr (Nat.zero_le _))).mono hz19)
        have Ib19 : Hid (Ints W19 W19.heap.size u2 q) := hid ((Ib18.out.chg (Chg.ofBelow (lo := 0) b19) (.inr (Nat.zero_le _))).mono hz19)
        have Iv19 : Hid (Ints W19 W19.heap.size v17 (invL p)) := hid ((Iv18.out.chg (Chg.ofBelow (lo := 0) b19) (.inr (Nat.zero_le _))).mono hz19)
        have C19 := hid (C18.out.trans (b19.mono (by have := C18.out.size; omega)))
        clear Ia18 Ib18 Iv18 C18 b19
        go_wp2
        go_ret
        exact ⟨rfl, C19.out⟩
    · have hw0 : ¬ (redW p).length = 0 := fun h => hd0 (hh.1.2 h)
      obtain ⟨x, hx1, hx2⟩ := hh.2 (by omega)
      obtain ⟨_, wb, wo, hwa, kw12⟩ := first_cell Iw12.out (by omega)
      obtain ⟨_, db, dof, hda, kd12⟩ := first_cell Id12.out (by omega)
      subst hwa
      subst hda
      rw [hx1] at kd12
      rw [hx2] at kw12
      have kwl12 := World.block_lt_of_cell? _ _ kw12
      have kdl12 := World.block_lt_of_cell? _ _ kd12
      have hg1 : 0 < (descL p).length := by omega
      have hg2 : 0 < (redW p).length := by omega
      have hg3 : (((descL p).length : Int) == 0) = false := beq_eq_false_iff_ne.2 (by omega)
      have hg4 : (((redW p).length : Int) == 0) = false := beq_eq_false_iff_ne.2 (by omega)
      have hg5 : decide ((descL p).length = 0) = false := decide_eq_false (by omega)
      have hg6 : decide ((redW p).length = 0) = false := decide_eq_false (by omega)
      generalize (descL p).length = dn at *
      obtain ⟨wn, hwn⟩ : ∃ x, (redW p).length = x := ⟨_, rfl⟩
      rw [hwn] at hg2 hg4 hg6 hw0 ⊢
      have HWN := hid hwn
      clear hwn
      clear hh hx1 hx2
      have HS1 := hid (fun (d : Nat) (os : Array Obj) => sameQ p p true rfl rfl _ _ _ _ (grow (redrawn W12 d) os) ((Ix12.out.chg (Chg.ofBelow (lo := 0) (below_regrown W12 d os)) (.inr (Nat.zero_le _))).mono (below_regrown W12 d os).size) ((Ia12.out.chg (Chg.ofBelow (lo := 0) (below_regrown W12 d os)) (.inr (Nat.zero_le _))).mono (below_regrown W12 d os).size) (by omega))
      have HS2 := hid (fun (d : Nat) (os : Array Obj) => nmK p HFa.out _ HWN.out _ _ (grow (redrawn W12 d) os) ((Ia12.out.chg (Chg.ofBelow (lo := 0) (below_regrown W12 d os)) (.inr (Nat.zero_le _))).mono (below_regrown W12 d os).size) (Nat.le_refl _))
      have gkw := fun d os => cell_regrown kw12 d os
      have gkd := fun d os => cell_regrown kd12 d os
      go_wp2_with fail
      refine wp_region_quiet_below mixed (by kernel_rfl) ?_
      repeat (go_big_quiet_step ((first | (go_at_call 18; exact Calls.regrown_of (HS1.out _ _)) | (go_at_call 19; exact Calls.regrown_of (HS2.out _ _)))))
      refine wpQuiet_nil ?_
      intro _ hw'
      obtain ⟨⟨nq, osq⟩, hw''⟩ := hw'
      subst hw''
      have bR := below_regrown W12 nq osq
      have hz13 := bR.size
      have Ia13 := hid ((Ia12.out.chg (Chg.ofBelow (lo := 0) bR) (.inr (Nat.zero_le _))).mono hz13)
      have Ib13 := hid ((Ib12.out.chg (Chg.ofBelow (lo := 0) bR) (.inr (Nat.zero_le _))).mono hz13)
      have Ix13 := hid ((Ix12.out.chg (Chg.ofBelow (lo := 0) bR) (.inr (Nat.zero_le _))).mono hz13)
      have C13 := hid (C12.out.trans (bR.mono (by have := C12.out.size; omega)))
      clear Ia12 Ib12 Ix12 C12 bR HS1 HS2 gkw gkd kw12 kd12
      generalize grow (redrawn W12 nq) osq = W13 at *
      go_wp2_with fail
      refine (rkC p HFa.out.l12 _ _ W13 Ia13.out (Nat.le_refl _)).mono ?_
      rintro e W14 ⟨rfl, b14⟩
      have hz14 := b14.size
      have Ia14 : Hid (Ints W14 W14.heap.size (.slice ua p.length uc) p) := hid ((Ia13.out.chg (Chg.ofBelow (lo := 0) b14) (.inr (Nat.zero_le _))).mono hz14)
      have Ib14 : Hid (Ints W14 W14.heap.size u2 q) := hid ((Ib13.out.chg (Chg.ofBelow (lo := 0) b14) (.inr (Nat.zero_le _))).mono hz14)
      have C14 := hid (C13.out.trans (b14.mono (by have := C13.out.size; omega)))
      clear Ia13 Ib13 C13 b14
      go_wp2_with fail
      refine (rkC q HFb.out.l12 _ _ W14 Ib14.out (Nat.le_refl _)).mono ?_
      rintro e W15 ⟨rfl, b15⟩
      have hz15 := b15.size
      have Ia15 : Hid (Ints W15 W15.heap.size (.slice ua p.length uc) p) := hid ((Ia14.out.chg (Chg.ofBelow (lo := 0) b15) (.inr (Nat.zero_le _))).mono hz15)
      have Ib15 : Hid (Ints W15 W15.heap.size u2 q) := hid ((Ib14.out.chg (Chg.ofBelow (lo := 0) b15) (.inr (Nat.zero_le _))).mono hz15)
      have C15 := hid (C14.out.trans (b15.mono (by have := C14.out.size; omega)))
      clear Ia14 Ib14 C14 b15
      go_wp2_with fail
      refine (same2 p q _ _ _ _ W15 Ia15.out Ib15.out (by omega) (by have := HLL.out; omega)).mono ?_
      rintro e W16 ⟨rfl, b16⟩
      have hz16 := b16.size
      have Ia16 : Hid (Ints W16 W16.heap.size (.slice ua p.length uc) p) := hid ((Ia15.out.chg (Chg.ofBelow (lo := 0) b16) (.inr (Nat.zero_le _))).mono hz16)
      have Ib16 : Hid (Ints W16 W16.heap.size u2 q) := hid ((Ib15.out.chg (Chg.ofBelow (lo := 0) b16) (.inr (Nat.zero_le _))).mono hz16)
      have C16 := hid (C15.out.trans (b16.mono (by have := C15.out.size; omega)))
      clear Ia15 Ib15 C15 b16
      obtain ⟨z, hz⟩ : ∃ z, sameB p q = z := ⟨_, rfl⟩
      obtain ⟨r, hr⟩ : ∃ r, bt.rankP p = r := ⟨_, rfl⟩
      obtain ⟨r2, hr2⟩ : ∃ r2, bt.rankP q = r2 := ⟨_, rfl⟩
      have HE := HEq.out
      rw [hz, hr, hr2]
      rw [hr, hr2] at HE
      clear hr hr2
      have hb3 : (r == r2) = z := by
        cases z
        · have hne : ¬ r = r2 := fun h => by rw [HE.1 h, sameB_self] at hz; cases hz
          simpa using hne
        · have : p = q := by simpa [sameB] using hz
          simpa using HE.2 this
      have hb4 : decide (r = r2) = z := by rw [← hb3]; rfl
      clear HE hz
      cases z
      · go_wp2_with fail
        refine (ivC p HFa.out _ _ W16 Ia16.out (Nat.le_refl _)).mono ?_
        rintro e W17 ⟨v17, rfl, o17, b17⟩
        have hz17 := b17.size
        have Ia17 : Hid (Ints W17 W17.heap.size (.slice ua p.length uc) p) := hid ((Ia16.out.chg (Chg.ofBelow (lo := 0) b17) (.inr (Nat.zero_le _))).mono hz17)
        have Ib17 : Hid (Ints W17 W17.heap.size u2 q) := hid ((Ib16.out.chg (Chg.ofBelow (lo := 0) b17) (.inr (Nat.zero_le _))).mono hz17)
        have Iv17 : Hid (Ints W17 W17.heap.size v17 (invL p)) := hid o17.ints
        have C17 := hid (C16.out.trans (b17.mono (by have := C16.out.size; omega)))
        clear Ia16 Ib16 o17 C16 b17
        go_wp2_with fail
        refine (niC p HFa.out _ _ W17 Iv17.out (Nat.le_refl _)).mono ?_
        rintro e W18 ⟨rfl, b18⟩
        have hz18 := b18.size
        have Ia18 : Hid (Ints W18 W18.heap.size (.slice ua p.length uc) p) := hid ((Ia17.out.chg (Chg.ofBelow (lo := 0) b18) (.inr (Nat.zero_le _))).mono hz18)
        have Ib18 : Hid (Ints W18 W18.heap.size u2 q) := hid ((Ib17.out.chg (Chg.ofBelow (lo := 0) b18) (.inr (Nat.zero_le _))).mono hz18)
        have Iv18 : Hid (Ints W18 W18.heap.size v17 (invL p)) := hid ((Iv17.out.chg (Chg.ofBelow (lo := 0) b18) (.inr (Nat.zero_le _))).mono hz18)
        have C18 := hid (C17.out.trans (b18.mono (by have := C17.out.size; omega)))
        clear Ia17 Ib17 Iv17 C17 b18
        go_wp2_with fail
        refine (nmC p HFa.out _ _ W18 Ia18.out (Nat.le_refl _)).mono ?_
        rintro e W19 ⟨rfl, b19⟩
        have hz19 := b19.size
        have Ia19 : Hid (Ints W19 W19.heap.size (.slice ua p.length uc) p) := hid ((Ia18.out.chg (Chg.ofBelow (lo := 0) b19) (.inr (Nat.zero_le _))).mono hz19)
        have Ib19 : Hid (Ints W19 W19.heap.size u2 q) := hid ((Ib18.out.chg (Chg.ofBelow (lo := 0) b19) (.inr (Nat.zero_le _))).mono hz19)
        have Iv19 : Hid (Ints W19 W19.heap.size v17 (invL p)) := hid ((Iv18.out.chg (Chg.ofBelow (lo := 0) b19) (.inr (Nat.zero_le _))).mono hz19)
        have C19 := hid (C18.out.trans (b19.mono (by have := C18.out.size; omega)))
        clear Ia18 Ib18 Iv18 C18 b19
        go_wp2
        go_ret
        exact ⟨rfl, C19.out⟩
      · go_wp2_with fail
        refine (ivC p HFa.out _ _ W16 Ia16.out (Nat.le_refl _)).mono ?_
        rintro e W17 ⟨v17, rfl, o17, b17⟩
        have hz17 := b17.size
        have Ia17 : Hid (Ints W17 W17.heap.size (.slice ua p.length uc) p) := hid ((Ia16.out.chg (Chg.ofBelow (lo := 0) b17) (.inr (Nat.zero_le _))).mono hz17)
        have Ib17 : Hid (Ints W17 W17.heap.size u2 q) := hid ((Ib16.out.chg (Chg.ofBelow (lo := 0) b17) (.inr (Nat.zero_le _))).mono hz17)
        have Iv17 : Hid (Ints W17 W17.heap.size v17 (invL p)) := hid o17.ints
        have C17 := hid (C16.out.trans (b17.mono (by have := C16.out.size; omega)))
        clear Ia16 Ib16 o17 C16 b17
        go_wp2_with fail
        refine (niC p HFa.out _ _ W17 Iv17.out (Nat.le_refl _)).mono ?_
        rintro e W18 ⟨rfl, b18⟩
        have hz18 := b18.size
        have Ia18 : Hid (Ints W18 W18.heap.size (.slice ua p.length uc) p) := hid ((Ia17.out.chg (Chg.ofBelow (lo := 0) b18) (.inr (Nat.zero_le _))).mono hz18)
        have Ib18 : Hid (Ints W18 W18.heap.size u2 q) := hid ((Ib17.out.chg (Chg.ofBelow (lo := 0) b18) (.inr (Nat.zero_le _))).mono hz18)
        have Iv18 : Hid (Ints W18 W18.heap.size v17 (invL p)) := hid ((Iv17.out.chg (Chg.ofBelow (lo := 0) b18) (.inr (Nat.zero_le _))).mono hz18)
        have C18 := hid (C17.out.trans (b18.mono (by have := C17.out.size; omega)))
        clear Ia17 Ib17 Iv17 C17 b18
        go_wp2_with fail
        refine (nmC p HFa.out _ _ W18 Ia18.out (Nat.le_refl _)).mono ?_
        rintro e W19 ⟨rfl, b19⟩
        have hz19 := b19.size
        have Ia19 : Hid (Ints W19 W19.heap.size (.slice ua p.length uc) p) := hid ((Ia18.out.chg (Chg.ofBelow (lo := 0) b19) (.inr (Nat.zero_le _))).mono hz19)
        have Ib19 : Hid (Ints W19 W19.heap.size u2 q) := hid ((Ib18.out.chg (Chg.ofBelow (lo := 0) b19) (.inr (Nat.zero_le _))).mono hz19)
        have Iv19 : Hid (Ints W19 W19.heap.size v17 (invL p)) := hid ((Iv18.out.chg (Chg.ofBelow (lo := 0) b19) (.inr (Nat.zero_le _))).mono hz19)
        have C19 := hid (C18.out.trans (b19.mono (by have := C18.out.size; omega)))
        clear Ia18 Ib18 Iv18 C18 b19
        go_wp2
        go_ret
        exact ⟨rfl, C19.out⟩
  · have hd : decide ((3000 : Int) < (n : Int)) = true := by simp; omega
    go_enter Try.func3, Try.ntmps3
    go_wp2_with fail
    refine (long1 n cap0 b0 true hd w).mono ?_
    rintro e w0 ⟨rfl, rfl⟩
    go_wp2
    go_ret
    exact ⟨rfl, Below.refl _ _⟩

end Go.Proofs.Ytaconeliiicloaa.wpf
