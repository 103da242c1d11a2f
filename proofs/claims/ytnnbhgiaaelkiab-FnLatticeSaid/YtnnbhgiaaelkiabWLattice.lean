/-
  The walk of the law FnLattice.
-/
import Derived.Test.YtnnbhgiaaelkiabLt2
namespace Go.Proofs.Ytnnbhgiaaelkiab.wlat
open Go.RowKit Go.Proofs.Ytnnbhgiaaelkiab.sl Go.Proofs.Ytnnbhgiaaelkiab.pm Go.Proofs.Ytnnbhgiaaelkiab.fn Go.Proofs.Ytnnbhgiaaelkiab.la Go.Proofs.Ytnnbhgiaaelkiab.mj Go.Proofs.Ytnnbhgiaaelkiab.sr Go.Proofs.Ytnnbhgiaaelkiab.lt
set_option linter.unusedVariables false

theorem meetC (p q : List Int) (r : List Int) (hp : permB p = true) (hq : permB q = true) (hl : p.length = q.length) (hr : meetL p q = r) (v u : Value) (B C : Nat) (w : World) (ha : Ints w B v p) (hb : Ints w C u q) (hB : B ≤ w.heap.size) (hC : C ≤ w.heap.size) :
    Calls Try.prog 30 #[v, u] w fun e w' => ∃ v', e = .returned (.tuple #[v', .bool true]) ∧ Own w' w.heap.size w'.heap.size v' r ∧ Below w.heap.size w w' := by
  have hbo : bothB p q = true := by simp [bothB, hp, hq, hl]
  have h1 := perm_len hp
  have h2 := perm_len hq
  have h := implMeetP p q v u B C w ha hb hB hC (by omega) (by omega)
  rw [mtP, if_pos hbo, hbo, hr] at h
  exact h
theorem joinC (p q : List Int) (r : List Int) (hp : permB p = true) (hq : permB q = true) (hl : p.length = q.length) (hr : joinL p q = r) (v u : Value) (B C : Nat) (w : World) (ha : Ints w B v p) (hb : Ints w C u q) (hB : B ≤ w.heap.size) (hC : C ≤ w.heap.size) :
    Calls Try.prog 31 #[v, u] w fun e w' => ∃ v', e = .returned (.tuple #[v', .bool true]) ∧ Own w' w.heap.size w'.heap.size v' r ∧ Below w.heap.size w w' := by
  have hbo : bothB p q = true := by simp [bothB, hp, hq, hl]
  have h1 := perm_len hp
  have h2 := perm_len hq
  have h := implJoinP p q v u B C w ha hb hB hC (by omega) (by omega)
  rw [jnP, if_pos hbo, hbo, hr] at h
  exact h
theorem validC (p : List Int) (hp : permB p = true) (v : Value) (B : Nat) (w : World) (ha : Ints w B v p) (hB : B ≤ w.heap.size) :
    Calls Try.prog 32 #[v] w fun e w' => e = .returned (.bool true) ∧ Below w.heap.size w w' := by
  have h1 := perm_len hp
  have h := specValid p v B w ha hB (by omega)
  rw [hp] at h
  exact h
structure Facts (p q m j : List Int) : Prop where
  hp : permB p = true
  hq : permB q = true
  hm : permB m = true
  hj : permB j = true
  lq : p.length = q.length
  lm : p.length = m.length
  lj : p.length = j.length
  mp : Under m p
  mq : Under m q
  pj : Under p j
  qj : Under q j
  e1 : meetL p q = m
  e2 : joinL p q = j
  e3 : meetL p j = p
  e4 : joinL p m = p
  e5 : meetL q p = m
  e6 : joinL q p = j
  up : Under p q → m = p ∧ j = q
theorem facts {p q : List Int} (hp : permB p = true) (hq : permB q = true) (hl : p.length = q.length) : Facts p q (meetL p q) (joinL p q) :=
  ⟨hp, hq, meet_perm hp hl, join_perm p q hl (perm_len hp), hl, (meetL_len p q).symm, (joinL_len p q).symm, meet_left hp hl, meet_right hp hq hl, join_left p q hl, join_right p q hl, rfl, rfl, meet_absorb hp hq hl, join_absorb hp hl, meet_comm hl, join_comm hl, fun h => ⟨under_meet hp hq hl h, under_join hp hq hl h⟩⟩

set_option maxRecDepth 20000 in
set_option maxHeartbeats 2000000 in
theorem law (b0 : Option Addr) (cap0 n : Nat) (w : World) (hb : Bytes w w.heap.size (.slice b0 n cap0) n) :
    Calls Try.prog 7 #[.slice b0 n cap0] w fun e w' => e = .returned (.bool true) ∧ Below w.heap.size w w' := by
  have HBy := hid hb
  clear hb
  by_cases hbig : n ≤ 3000
  · have hd : decide ((3000 : Int) < (n : Int)) = false := by simp; omega
    go_enter Try.func7, Try.ntmps7
    go_wp2_with fail
    refine (long1 n cap0 b0 false hd w).mono ?_
    rintro e w0 ⟨rfl, rfl⟩
    go_wp2_with fail
    refine (perms n _ w0 HBy.out hbig).mono ?_
    rintro e W1 ⟨u1, u2, p, q, k, rfl, hp, hq, hl, o1, o2, b1⟩
    have HFa := hid (facts hp hq hl)
    have h12 : p.length ≤ 12 := perm_len hp
    clear hp hq hl
    obtain ⟨m, hm⟩ : ∃ m, m = meetL p q := ⟨_, rfl⟩
    obtain ⟨j, hj⟩ : ∃ j, j = joinL p q := ⟨_, rfl⟩
    rw [← hm, ← hj] at HFa
    clear hm hj
    have hk1 := o1.2.2
    have hk2 := b1.size
    have Ia1 : Hid (Ints W1 W1.heap.size u1 p) := hid (o1.ints.mono hk1)
    have Ib1 : Hid (Ints W1 W1.heap.size u2 q) := hid o2.ints
    have C1 := hid b1
    clear o1 o2 b1 HBy
    go_wp2_with fail
    refine (meetC p q m HFa.out.hp HFa.out.hq (HFa.out.lq) HFa.out.e1 u1 u2 _ _ W1 Ia1.out Ib1.out (Nat.le_refl _) (Nat.le_refl _)).mono ?_
    rintro e W2 ⟨v2, rfl, o2, b2⟩
    have hz2 := b2.size
    have Ia2 : Hid (Ints W2 W2.heap.size u1 p) := hid ((Ia1.out.chg (Chg.ofBelow (lo := 0) b2) (.inr (Nat.zero_le _))).mono hz2)
    have Ib2 : Hid (Ints W2 W2.heap.size u2 q) := hid ((Ib1.out.chg (Chg.ofBelow (lo := 0) b2) (.inr (Nat.zero_le _))).mono hz2)
    have Im2 : Hid (Ints W2 W2.heap.size v2 m) := hid o2.ints
    have C2 := hid (C1.out.trans (b2.mono (by have := C1.out.size; omega)))
    clear Ia1 Ib1 o2 C1 b2
    go_wp2_with fail
    refine (joinC p q j HFa.out.hp HFa.out.hq (HFa.out.lq) HFa.out.e2 u1 u2 _ _ W2 Ia2.out Ib2.out (Nat.le_refl _) (Nat.le_refl _)).mono ?_
    rintro e W3 ⟨v3, rfl, o3, b3⟩
    have hz3 := b3.size
    have Ia3 : Hid (Ints W3 W3.heap.size u1 p) := hid ((Ia2.out.chg (Chg.ofBelow (lo := 0) b3) (.inr (Nat.zero_le _))).mono hz3)
    have Ib3 : Hid (Ints W3 W3.heap.size u2 q) := hid ((Ib2.out.chg (Chg.ofBelow (lo := 0) b3) (.inr (Nat.zero_le _))).mono hz3)
    have Im3 : Hid (Ints W3 W3.heap.size v2 m) := hid ((Im2.out.chg (Chg.ofBelow (lo := 0) b3) (.inr (Nat.zero_le _))).mono hz3)
    have Ij3 : Hid (Ints W3 W3.heap.size v3 j) := hid o3.ints
    have C3 := hid (C2.out.trans (b3.mono (by have := C2.out.size; omega)))
    clear Ia2 Ib2 Im2 o3 C2 b3
    go_wp2_with fail
    refine (validC m HFa.out.hm v2 _ W3 Im3.out (Nat.le_refl _)).mono ?_
    rintro e W4 ⟨rfl, b4⟩
    have hz4 := b4.size
    have Ia4 : Hid (Ints W4 W4.heap.size u1 p) := hid ((Ia3.out.chg (Chg.ofBelow (lo := 0) b4) (.inr (Nat.zero_le _))).mono hz4)
    have Ib4 : Hid (Ints W4 W4.heap.size u2 q) := hid ((Ib3.out.chg (Chg.ofBelow (lo := 0) b4) (.inr (Nat.zero_le _))).mono hz4)
    have Im4 : Hid (Ints W4 W4.heap.size v2 m) := hid ((Im3.out.chg (Chg.ofBelow (lo := 0) b4) (.inr (Nat.zero_le _))).mono hz4)
    have Ij4 : Hid (Ints W4 W4.heap.size v3 j) := hid ((Ij3.out.chg (Chg.ofBelow (lo := 0) b4) (.inr (Nat.zero_le _))).mono hz4)
    have C4 := hid (C3.out.trans (b4.mono (by have := C3.out.size; omega)))
    clear Ia3 Ib3 Im3 Ij3 C3 b4
    go_wp2_with fail
    refine (validC j HFa.out.hj v3 _ W4 Ij4.out (Nat.le_refl _)).mono ?_
    rintro e W5 ⟨rfl, b5⟩
    have hz5 := b5.size
    have Ia5 : Hid (Ints W5 W5.heap.size u1 p) := hid ((Ia4.out.chg (Chg.ofBelow (lo := 0) b5) (.inr (Nat.zero_le _))).mono hz5)
    have Ib5 : Hid (Ints W5 W5.heap.size u2 q) := hid ((Ib4.out.chg (Chg.ofBelow (lo := 0) b5) (.inr (Nat.zero_le _))).mono hz5)
    have Im5 : Hid (Ints W5 W5.heap.size v2 m) := hid ((Im4.out.chg (Chg.ofBelow (lo := 0) b5) (.inr (Nat.zero_le _))).mono hz5)
    have Ij5 : Hid (Ints W5 W5.heap.size v3 j) := hid ((Ij4.out.chg (Chg.ofBelow (lo := 0) b5) (.inr (Nat.zero_le _))).mono hz5)
    have C5 := hid (C4.out.trans (b5.mono (by have := C4.out.size; omega)))
    clear Ia4 Ib4 Im4 Ij4 C4 b5
    go_wp2_with fail
    refine (belowQ m p HFa.out.mp v2 u1 _ _ W5 Im5.out Ia5.out (by have := HFa.out.lm; omega) (HFa.out.lm.symm.trans rfl)).mono ?_
    rintro e W6 ⟨rfl, b6⟩
    have hz6 := b6.size
    have Ia6 : Hid (Ints W6 W6.heap.size u1 p) := hid ((Ia5.out.chg (Chg.ofBelow (lo := 0) b6) (.inr (Nat.zero_le _))).mono hz6)
    have Ib6 : Hid (Ints W6 W6.heap.size u2 q) := hid ((Ib5.out.chg (Chg.ofBelow (lo := 0) b6) (.inr (Nat.zero_le _))).mono hz6)
    have Im6 : Hid (Ints W6 W6.heap.size v2 m) := hid ((Im5.out.chg (Chg.ofBelow (lo := 0) b6) (.inr (Nat.zero_le _))).mono hz6)
    have Ij6 : Hid (Ints W6 W6.heap.size v3 j) := hid ((Ij5.out.chg (Chg.ofBelow (lo := 0) b6) (.inr (Nat.zero_le _))).mono hz6)
    have C6 := hid (C5.out.trans (b6.mono (by have := C5.out.size; omega)))
    clear Ia5 Ib5 Im5 Ij5 C5 b6
    go_wp2_with fail
    refine (belowQ m q HFa.out.mq v2 u2 _ _ W6 Im6.out Ib6.out (by have := HFa.out.lm; omega) (HFa.out.lm.symm.trans HFa.out.lq)).mono ?_
    rintro e W7 ⟨rfl, b7⟩
    have hz7 := b7.size
    have Ia7 : Hid (Ints W7 W7.heap.size u1 p) := hid ((Ia6.out.chg (Chg.ofBelow (lo := 0) b7) (.inr (Nat.zero_le _))).mono hz7)
    have Ib7 : Hid (Ints W7 W7.heap.size u2 q) := hid ((Ib6.out.chg (Chg.ofBelow (lo := 0) b7) (.inr (Nat.zero_le _))).mono hz7)
    have Im7 : Hid (Ints W7 W7.heap.size v2 m) := hid ((Im6.out.chg (Chg.ofBelow (lo := 0) b7) (.inr (Nat.zero_le _))).mono hz7)
    have Ij7 : Hid (Ints W7 W7.heap.size v3 j) := hid ((Ij6.out.chg (Chg.ofBelow (lo := 0) b7) (.inr (Nat.zero_le _))).mono hz7)
    have C7 := hid (C6.out.trans (b7.mono (by have := C6.out.size; omega)))
    clear Ia6 Ib6 Im6 Ij6 C6 b7
    go_wp2_with fail
    refine (belowQ p j HFa.out.pj u1 v3 _ _ W7 Ia7.out Ij7.out (by have := HFa.out.lq; omega) (HFa.out.lj)).mono ?_
    rintro e W8 ⟨rfl, b8⟩
    have hz8 := b8.size
    have Ia8 : Hid (Ints W8 W8.heap.size u1 p) := hid ((Ia7.out.chg (Chg.ofBelow (lo := 0) b8) (.inr (Nat.zero_le _))).mono hz8)
    have Ib8 : Hid (Ints W8 W8.heap.size u2 q) := hid ((Ib7.out.chg (Chg.ofBelow (lo := 0) b8) (.inr (Nat.zero_le _))).mono hz8)
    have Im8 : Hid (Ints W8 W8.heap.size v2 m) := hid ((Im7.out.chg (Chg.ofBelow (lo := 0) b8) (.inr (Nat.zero_le _))).mono hz8)
    have Ij8 : Hid (Ints W8 W8.heap.size v3 j) := hid ((Ij7.out.chg (Chg.ofBelow (lo := 0) b8) (.inr (Nat.zero_le _))).mono hz8)
    have C8 := hid (C7.out.trans (b8.mono (by have := C7.out.size; omega)))
    clear Ia7 Ib7 Im7 Ij7 C7 b8
    go_wp2_with fail
    refine (belowQ q j HFa.out.qj u2 v3 _ _ W8 Ib8.out Ij8.out (by have := HFa.out.lq; omega) (HFa.out.lq.symm.trans HFa.out.lj)).mono ?_
    rintro e W9 ⟨rfl, b9⟩
    have hz9 := b9.size
    have Ia9 : Hid (Ints W9 W9.heap.size u1 p) := hid ((Ia8.out.chg (Chg.ofBelow (lo := 0) b9) (.inr (Nat.zero_le _))).mono hz9)
    have Ib9 : Hid (Ints W9 W9.heap.size u2 q) := hid ((Ib8.out.chg (Chg.ofBelow (lo := 0) b9) (.inr (Nat.zero_le _))).mono hz9)
    have Im9 : Hid (Ints W9 W9.heap.size v2 m) := hid ((Im8.out.chg (Chg.ofBelow (lo := 0) b9) (.inr (Nat.zero_le _))).mono hz9)
    have Ij9 : Hid (Ints W9 W9.heap.size v3 j) := hid ((Ij8.out.chg (Chg.ofBelow (lo := 0) b9) (.inr (Nat.zero_le _))).mono hz9)
    have C9 := hid (C8.out.trans (b9.mono (by have := C8.out.size; omega)))
    clear Ia8 Ib8 Im8 Ij8 C8 b9
    go_wp2_with fail
    refine (meetC p j p HFa.out.hp HFa.out.hj (HFa.out.lj) HFa.out.e3 u1 v3 _ _ W9 Ia9.out Ij9.out (Nat.le_refl _) (Nat.le_refl _)).mono ?_
    rintro e W10 ⟨v10, rfl, o10, b10⟩
    have hz10 := b10.size
    have Ia10 : Hid (Ints W10 W10.heap.size u1 p) := hid ((Ia9.out.chg (Chg.ofBelow (lo := 0) b10) (.inr (Nat.zero_le _))).mono hz10)
    have Ib10 : Hid (Ints W10 W10.heap.size u2 q) := hid ((Ib9.out.chg (Chg.ofBelow (lo := 0) b10) (.inr (Nat.zero_le _))).mono hz10)
    have Im10 : Hid (Ints W10 W10.heap.size v2 m) := hid ((Im9.out.chg (Chg.ofBelow (lo := 0) b10) (.inr (Nat.zero_le _))).mono hz10)
    have Ij10 : Hid (Ints W10 W10.heap.size v3 j) := hid ((Ij9.out.chg (Chg.ofBelow (lo := 0) b10) (.inr (Nat.zero_le _))).mono hz10)
    have Ix10 : Hid (Ints W10 W10.heap.size v10 p) := hid o10.ints
    have C10 := hid (C9.out.trans (b10.mono (by have := C9.out.size; omega)))
    clear Ia9 Ib9 Im9 Ij9 o10 C9 b10
    go_wp2_with fail
    refine (joinC p m p HFa.out.hp HFa.out.hm (HFa.out.lm) HFa.out.e4 u1 v2 _ _ W10 Ia10.out Im10.out (Nat.le_refl _) (Nat.le_refl _)).mono ?_
    rintro e W11 ⟨v11, rfl, o11, b11⟩
    have hz11 := b11.size
    have Ia11 : Hid (Ints W11 W11.heap.size u1 p) := hid ((Ia10.out.chg (Chg.ofBelow (lo := 0) b11) (.inr (Nat.zero_le _))).mono hz11)
    have Ib11 : Hid (Ints W11 W11.heap.size u2 q) := hid ((Ib10.out.chg (Chg.ofBelow (lo := 0) b11) (.inr (Nat.zero_le _))).mono hz11)
    have Im11 : Hid (Ints W11 W11.heap.size v2 m) := hid ((Im10.out.chg (Chg.ofBelow (lo := 0) b11) (.inr (Nat.zero_le _))).mono hz11)
    have Ij11 : Hid (Ints W11 W11.heap.size v3 j) := hid ((Ij10.out.chg (Chg.ofBelow (lo := 0) b11) (.inr (Nat.zero_le _))).mono hz11)
    have Ix11 : Hid (Ints W11 W11.heap.size v10 p) := hid ((Ix10.out.chg (Chg.ofBelow (lo := 0) b11) (.inr (Nat.zero_le _))).mono hz11)
    have Iy11 : Hid (Ints W11 W11.heap.size v11 p) := hid o11.ints
    have C11 := hid (C10.out.trans (b11.mono (by have := C10.out.size; omega)))
    clear Ia10 Ib10 Im10 Ij10 Ix10 o11 C10 b11
    go_wp2_with fail
    refine (meetC q p m HFa.out.hq HFa.out.hp (HFa.out.lq.symm.trans rfl) HFa.out.e5 u2 u1 _ _ W11 Ib11.out Ia11.out (Nat.le_refl _) (Nat.le_refl _)).mono ?_
    rintro e W12 ⟨v12, rfl, o12, b12⟩
    have hz12 := b12.size
    have Ia12 : Hid (Ints W12 W12.heap.size u1 p) := hid ((Ia11.out.chg (Chg.ofBelow (lo := 0) b12) (.inr (Nat.zero_le _))).mono hz12)
    have Ib12 : Hid (Ints W12 W12.heap.size u2 q) := hid ((Ib11.out.chg (Chg.ofBelow (lo := 0) b12) (.inr (Nat.zero_le _))).mono hz12)
    have Im12 : Hid (Ints W12 W12.heap.size v2 m) := hid ((Im11.out.chg (Chg.ofBelow (lo := 0) b12) (.inr (Nat.zero_le _))).mono hz12)
    have Ij12 : Hid (Ints W12 W12.heap.size v3 j) := hid ((Ij11.out.chg (Chg.ofBelow (lo := 0) b12) (.inr (Nat.zero_le _))).mono hz12)
    have Ix12 : Hid (Ints W12 W12.heap.size v10 p) := hid ((Ix11.out.chg (Chg.ofBelow (lo := 0) b12) (.inr (Nat.zero_le _))).mono hz12)
    have Iy12 : Hid (Ints W12 W12.heap.size v11 p) := hid ((Iy11.out.chg (Chg.ofBelow (lo := 0) b12) (.inr (Nat.zero_le _))).mono hz12)
    have Iz12 : Hid (Ints W12 W12.heap.size v12 m) := hid o12.ints
    have C12 := hid (C11.out.trans (b12.mono (by have := C11.out.size; omega)))
    clear Ia11 Ib11 Im11 Ij11 Ix11 Iy11 o12 C11 b12
    go_wp2_with fail
    refine (joinC q p j HFa.out.hq HFa.out.hp (HFa.out.lq.symm.trans rfl) HFa.out.e6 u2 u1 _ _ W12 Ib12.out Ia12.out (Nat.le_refl _) (Nat.le_refl _)).mono ?_
    rintro e W13 ⟨v13, rfl, o13, b13⟩
    have hz13 := b13.size
    have Ia13 : Hid (Ints W13 W13.heap.size u1 p) := hid ((Ia12.out.chg (Chg.ofBelow (lo := 0) b13) (.inr (Nat.zero_le _))).mono hz13)
    have Ib13 : Hid (Ints W13 W13.heap.size u2 q) := hid ((Ib12.out.chg (Chg.ofBelow (lo := 0) b13) (.inr (Nat.zero_le _))).mono hz13)
    have Im13 : Hid (Ints W13 W13.heap.size v2 m) := hid ((Im12.out.chg (Chg.ofBelow (lo := 0) b13) (.inr (Nat.zero_le _))).mono hz13)
    have Ij13 : Hid (Ints W13 W13.heap.size v3 j) := hid ((Ij12.out.chg (Chg.ofBelow (lo := 0) b13) (.inr (Nat.zero_le _))).mono hz13)
    have Ix13 : Hid (Ints W13 W13.heap.size v10 p) := hid ((Ix12.out.chg (Chg.ofBelow (lo := 0) b13) (.inr (Nat.zero_le _))).mono hz13)
    have Iy13 : Hid (Ints W13 W13.heap.size v11 p) := hid ((Iy12.out.chg (Chg.ofBelow (lo := 0) b13) (.inr (Nat.zero_le _))).mono hz13)
    have Iz13 : Hid (Ints W13 W13.heap.size v12 m) := hid ((Iz12.out.chg (Chg.ofBelow (lo := 0) b13) (.inr (Nat.zero_le _))).mono hz13)
    have Iv13 : Hid (Ints W13 W13.heap.size v13 j) := hid o13.ints
    have C13 := hid (C12.out.trans (b13.mono (by have := C12.out.size; omega)))
    clear Ia12 Ib12 Im12 Ij12 Ix12 Iy12 Iz12 o13 C12 b13
    go_wp2_with fail
    refine (sameQ p p true rfl rfl v10 u1 _ _ W13 Ix13.out Ia13.out (by have := HFa.out.lq; omega)).mono ?_
    rintro e W14 ⟨rfl, b14⟩
    have hz14 := b14.size
    have Ia14 : Hid (Ints W14 W14.heap.size u1 p) := hid ((Ia13.out.chg (Chg.ofBelow (lo := 0) b14) (.inr (Nat.zero_le _))).mono hz14)
    have Ib14 : Hid (Ints W14 W14.heap.size u2 q) := hid ((Ib13.out.chg (Chg.ofBelow (lo := 0) b14) (.inr (Nat.zero_le _))).mono hz14)
    have Im14 : Hid (Ints W14 W14.heap.size v2 m) := hid ((Im13.out.chg (Chg.ofBelow (lo := 0) b14) (.inr (Nat.zero_le _))).mono hz14)
    have Ij14 : Hid (Ints W14 W14.heap.size v3 j) := hid ((Ij13.out.chg (Chg.ofBelow (lo := 0) b14) (.inr (Nat.zero_le _))).mono hz14)
    have Ix14 : Hid (Ints W14 W14.heap.size v10 p) := hid ((Ix13.out.chg (Chg.ofBelow (lo := 0) b14) (.inr (Nat.zero_le _))).mono hz14)
    have Iy14 : Hid (Ints W14 W14.heap.size v11 p) := hid ((Iy13.out.chg (Chg.ofBelow (lo := 0) b14) (.inr (Nat.zero_le _))).mono hz14)
    have Iz14 : Hid (Ints W14 W14.heap.size v12 m) := hid ((Iz13.out.chg (Chg.ofBelow (lo := 0) b14) (.inr (Nat.zero_le _))).mono hz14)
    have Iv14 : Hid (Ints W14 W14.heap.size v13 j) := hid ((Iv13.out.chg (Chg.ofBelow (lo := 0) b14) (.inr (Nat.zero_le _))).mono hz14)
    have C14 := hid (C13.out.trans (b14.mono (by have := C13.out.size; omega)))
    clear Ia13 Ib13 Im13 Ij13 Ix13 Iy13 Iz13 Iv13 C13 b14
    go_wp2_with fail
    refine (sameQ p p true rfl rfl v11 u1 _ _ W14 Iy14.out Ia14.out (by have := HFa.out.lq; omega)).mono ?_
    rintro e W15 ⟨rfl, b15⟩
    have hz15 := b15.size
    have Ia15 : Hid (Ints W15 W15.heap.size u1 p) := hid ((Ia14.out.chg (Chg.ofBelow (lo := 0) b15) (.inr (Nat.zero_le _))).mono hz15)
    have Ib15 : Hid (Ints W15 W15.heap.size u2 q) := hid ((Ib14.out.chg (Chg.ofBelow (lo := 0) b15) (.inr (Nat.zero_le _))).mono hz15)
    have Im15 : Hid (Ints W15 W15.heap.size v2 m) := hid ((Im14.out.chg (Chg.ofBelow (lo := 0) b15) (.inr (Nat.zero_le _))).mono hz15)
    have Ij15 : Hid (Ints W15 W15.heap.size v3 j) := hid ((Ij14.out.chg (Chg.ofBelow (lo := 0) b15) (.inr (Nat.zero_le _))).mono hz15)
    have Ix15 : Hid (Ints W15 W15.heap.size v10 p) := hid ((Ix14.out.chg (Chg.ofBelow (lo := 0) b15) (.inr (Nat.zero_le _))).mono hz15)
    have Iy15 : Hid (Ints W15 W15.heap.size v11 p) := hid ((Iy14.out.chg (Chg.ofBelow (lo := 0) b15) (.inr (Nat.zero_le _))).mono hz15)
    have Iz15 : Hid (Ints W15 W15.heap.size v12 m) := hid ((Iz14.out.chg (Chg.ofBelow (lo := 0) b15) (.inr (Nat.zero_le _))).mono hz15)
    have Iv15 : Hid (Ints W15 W15.heap.size v13 j) := hid ((Iv14.out.chg (Chg.ofBelow (lo := 0) b15) (.inr (Nat.zero_le _))).mono hz15)
    have C15 := hid (C14.out.trans (b15.mono (by have := C14.out.size; omega)))
    clear Ia14 Ib14 Im14 Ij14 Ix14 Iy14 Iz14 Iv14 C14 b15
    go_wp2_with fail
    refine (sameQ m m true rfl rfl v12 v2 _ _ W15 Iz15.out Im15.out (by have := HFa.out.lm; omega)).mono ?_
    rintro e W16 ⟨rfl, b16⟩
    have hz16 := b16.size
    have Ia16 : Hid (Ints W16 W16.heap.size u1 p) := hid ((Ia15.out.chg (Chg.ofBelow (lo := 0) b16) (.inr (Nat.zero_le _))).mono hz16)
    have Ib16 : Hid (Ints W16 W16.heap.size u2 q) := hid ((Ib15.out.chg (Chg.ofBelow (lo := 0) b16) (.inr (Nat.zero_le _))).mono hz16)
    have Im16 : Hid (Ints W16 W16.heap.size v2 m) := hid ((Im15.out.chg (Chg.ofBelow (lo := 0) b16) (.inr (Nat.zero_le _))).mono hz16)
    have Ij16 : Hid (Ints W16 W16.heap.size v3 j) := hid ((Ij15.out.chg (Chg.ofBelow (lo := 0) b16) (.inr (Nat.zero_le _))).mono hz16)
    have Ix16 : Hid (Ints W16 W16.heap.size v10 p) := hid ((Ix15.out.chg (Chg.ofBelow (lo := 0) b16) (.inr (Nat.zero_le _))).mono hz16)
    have Iy16 : Hid (Ints W16 W16.heap.size v11 p) := hid ((Iy15.out.chg (Chg.ofBelow (lo := 0) b16) (.inr (Nat.zero_le _))).mono hz16)
    have Iz16 : Hid (Ints W16 W16.heap.size v12 m) := hid ((Iz15.out.chg (Chg.ofBelow (lo := 0) b16) (.inr (Nat.zero_le _))).mono hz16)
    have Iv16 : Hid (Ints W16 W16.heap.size v13 j) := hid ((Iv15.out.chg (Chg.ofBelow (lo := 0) b16) (.inr (Nat.zero_le _))).mono hz16)
    have C16 := hid (C15.out.trans (b16.mono (by have := C15.out.size; omega)))
    clear Ia15 Ib15 Im15 Ij15 Ix15 Iy15 Iz15 Iv15 C15 b16
    go_wp2_with fail
    refine (sameQ j j true rfl rfl v13 v3 _ _ W16 Iv16.out Ij16.out (by have := HFa.out.lj; omega)).mono ?_
    rintro e W17 ⟨rfl, b17⟩
    have hz17 := b17.size
    have Ia17 : Hid (Ints W17 W17.heap.size u1 p) := hid ((Ia16.out.chg (Chg.ofBelow (lo := 0) b17) (.inr (Nat.zero_le _))).mono hz17)
    have Ib17 : Hid (Ints W17 W17.heap.size u2 q) := hid ((Ib16.out.chg (Chg.ofBelow (lo := 0) b17) (.inr (Nat.zero_le _))).mono hz17)
    have Im17 : Hid (Ints W17 W17.heap.size v2 m) := hid ((Im16.out.chg (Chg.ofBelow (lo := 0) b17) (.inr (Nat.zero_le _))).mono hz17)
    have Ij17 : Hid (Ints W17 W17.heap.size v3 j) := hid ((Ij16.out.chg (Chg.ofBelow (lo := 0) b17) (.inr (Nat.zero_le _))).mono hz17)
    have Ix17 : Hid (Ints W17 W17.heap.size v10 p) := hid ((Ix16.out.chg (Chg.ofBelow (lo := 0) b17) (.inr (Nat.zero_le _))).mono hz17)
    have Iy17 : Hid (Ints W17 W17.heap.size v11 p) := hid ((Iy16.out.chg (Chg.ofBelow (lo := 0) b17) (.inr (Nat.zero_le _))).mono hz17)
    have Iz17 : Hid (Ints W17 W17.heap.size v12 m) := hid ((Iz16.out.chg (Chg.ofBelow (lo := 0) b17) (.inr (Nat.zero_le _))).mono hz17)
    have Iv17 : Hid (Ints W17 W17.heap.size v13 j) := hid ((Iv16.out.chg (Chg.ofBelow (lo := 0) b17) (.inr (Nat.zero_le _))).mono hz17)
    have C17 := hid (C16.out.trans (b17.mono (by have := C16.out.size; omega)))
    clear Ia16 Ib16 Im16 Ij16 Ix16 Iy16 Iz16 Iv16 C16 b17
    go_wp2_with fail
    refine (below p q u1 u2 _ _ W17 Ia17.out Ib17.out (by have := HFa.out.lq; omega) (HFa.out.lq)).mono ?_
    rintro e W18 ⟨⟨z, rfl, hzz⟩, b18⟩
    have hz18 := b18.size
    have Ia18 : Hid (Ints W18 W18.heap.size u1 p) := hid ((Ia17.out.chg (Chg.ofBelow (lo := 0) b18) (.inr (Nat.zero_le _))).mono hz18)
    have Ib18 : Hid (Ints W18 W18.heap.size u2 q) := hid ((Ib17.out.chg (Chg.ofBelow (lo := 0) b18) (.inr (Nat.zero_le _))).mono hz18)
    have Im18 : Hid (Ints W18 W18.heap.size v2 m) := hid ((Im17.out.chg (Chg.ofBelow (lo := 0) b18) (.inr (Nat.zero_le _))).mono hz18)
    have Ij18 : Hid (Ints W18 W18.heap.size v3 j) := hid ((Ij17.out.chg (Chg.ofBelow (lo := 0) b18) (.inr (Nat.zero_le _))).mono hz18)
    have Ix18 : Hid (Ints W18 W18.heap.size v10 p) := hid ((Ix17.out.chg (Chg.ofBelow (lo := 0) b18) (.inr (Nat.zero_le _))).mono hz18)
    have Iy18 : Hid (Ints W18 W18.heap.size v11 p) := hid ((Iy17.out.chg (Chg.ofBelow (lo := 0) b18) (.inr (Nat.zero_le _))).mono hz18)
    have Iz18 : Hid (Ints W18 W18.heap.size v12 m) := hid ((Iz17.out.chg (Chg.ofBelow (lo := 0) b18) (.inr (Nat.zero_le _))).mono hz18)
    have Iv18 : Hid (Ints W18 W18.heap.size v13 j) := hid ((Iv17.out.chg (Chg.ofBelow (lo := 0) b18) (.inr (Nat.zero_le _))).mono hz18)
    have C18 := hid (C17.out.trans (b18.mono (by have := C17.out.size; omega)))
    clear Ia17 Ib17 Im17 Ij17 Ix17 Iy17 Iz17 Iv17 C17 b18
    cases z
    · go_wp2
      go_ret
      exact ⟨rfl, C18.out⟩
    · have HE := hid (HFa.out.up (hzz.1 rfl))
      go_wp2_with fail
      refine (sameQ m p true HE.out.1 rfl v2 u1 _ _ W18 Im18.out Ia18.out (by have := HFa.out.lm; omega)).mono ?_
      rintro e W19 ⟨rfl, b19⟩
      have hz19 := b19.size
      have Ia19 : Hid (Ints W19 W19.heap.size u1 p) := hid ((Ia18.out.chg (Chg.ofBelow (lo := 0) b19) (.inr (Nat.zero_le _))).mono hz19)
      have Ib19 : Hid (Ints W19 W19.heap.size u2 q) := hid ((Ib18.out.chg (Chg.ofBelow (lo := 0) b19) (.inr (Nat.zero_le _))).mono hz19)
      have Im19 : Hid (Ints W19 W19.heap.size v2 m) := hid ((Im18.out.chg (Chg.ofBelow (lo := 0) b19) (.inr (Nat.zero_le _))).mono hz19)
      have Ij19 : Hid (Ints W19 W19.heap.size v3 j) := hid ((Ij18.out.chg (Chg.ofBelow (lo := 0) b19) (.inr (Nat.zero_le _))).mono hz19)
      have Ix19 : Hid (Ints W19 W19.heap.size v10 p) := hid ((Ix18.out.chg (Chg.ofBelow (lo := 0) b19) (.inr (Nat.zero_le _))).mono hz19)
      have Iy19 : Hid (Ints W19 W19.heap.size v11 p) := hid ((Iy18.out.chg (Chg.ofBelow (lo := 0) b19) (.inr (Nat.zero_le _))).mono hz19)
      have Iz19 : Hid (Ints W19 W19.heap.size v12 m) := hid ((Iz18.out.chg (Chg.ofBelow (lo := 0) b19) (.inr (Nat.zero_le _))).mono hz19)
      have Iv19 : Hid (Ints W19 W19.heap.size v13 j) := hid ((Iv18.out.chg (Chg.ofBelow (lo := 0) b19) (.inr (Nat.zero_le _))).mono hz19)
      have C19 := hid (C18.out.trans (b19.mono (by have := C18.out.size; omega)))
      clear Ia18 Ib18 Im18 Ij18 Ix18 Iy18 Iz18 Iv18 C18 b19
      go_wp2_with fail
      refine (sameQ j q true HE.out.2 rfl v3 u2 _ _ W19 Ij19.out Ib19.out (by have := HFa.out.lj; omega)).mono ?_
      rintro e W20 ⟨rfl, b20⟩
      have hz20 := b20.size
      have Ia20 : Hid (Ints W20 W20.heap.size u1 p) := hid ((Ia19.out.chg (Chg.ofBelow (lo := 0) b20) (.inr (Nat.zero_le _))).mono hz20)
      have Ib20 : Hid (Ints W20 W20.heap.size u2 q) := hid ((Ib19.out.chg (Chg.ofBelow (lo := 0) b20) (.inr (Nat.zero_le _))).mono hz20)
      have Im20 : Hid (Ints W20 W20.heap.size v2 m) := hid ((Im19.out.chg (Chg.ofBelow (lo := 0) b20) (.inr (Nat.zero_le _))).mono hz20)
      have Ij20 : Hid (Ints W20 W20.heap.size v3 j) := hid ((Ij19.out.chg (Chg.ofBelow (lo := 0) b20) (.inr (Nat.zero_le _))).mono hz20)
      have Ix20 : Hid (Ints W20 W20.heap.size v10 p) := hid ((Ix19.out.chg (Chg.ofBelow (lo := 0) b20) (.inr (Nat.zero_le _))).mono hz20)
      have Iy20 : Hid (Ints W20 W20.heap.size v11 p) := hid ((Iy19.out.chg (Chg.ofBelow (lo := 0) b20) (.inr (Nat.zero_le _))).mono hz20)
      have Iz20 : Hid (Ints W20 W20.heap.size v12 m) := hid ((Iz19.out.chg (Chg.ofBelow (lo := 0) b20) (.inr (Nat.zero_le _))).mono hz20)
      have Iv20 : Hid (Ints W20 W20.heap.size v13 j) := hid ((Iv19.out.chg (Chg.ofBelow (lo := 0) b20) (.inr (Nat.zero_le _))).mono hz20)
      have C20 := hid (C19.out.trans (b20.mono (by have := C19.out.size; omega)))
      clear Ia19 Ib19 Im19 Ij19 Ix19 Iy19 Iz19 Iv19 C19 b20
      go_wp2
      go_ret
      exact ⟨rfl, C20.out⟩
  · have hd : decide ((3000 : Int) < (n : Int)) = true := by simp; omega
    go_enter Try.func7, Try.ntmps7
    go_wp2_with fail
    refine (long1 n cap0 b0 true hd w).mono ?_
    rintro e w0 ⟨rfl, rfl⟩
    go_wp2
    go_ret
    exact ⟨rfl, Below.refl _ _⟩

end Go.Proofs.Ytnnbhgiaaelkiab.wlat
