/-
  Contracts of PermutationAt, of the program and of its model.
-/
import Derived.Test.YtaconeliiicloaaDel
import Derived.Test.YtaconeliiicloaaFact
import Derived.Test.YtaconeliiicloaaComp
namespace Go.Proofs.Ytaconeliiicloaa.pa
open Go.RowKit Go.Proofs.Ytaconeliiicloaa.sl Go.Proofs.Ytaconeliiicloaa.pm Go.Proofs.Ytaconeliiicloaa.fn Go.Proofs.Ytaconeliiicloaa.bt
set_option linter.unusedVariables false

/-- The permutation with a number: k things are left. -/
def pick : Nat → Nat → List Int → List Int
  | 0, _, _ => []
  | k + 1, r, l => l.getD (r / fact k) 0 :: pick k (r % fact k) (l.eraseIdx (r / fact k))
theorem pick_len : ∀ (k r : Nat) (l : List Int), (pick k r l).length = k
  | 0, _, _ => rfl
  | k + 1, r, l => by simp [pick, pick_len k]
theorem pick_step (k r F i : Nat) (l o : List Int) (hF : F = fact k) (hi : i = r / F) : (o ++ [l.getD i 0]) ++ pick k (r % F) (l.eraseIdx i) = o ++ pick (k + 1) r l := by
  subst hF hi
  simp [pick]
theorem idx_lt (k r F i : Nat) (h : r < fact (k + 1)) (hF : F = fact k) (hi : i = r / F) : i < k + 1 := by
  subst hF hi
  exact Nat.div_lt_of_lt_mul h

def patOk (n r : Int) : Bool := decide (0 ≤ n ∧ n ≤ 12) && decide (0 ≤ r ∧ r ≤ (fact n.toNat : Int) - 1)
def patL (n r : Int) : List Int := if patOk n r = true then pick n.toNat r.toNat (ids n.toNat) else []
theorem patL_len (n r : Int) : (patL n r).length ≤ 12 := by
  unfold patL
  split
  · rename_i h
    simp only [patOk, Bool.and_eq_true, decide_eq_true_eq] at h
    rw [pick_len]; omega
  · simp

theorem ints_take {w : World} {lo hi g n cap i : Nat} {L : List Int} (o : Own w lo hi (.slice (some ⟨g, 0, none⟩) n cap) L) (h : i ≤ L.length) : Ints w hi (.slice (some ⟨g, 0, none⟩) i cap) (L.take i) := by
  by_cases h0 : i = 0
  · subst h0; exact .inl ⟨by simp, _, _, rfl⟩
  · refine .inr ⟨by simp; omega, g, 0, cap, by simp; omega, o.2.1 g rfl, fun j hj => ?_⟩
    simp at hj
    rw [Nat.zero_add, (o.at' j (by omega)).1]
    have h1 : j < i := by omega
    simp [List.getD, h1]

theorem ints_drop {w : World} {lo hi g n cap i : Nat} {L : List Int} (o : Own w lo hi (.slice (some ⟨g, 0, none⟩) n cap) L) (c m : Nat) (hm : m = L.length - i) : Ints w hi (.slice (some ⟨g, i, none⟩) m c) (L.drop i) := by
  subst hm
  by_cases h0 : L.length ≤ i
  · exact .inl ⟨by simp [h0], some ⟨g, i, none⟩, c, by rw [show L.length - i = 0 by omega]⟩
  · refine .inr ⟨by simp; omega, g, i, c, by simp, o.2.1 g rfl, fun j hj => ?_⟩
    simp at hj
    rw [(o.at' (i + j) (by omega)).1]
    simp [List.getD, List.getElem?_drop]

theorem ints_drop0 {w : World} {hi i : Nat} {L : List Int} (ad : Option Addr) (c m : Nat) (h : L.length ≤ i) (hm : m = L.length - i) : Ints w hi (.slice ad m c) (L.drop i) :=
  .inl ⟨by simp [h], ad, c, by rw [hm, show L.length - i = 0 by omega]⟩

theorem own_cap' {w : World} {lo hi n cap : Nat} {ao : Option Addr} {xs : List Int} (o : Own w lo hi (.slice ao n cap) xs) : n ≤ cap ∧ cap ≤ 9223372036854775807 := by
  rcases o.1.2 with ⟨h, _⟩ | ⟨g', cap', cur, hv, hb, hg, hc, hm, hs, ht⟩
  · cases h; exact ⟨Nat.le_refl _, by omega⟩
  · simp only [Value.slice.injEq] at hv
    obtain ⟨_, rfl, rfl⟩ := hv
    exact ⟨hc, hm⟩

theorem own_cap {w : World} {lo hi g n cap : Nat} {xs : List Int} (o : Own w lo hi (.slice (some ⟨g, 0, none⟩) n cap) xs) : xs.length ≤ cap ∧ cap ≤ 9223372036854775807 := by
  rcases o.1.2 with ⟨h, _⟩ | ⟨g', cap', cur, hv, hb, hg, hc, hm, hs, ht⟩
  · cases h
  · simp only [Value.slice.injEq] at hv
    obtain ⟨_, _, rfl⟩ := hv
    exact ⟨hc, hm⟩

set_option maxHeartbeats 1600000 in
theorem implBody (n r : Nat) (w : World) (hn : n ≤ 12) (hr : r < fact n) :
    Calls Try.prog 20 #[.int .i64 n, .int .i64 r] w fun e w' => ∃ v', e = .returned (.tuple #[v', .bool true]) ∧ Own w' w.heap.size w'.heap.size v' (pick n r (ids n)) ∧ Below w.heap.size w w' := by
  obtain ⟨i0, hi0, hz0, hz1, hz2⟩ := info_parts info64
  have hd : decide ((0 : Int) ≤ (n : Int) ∧ (n : Int) ≤ 12) = true := by simp; omega
  have hsf := implFact n
  have hFle := fact_le n hn
  have HR := hid hr
  obtain ⟨F0, hF0⟩ : ∃ F, F = fact n := ⟨_, rfl⟩
  rw [← hF0] at hsf hr hFle
  have HF0 := hid hF0
  clear hF0
  have hd2 : decide ((0 : Int) ≤ (r : Int) ∧ (r : Int) ≤ (F0 : Int) - 1) = true := by simp; omega
  go_enter Try.func20, Try.ntmps20
  go_wp2_with fail
  refine (within64 _ _ _ _).mono ?_
  rw [hd]
  rintro e w' ⟨rfl, rfl⟩
  go_wp2_with fail
  refine (hsf _ hn).mono ?_
  rintro e w' ⟨rfl, rfl⟩
  go_wp2_with fail
  refine (within64 _ _ _ _).mono ?_
  rw [hd2]
  rintro e w' ⟨rfl, rfl⟩
  clear hsf hd2 hd
  go_wp2_with fail
  refine (implIds n _ (by omega)).mono ?_
  rintro e w1 ⟨v1, rfl, o1, b1⟩
  have O1 := hid o1
  have B1 := hid b1
  have hsz1 := b1.size
  clear o1 b1
  go_wp2_with (at_make; refine wpList_make_own _ rfl _ _ 24 rfl w1.heap.size 2 i0 (.int .i64 0) 1 Try.underlying24 hi0 hz0 hz1 .i64 .i64 _ n rfl rfl rfl (by rw [hz2]; omega) (by unfold maxLen; omega) (Nat.le_refl _) ?_; intro w0 hown0 hgrow0)
  have hb0 : Below w1.heap.size w1 w0 := (Below.refl _ _).grown hgrow0 (Nat.le_refl _) (fun k hk => by cases hk)
  have HW0 := hid (O1.out.chg (Chg.ofBelow (lo := w1.heap.size) hb0) (.inl (Nat.le_refl _)))
  have HP0 : Hid (Own w0 w1.heap.size w0.heap.size (.slice (some ⟨w1.heap.size, 0, none⟩) 0 n) []) := hid (Own.mk' (by simpa using hown0))
  have HB0 := hid (B1.out.trans (hb0.mono hsz1))
  have hsz0 := hb0.size
  clear hown0 hgrow0 hb0
  go_loopw [1, 6, 7, 8] (fun rv lv ov kv wr => ∃ (k r' : Nat) (L o : List Int) (a b c d : Nat), k ≤ n ∧ kv = .int .i64 k ∧ rv = .int .i64 r' ∧ r' < fact k ∧ L.length = k ∧ o ++ pick k r' L = pick n r (ids n) ∧
      Own wr a b lv L ∧ Own wr c d ov o ∧ b ≤ c ∧ c ≤ d ∧ w.heap.size ≤ a ∧ w.heap.size ≤ c ∧ Below w.heap.size w wr)
    (fun _ _ _ kv _ => (intOf kv).toNat)
  case atStart =>
    exact ⟨n, r, ids n, [], w.heap.size, w1.heap.size, w1.heap.size, w0.heap.size, Nat.le_refl _, rfl, rfl, HR.out, ids_len n, rfl, HW0.out, HP0.out, Nat.le_refl _, hsz0, Nat.le_refl _, hsz1, HB0.out⟩
  case round =>
    obtain ⟨k, r', L, o, a, b, c, d, hk, hkv, rfl, hr', hL, hpick, hOL, hOo, hab, hcd, ha, hc, hbel⟩ := hrel
    have HPK := hid hpick
    have HOL := hid hOL
    have HOo := hid hOo
    have HB := hid hbel
    have hsz := hbel.size
    have hlo := hOo.2.2
    clear hpick hOL hOo hbel
    cases k with
    | zero =>
      subst hkv
      go_wp2
      go_ret2
      refine ⟨_, rfl, ?_, HB.out⟩
      have h1 := HPK.out
      simp only [pick, List.append_nil] at h1
      rw [← h1]
      exact (HOo.out.hi hlo (Nat.le_refl _)).lo hc
    | succ k =>
      have e : ((k + 1 : Nat) : Int) = (k : Int) + 1 := by omega
      rw [e] at hkv
      subst hkv
      obtain ⟨F, hF⟩ : ∃ F, F = fact k := ⟨_, rfl⟩
      obtain ⟨i, hi⟩ : ∃ i, i = r' / F := ⟨_, rfl⟩
      have hik := idx_lt k r' F i hr' hF hi
      have hFp : 0 < F := by rw [hF]; exact fact_pos k
      have hsf := implFact k
      rw [← hF] at hsf
      have hq : (r' : Int).tdiv (F : Int) = (i : Int) := by rw [hi]; rfl
      have hm : (r' : Int).tmod (F : Int) = ((r' % F : Nat) : Int) := rfl
      have hne : ((F : Int) == 0) = false := by simp; omega
      have HS := hid (pick_step k r' F i L o hF hi)
      have HRL := hid (show r' % F < fact k by rw [← hF]; exact Nat.mod_lt _ hFp)
      obtain ⟨s, hs⟩ : ∃ s, s = r' % F := ⟨_, rfl⟩
      rw [← hs] at hm HS HRL
      obtain ⟨x, hx⟩ : ∃ x, x = L.getD i 0 := ⟨_, rfl⟩
      obtain ⟨g, cap, hlv, hag, hgb⟩ := own_slice HOL.out (by omega)
      rw [hL] at hlv
      subst hlv
      have hcell : wr.cell? ⟨g, i, none⟩ = some (.int .i64 x) := by rw [hx]; exact (HOL.out.at' i (by omega)).1
      have hcap := own_cap HOL.out
      rw [hL] at hcap
      obtain ⟨hcap1, hcap2⟩ := hcap
      have HX := hid hx
      have HL := hid hL
      clear hi hF hr' hs hx hL HR
      obtain ⟨ao, oc, hov⟩ := own_val HOo.out
      obtain ⟨p, hp⟩ : ∃ p, p = o.length := ⟨_, rfl⟩
      have HPL := hid hp
      rw [← hp] at hov
      subst hov
      have hp12 : p ≤ 12 := by
        have := congrArg List.length HPK.out
        simp only [List.length_append, pick_len] at this
        omega
      clear hp
      go_wp2_with fail
      refine (hsf _ (by omega)).mono ?_
      rintro e w' ⟨rfl, rfl⟩
      clear hsf
      go_wp2_with (at_builtin; refine wp_append rfl _ _ rfl c d _ o x HOo.out rfl rfl (by omega) (by rw [← HPL.out]; omega) ?_; intro v2 w2 hown2 hchg2 hsz2)
      have HO2 := hid hown2
      have HC2 := hid hchg2
      have HL2 := hid (HOL.out.chg hchg2 (.inl hab))
      clear hown2 hchg2
      refine (dl.del L _ a b i w2 HL2.out (by rw [HL.out]; omega)).mono ?_
      rintro e w3 ⟨v3, rfl, o3, c3⟩
      have HO3 := hid o3
      have HC3 := hid c3
      clear o3 c3
      have B3 := (HB.out.trans (HC2.out.below hc hsz)).trans (HC3.out.below ha (by omega))
      have O2 := HO2.out.chg HC3.out (.inr (.inl hab))
      have hbs : b ≤ w2.heap.size := HL2.out.2.2
      go_wp2_with fail
      refine ⟨⟨k, s, L.eraseIdx i, o ++ [x], a, b, c, w2.heap.size, by omega, rfl, rfl, HRL.out, by rw [List.length_eraseIdx_of_lt (by rw [HL.out]; omega), HL.out]; omega, ?_, HO3.out, O2, hab, by omega, ha, hc, B3⟩, by simp [intOf]⟩
      rw [HX.out]
      exact HS.out.trans HPK.out

theorem implPat (n r : Int) (w : World) :
    Calls Try.prog 20 #[.int .i64 n, .int .i64 r] w fun e w' => ∃ v', e = .returned (.tuple #[v', .bool (patOk n r)]) ∧ Own w' w.heap.size w'.heap.size v' (patL n r) ∧ Below w.heap.size w w' := by
  by_cases h : 0 ≤ n ∧ n ≤ 12
  · obtain ⟨m, rfl⟩ := Int.eq_ofNat_of_zero_le h.1
    have hd : decide ((0 : Int) ≤ (m : Int) ∧ (m : Int) ≤ 12) = true := by simpa using h
    have hm : m ≤ 12 := by omega
    by_cases h2 : 0 ≤ r ∧ r ≤ (fact m : Int) - 1
    · obtain ⟨q, rfl⟩ := Int.eq_ofNat_of_zero_le h2.1
      have hok : patOk (m : Int) (q : Int) = true := by
        have e2 : decide ((0 : Int) ≤ (q : Int) ∧ (q : Int) ≤ (fact m : Int) - 1) = true := decide_eq_true h2
        show (decide ((0 : Int) ≤ (m : Int) ∧ (m : Int) ≤ 12) && decide ((0 : Int) ≤ (q : Int) ∧ (q : Int) ≤ (fact m : Int) - 1)) = true
        rw [hd, e2]; rfl
      refine (implBody m q w hm (by omega)).mono ?_
      rintro e w' ⟨v', rfl, o, b⟩
      exact ⟨v', by rw [hok], by rw [patL, if_pos hok]; exact o, b⟩
    · have e2 : decide ((0 : Int) ≤ r ∧ r ≤ (fact m : Int) - 1) = false := decide_eq_false h2
      have hok : patOk (m : Int) r = false := by
        show (decide ((0 : Int) ≤ (m : Int) ∧ (m : Int) ≤ 12) && decide ((0 : Int) ≤ r ∧ r ≤ (fact m : Int) - 1)) = false
        rw [hd, e2]; rfl
      have HF : Hid (patOk (m : Int) r = false ∧ patL (m : Int) r = []) := hid ⟨hok, by rw [patL, if_neg (by rw [hok]; simp)]⟩
      have hsf := implFact m
      have hFle := fact_le m hm
      clear h h2 hok
      generalize fact m = F at hsf hFle e2
      go_enter Try.func20, Try.ntmps20
      go_wp2_with fail
      refine (within64 _ _ _ _).mono ?_
      rw [hd]
      rintro e w' ⟨rfl, rfl⟩
      go_wp2_with fail
      refine (hsf _ hm).mono ?_
      rintro e w' ⟨rfl, rfl⟩
      go_wp2_with fail
      refine (within64 _ _ _ _).mono ?_
      rw [e2]
      rintro e w' ⟨rfl, rfl⟩
      go_wp2
      go_ret2
      exact ⟨_, by rw [HF.out.1]; rfl, by rw [HF.out.2]; exact Own.nil _ _, Below.refl _ _⟩
  · have hd : decide ((0 : Int) ≤ n ∧ n ≤ 12) = false := decide_eq_false h
    have HF : Hid (patOk n r = false ∧ patL n r = []) := hid (by
      have hok : patOk n r = false := by
        show (decide ((0 : Int) ≤ n ∧ n ≤ 12) && _) = false
        rw [hd]; rfl
      exact ⟨hok, by rw [patL, if_neg (by rw [hok]; simp)]⟩)
    clear h
    go_enter Try.func20, Try.ntmps20
    go_wp2_with fail
    refine (within64 _ _ _ _).mono ?_
    rw [hd]
    rintro e w' ⟨rfl, rfl⟩
    go_wp2
    go_ret2
    exact ⟨_, by rw [HF.out.1]; rfl, by rw [HF.out.2]; exact Own.nil _ _, Below.refl _ _⟩

end Go.Proofs.Ytaconeliiicloaa.pa
