/-
  The neighbours on a yarn: program and model.
-/
import Derived.Test.YtfechjhngcmdpaaFw
namespace Go.Proofs.Ytfechjhngcmdpaa.mc
open Go.RowKit Go.Sort Go.Maps Go.Proofs.Ytfechjhngcmdpaa.sl Go.Proofs.Ytfechjhngcmdpaa.br Go.Proofs.Ytfechjhngcmdpaa.fn Go.Proofs.Ytfechjhngcmdpaa.ss Go.Proofs.Ytfechjhngcmdpaa.fb
set_option linter.unusedVariables false
set_option linter.unusedSimpArgs false

/-- A yarn's loops rise, and stand between 0 and the number of loops. -/
structure Rise (L : List Int) (t : Nat) (x : Int) : Prop where
  lt : t < L.length
  at' : L.getD t 0 = x
  below : ∀ j, j < t → L.getD j 0 < x
  above : ∀ j, j < L.length → t < j → x < L.getD j 0
  nn : ∀ j, j < L.length → 0 ≤ L.getD j 0
  len : L.length ≤ 300
theorem rise_of (ls : List nf.V) (k : Nat) (hk : k < ls.length) (hl : ls.length ≤ 300) : ∃ t, Rise (yarnL ls (ls.getD k nf.iz).a1 ls.length) t (k : Int) := by
  have hp : (yarnL ls (ls.getD k nf.iz).a1 ls.length).Pairwise (· < ·) := by
    unfold yarnL
    rw [List.pairwise_map]
    exact (List.pairwise_lt_range.filter _).imp (fun h => by simpa using h)
  have hm : (k : Int) ∈ yarnL ls (ls.getD k nf.iz).a1 ls.length := by
    simp only [yarnL, List.mem_map, List.mem_filter, List.mem_range, decide_eq_true_eq]
    exact ⟨k, ⟨hk, rfl⟩, rfl⟩
  have hn : ∀ y ∈ yarnL ls (ls.getD k nf.iz).a1 ls.length, 0 ≤ y := by
    intro y hy
    simp only [yarnL, List.mem_map] at hy
    obtain ⟨i, _, rfl⟩ := hy
    simp
  have hlen := yarn_len ls (ls.getD k nf.iz).a1 ls.length
  obtain ⟨t, ht, he⟩ := List.getElem_of_mem hm
  generalize yarnL ls (ls.getD k nf.iz).a1 ls.length = L at *
  rw [List.pairwise_iff_getElem] at hp
  refine ⟨t, ht, by rw [getD_get ht, he], fun j hj => ?_, fun j hj htj => ?_, fun j hj => ?_, by omega⟩
  · rw [getD_get (by omega), ← he]
    exact hp j t (by omega) ht hj
  · rw [getD_get hj, ← he]
    exact hp t j ht hj htj
  · rw [getD_get hj]
    exact hn _ (List.getElem_mem hj)
def befB (L : List Int) (t : Nat) : Int := if 0 < t then L.getD (t - 1) 0 else -1
def aftB (L : List Int) (t : Nat) : Int := if t + 1 < L.length then L.getD (t + 1) 0 else -1

set_option maxHeartbeats 800000 in
theorem indexAt (xs : List Int) (t : Nat) (x : Int) (v : Value) (B : Nat) (w : World) (ha : Ints w B v xs) (hB : B ≤ w.heap.size) (hr : Rise xs t x) :
    Calls Try.prog 73 #[v, .int .i64 x] w fun e w' => e = .returned (.int .i64 t) ∧ Below w.heap.size w w' := by
  have hn := hr.len
  have HR := hid hr
  have htl := hr.lt
  clear hr
  rcases ha with ⟨rfl, ao, cap, rfl⟩ | ⟨hp, b, off, cap, rfl, hb, hc⟩
  · simp at htl
  · obtain ⟨n, hnn⟩ : ∃ n, n = xs.length := ⟨_, rfl⟩
    rw [← hnn] at hp hc hn htl ⊢
    have HN := hid hnn
    have HC := hid hc
    clear hnn hc
    go_enter Try.func73, Try.ntmps73
    go_wp2
    go_loopw [8] (fun i wr => ∃ k : Nat, k ≤ t ∧ i = .int .i64 k ∧ Below w.heap.size w wr) (fun i _ => n - (intOf i).toNat)
    case atStart => exact ⟨0, Nat.zero_le _, rfl, Below.refl _ _⟩
    case round =>
      obtain ⟨k, hk, rfl, hbel⟩ := hrel
      have HB := hid hbel
      have hlt : k < n := by omega
      have h1 := (hbel.cell (p := ⟨b, off + k, none⟩) (by show b < _; omega)).trans (HC.out k hlt)
      have hltI : (k : Int) < (n : Int) := by omega
      clear hbel
      by_cases he : k = t
      · subst he
        rw [HR.out.at'] at h1
        go_wp2
        go_ret
        exact ⟨rfl, HB.out⟩
      · have hne : ¬ x = xs.getD k 0 := by have := HR.out.below k (by omega); omega
        generalize xs.getD k 0 = y at *
        have hf : (x == y) = false := beq_eq_false_iff_ne.2 hne
        clear hne
        go_wp2
        go_roundw
        case rel => exact ⟨k + 1, by omega, by go_num, HB.out⟩
        case measure => simp [intOf]; omega

def nbA (a p : Int) (m : Mch) (x : Int) : Nat → Int := fun t => befB (yarnL m.ls (m.ls.getD x.toNat nf.iz).a1 m.ls.length) t
open Classical in
/-- The place of a loop on its yarn. -/
noncomputable def nbT (m : Mch) (x : Int) : Nat := if h : ∃ t, Rise (yarnL m.ls (m.ls.getD x.toNat nf.iz).a1 m.ls.length) t x then h.choose else 0
noncomputable def nbB (a p : Int) (m : Mch) (x : Int) : Int := if askC a p m x = 0 then befB (yarnL m.ls (m.ls.getD x.toNat nf.iz).a1 m.ls.length) (nbT m x) else 0
noncomputable def nbC (a p : Int) (m : Mch) (x : Int) : Int := if askC a p m x = 0 then aftB (yarnL m.ls (m.ls.getD x.toNat nf.iz).a1 m.ls.length) (nbT m x) else 0
theorem nbT_ok {a p : Int} {m : Mch} {x : Int} (h : askC a p m x = 0) : Rise (yarnL m.ls (m.ls.getD x.toNat nf.iz).a1 m.ls.length) (nbT m x) x := by
  obtain ⟨hok, h0, h1⟩ := ask_ok h
  obtain ⟨k, rfl⟩ := Int.eq_ofNat_of_zero_le h0
  have hex := rise_of m.ls k (by omega) (ls_len (okM_parts hok))
  unfold nbT
  rw [Int.toNat_natCast]
  rw [dif_pos hex]
  exact hex.choose_spec

set_option maxRecDepth 100000 in
set_option maxHeartbeats 4000000 in
theorem implNb (a p : Int) (m : Mch) (x : Int) (f0 f1 f2 f3 f4 : Value) (B : Nat) (w : World) (ha : MInC w B f0 f1 f2 f3 f4 m) (hB : B ≤ w.heap.size) (hq : Small m) :
    Calls Try.prog 31 #[.agg #[.int .i64 a, .int .i64 p, f0, f1, f2, f3, f4], .int .i64 x] w fun e w' => e = .returned (.tuple #[.int .i64 (nbB a p m x), .int .i64 (nbC a p m x), .int .i64 (askC a p m x)]) ∧ Below w.heap.size w w' := by
  have HW := hid (fun W (hb : Below w.heap.size w W) => fabW a p m x f0 f1 f2 f3 f4 B W (ha.below hb) (Nat.le_trans hB hb.size) hq)
  have HAsk := hid (@ask_ok a p m x)
  have HRi := hid (@nbT_ok a p m x)
  have HInf := hid (fun (X : World) (h : Below w.heap.size w X) => (ha.below h).rd.h3)
  obtain ⟨s, hs⟩ : ∃ s, s = nbB a p m x := ⟨_, rfl⟩
  obtain ⟨s2, hs2⟩ : ∃ s, s = nbC a p m x := ⟨_, rfl⟩
  obtain ⟨d, hd⟩ : ∃ d, d = askC a p m x := ⟨_, rfl⟩
  rw [← hs, ← hs2, ← hd]
  unfold nbB at hs
  unfold nbC at hs2
  rw [← hd] at hs hs2 HW HAsk HRi
  have HS := hid hs
  have HS2 := hid hs2
  obtain ⟨⟨a0, k0, rfl⟩, ⟨a1, k1, rfl⟩, ⟨a2, k2, rfl⟩, ⟨a3, k3, rfl⟩, ⟨a4, k4, rfl⟩⟩ := ha.vals
  clear ha hq hs hs2 hd
  generalize m.fr.length = n0 at *
  generalize m.bk.length = n1 at *
  generalize m.cs.length = n2 at *
  obtain ⟨n3, hn3⟩ : ∃ n, n = m.ls.length := ⟨_, rfl⟩
  have HN3 := hid hn3
  rw [← hn3] at HW HInf ⊢
  generalize m.dr.length = n4 at *
  have HX := hid (bx_new w 37 a p (.slice a0 n0 k0) (.slice a1 n1 k1) (.slice a2 n2 k2) (.slice a3 n3 k3) (.slice a4 n4 k4))
  clear hn3
  go_enter Try.func31, Try.ntmps31
  go_wp2_with fail
  generalize (w.alloc (.cells #[.int .i64 a, .int .i64 p, .slice a0 n0 k0, .slice a1 n1 k1, .slice a2 n2 k2, .slice a3 n3 k3, .slice a4 n4 k4] 37)) = W1 at *
  refine (HW.out W1 HX.out.b0).mono ?_
  rintro e W2 (⟨hne, rfl, b2⟩ | ⟨h0, fp, cb, bL, bD, base, n, D, rfl, hF⟩)
  · obtain rfl : s = 0 := by rw [HS.out, if_neg hne]
    obtain rfl : s2 = 0 := by rw [HS2.out, if_neg hne]
    have HB := hid (HX.out.b0.trans (b2.mono HX.out.b0.size))
    have hnb : (d == 0) = false := by simp [hne]
    have hnd : decide (d = 0) = false := decide_eq_false hne
    clear b2 HW
    go_wp2
    go_ret3
    exact ⟨rfl, HB.out⟩
  · subst h0
    obtain ⟨hok, hx0, hx1⟩ := HAsk.out rfl
    have hl3 := ls_len (okM_parts hok)
    have hri := HRi.out rfl
    obtain ⟨k, rfl⟩ := Int.eq_ofNat_of_zero_le hx0
    rw [Int.toNat_natCast] at hri HS HS2
    have hsE : s = befB (yarnL m.ls (m.ls.getD k nf.iz).a1 m.ls.length) (nbT m (k : Int)) := by rw [HS.out, if_pos rfl]
    have hsE2 : s2 = aftB (yarnL m.ls (m.ls.getD k nf.iz).a1 m.ls.length) (nbT m (k : Int)) := by rw [HS2.out, if_pos rfl]
    have HB := hid (HX.out.b0.trans (hF.bl.mono HX.out.b0.size))
    have hkl : k < m.ls.length := by omega
    have y0 := hF.c0
    have HY := hid (implYarn fp (m.ls.getD k nf.iz).a1 m.ls (.slice a3 n3 k3) B W2 hF.c0 (HInf.out W2 HB.out) (Nat.le_trans hB HB.out.size) hl3)
    generalize nbT m (k : Int) = t at *
    have hnk : (k : Int) < (n3 : Int) := by rw [HN3.out]; omega
    rcases HInf.out W2 HB.out with ⟨hz, _⟩ | ⟨hp3, g3, off3, cap3, Fv, he3, hg3, hc3⟩
    · rw [hz] at hkl; simp at hkl
    · injection he3 with e1 e2 e3
      subst e1
      have z1 := (hc3 k hkl).1.c1
      generalize (m.ls.getD k nf.iz).a1 = c1 at *
      obtain ⟨L, hL⟩ : ∃ L, L = yarnL m.ls c1 m.ls.length := ⟨_, rfl⟩
      rw [← hL] at HY hri hsE hsE2
      have HRi2 := hid hri
      have htl := hri.lt
      have hLl := hri.len
      have HsE := hid hsE
      have HsE2 := hid hsE2
      clear hF HW hx0 hx1 hl3 hok HAsk HS HS2 HRi hri hL hsE hsE2 hc3 hp3 e2 e3 HInf
      go_wp2_with fail
      clear y0 z1
      refine HY.out.mono ?_
      rintro e W3 ⟨v3, rfl, o3, b3⟩
      have HI3 := hid o3.ints
      have HB3 := hid (HB.out.trans (b3.mono HB.out.size))
      clear o3 b3 HY
      go_wp2_with fail
      refine (indexAt L t (k : Int) v3 _ W3 HI3.out (Nat.le_refl _) HRi2.out).mono ?_
      rintro e W4 ⟨rfl, b4⟩
      have HI4 := hid (HI3.out.chg (Chg.ofBelow (lo := 0) b4) (.inr (Nat.zero_le _)))
      have HB4 := hid (HB3.out.trans (b4.mono HB3.out.size))
      clear b4 HI3 HB3
      rcases HI4.out with ⟨hz, _⟩ | ⟨hp, b, off, cap, rfl, hb, hc⟩
      · rw [hz] at htl; simp at htl
      · obtain ⟨n9, hn9⟩ : ∃ n, n = L.length := ⟨_, rfl⟩
        have HN9 := hid hn9
        have hw1 : IntKind.i64.wrap ((t : Int) + 1) = (t : Int) + 1 := IntWalk.i64_in _ (by omega)
        have HC9 := hid hc
        rw [← hn9] at htl hLl ⊢
        clear hc hn9 HI4 hp
        by_cases ht0 : 0 < t
        · obtain ⟨t1, rfl⟩ : ∃ t1, t = t1 + 1 := ⟨t - 1, by omega⟩
          have zb := HC9.out t1 (by rw [← HN9.out]; omega)
          have hw2 : IntKind.i64.wrap (((t1 + 1 : Nat) : Int) - 1) = (t1 : Int) := by rw [IntWalk.i64_in _ (by omega)]; omega
          have htI : (0 : Int) < ((t1 + 1 : Nat) : Int) := by omega
          have hbI : (t1 : Int) < (n9 : Int) := by omega
          have hE1 : s = L.getD t1 0 := by rw [HsE.out, befB, if_pos (by omega)]; rfl
          rw [← hE1] at zb
          by_cases ht1 : t1 + 1 + 1 < n9
          · have zc := HC9.out (t1 + 1 + 1) (by rw [← HN9.out]; exact ht1)
            have hE2 : s2 = L.getD (t1 + 1 + 1) 0 := by rw [HsE2.out, aftB, if_pos (by rw [← HN9.out]; exact ht1)]
            rw [← hE2] at zc
            have hw3 : IntKind.i64.wrap (((t1 + 1 : Nat) : Int) + 1) = ((t1 + 1 + 1 : Nat) : Int) := by rw [IntWalk.i64_in _ (by omega)]; omega
            have hcI : ((t1 + 1 + 1 : Nat) : Int) < (n9 : Int) := by omega
            clear hE1 hE2 hw1
            go_wp2
            go_ret3
            exact ⟨rfl, HB4.out⟩
          · have hE2 : s2 = -1 := by rw [HsE2.out, aftB, if_neg (by rw [← HN9.out]; exact ht1)]
            subst hE2
            have hcI : ¬ (((t1 + 1 : Nat) : Int) + 1 < (n9 : Int)) := by omega
            clear hE1
            go_wp2
            go_ret3
            exact ⟨rfl, HB4.out⟩
        · obtain rfl : t = 0 := by omega
          have hE1 : s = -1 := by rw [HsE.out, befB, if_neg (by omega)]
          subst hE1
          by_cases ht1 : 1 < n9
          · have zc := HC9.out 1 (by rw [← HN9.out]; exact ht1)
            have hE2 : s2 = L.getD 1 0 := by rw [HsE2.out, aftB, if_pos (by rw [← HN9.out]; exact ht1)]
            rw [← hE2] at zc
            have hcI : (1 : Int) < (n9 : Int) := by omega
            clear hE2 hw1
            go_wp2
            go_ret3
            exact ⟨rfl, HB4.out⟩
          · have hE2 : s2 = -1 := by rw [HsE2.out, aftB, if_neg (by rw [← HN9.out]; exact ht1)]
            subst hE2
            have hcI : ¬ ((1 : Int) < (n9 : Int)) := by omega
            clear hw1
            go_wp2
            go_ret3
            exact ⟨rfl, HB4.out⟩
/-- What the model has found behind i loops of the yarn. -/
def befI (L : List Int) (t i : Nat) : Int := befB L (if i ≤ t then i else t)
def aftI (L : List Int) (t i : Nat) : Int := if t + 1 < i then L.getD (t + 1) 0 else -1
theorem bef_end {L : List Int} {t : Nat} {x : Int} (h : Rise L t x) : befI L t L.length = befB L t := by
  unfold befI
  rw [if_neg (by have := h.lt; omega)]
theorem aft_end (L : List Int) (t : Nat) : aftI L t L.length = aftB L t := rfl
theorem bef_low (L : List Int) (t i : Nat) (h : i < t) : befI L t (i + 1) = L.getD i 0 := by
  unfold befI befB
  rw [if_pos (by omega : i + 1 ≤ t), if_pos (by omega)]
  rfl
theorem bef_high (L : List Int) (t i : Nat) (h : t ≤ i) : befI L t (i + 1) = befI L t i := by
  unfold befI
  by_cases e : i = t
  · subst e
    rw [if_neg (by omega), if_pos (by omega)]
  · rw [if_neg (by omega), if_neg (by omega)]
theorem aft_low (L : List Int) (t i : Nat) (h : i ≤ t) : aftI L t (i + 1) = aftI L t i := by
  unfold aftI
  rw [if_neg (by omega), if_neg (by omega)]
theorem aft_new (L : List Int) (t : Nat) : aftI L t (t + 1) = -1 ∧ aftI L t (t + 1 + 1) = L.getD (t + 1) 0 := by
  unfold aftI
  exact ⟨if_neg (by omega), if_pos (by omega)⟩
theorem aft_high (L : List Int) (t i : Nat) (h : t + 1 < i) : aftI L t (i + 1) = aftI L t i ∧ aftI L t i = L.getD (t + 1) 0 := by
  unfold aftI
  rw [if_pos (by omega), if_pos h]
  exact ⟨rfl, rfl⟩

set_option maxRecDepth 100000 in
set_option maxHeartbeats 8000000 in
theorem specNb (a p : Int) (m : Mch) (x : Int) (f0 f1 f2 f3 f4 : Value) (B : Nat) (w : World) (ha : MInC w B f0 f1 f2 f3 f4 m) (hB : B ≤ w.heap.size) (hq : Small m) :
    Calls Try.prog 30 #[.agg #[.int .i64 a, .int .i64 p, f0, f1, f2, f3, f4], .int .i64 x] w fun e w' => e = .returned (.tuple #[.int .i64 (nbB a p m x), .int .i64 (nbC a p m x), .int .i64 (askC a p m x)]) ∧ Below w.heap.size w w' := by
  have HV := hid (fun W (h : Below w.heap.size w W) (hx : Bx w W w.heap.size a p f0 f1 f2 f3 f4) => askS a p m x f0 f1 f2 f3 f4 B w.heap.size w W (ha.below h) hq hx)
  have HAsk := hid (@ask_ok a p m x)
  have HRi := hid (@nbT_ok a p m x)
  have HInf := hid (fun (X : World) (h : Below w.heap.size w X) => (ha.below h).rd.h3)
  obtain ⟨s, hs⟩ : ∃ s, s = nbB a p m x := ⟨_, rfl⟩
  obtain ⟨s2, hs2⟩ : ∃ s, s = nbC a p m x := ⟨_, rfl⟩
  obtain ⟨d, hd⟩ : ∃ d, d = askC a p m x := ⟨_, rfl⟩
  rw [← hs, ← hs2, ← hd]
  unfold nbB at hs
  unfold nbC at hs2
  rw [← hd] at hs hs2 HV HAsk HRi
  have HS := hid hs
  have HS2 := hid hs2
  obtain ⟨⟨a0, k0, rfl⟩, ⟨a1, k1, rfl⟩, ⟨a2, k2, rfl⟩, ⟨a3, k3, rfl⟩, ⟨a4, k4, rfl⟩⟩ := ha.vals
  clear ha hq hs hs2 hd
  generalize m.fr.length = n0 at *
  generalize m.bk.length = n1 at *
  generalize m.cs.length = n2 at *
  obtain ⟨n3, hn3⟩ : ∃ n, n = m.ls.length := ⟨_, rfl⟩
  have HN3 := hid hn3
  rw [← hn3] at HV HInf ⊢
  generalize m.dr.length = n4 at *
  have HX := hid (bx_new w 37 a p (.slice a0 n0 k0) (.slice a1 n1 k1) (.slice a2 n2 k2) (.slice a3 n3 k3) (.slice a4 n4 k4))
  clear hn3
  go_enter Try.func30, Try.ntmps30
  go_wp2_with fail
  generalize (w.alloc (.cells #[.int .i64 a, .int .i64 p, .slice a0 n0 k0, .slice a1 n1 k1, .slice a2 n2 k2, .slice a3 n3 k3, .slice a4 n4 k4] 37)) = W1 at *
  refine (HV.out W1 HX.out.b0 HX.out).mono ?_
  rintro e W2 ⟨rfl, b2⟩
  have HX2 := hid (HX.out.below b2)
  clear b2 HX HV
  by_cases h0 : d = 0
  · subst h0
    obtain ⟨hok, hx0, hx1⟩ := HAsk.out rfl
    have hl3 := ls_len (okM_parts hok)
    have hri := HRi.out rfl
    obtain ⟨k, rfl⟩ := Int.eq_ofNat_of_zero_le hx0
    rw [Int.toNat_natCast] at hri HS HS2
    have hsE : s = befB (yarnL m.ls (m.ls.getD k nf.iz).a1 m.ls.length) (nbT m (k : Int)) := by rw [HS.out, if_pos rfl]
    have hsE2 : s2 = aftB (yarnL m.ls (m.ls.getD k nf.iz).a1 m.ls.length) (nbT m (k : Int)) := by rw [HS2.out, if_pos rfl]
    have HB := hid HX2.out.b0
    have hkl : k < m.ls.length := by omega
    have y5 := HX2.out.c5
    have HY := hid (specYarn w.heap.size (m.ls.getD k nf.iz).a1 m.ls (.slice a3 n3 k3) B W2 HX2.out.c5 (HInf.out W2 HB.out) (Nat.le_trans hB HB.out.size) hl3)
    generalize nbT m (k : Int) = t at *
    have hnk : (k : Int) < (n3 : Int) := by rw [HN3.out]; omega
    rcases HInf.out W2 HB.out with ⟨hz, _⟩ | ⟨hp3, g3, off3, cap3, Fv, he3, hg3, hc3⟩
    · rw [hz] at hkl; simp at hkl
    · injection he3 with e1 e2 e3
      subst e1
      have z1 := (hc3 k hkl).1.c1
      generalize (m.ls.getD k nf.iz).a1 = c1 at *
      obtain ⟨L, hL⟩ : ∃ L, L = yarnL m.ls c1 m.ls.length := ⟨_, rfl⟩
      rw [← hL] at HY hri hsE hsE2
      have HRi2 := hid hri
      have htl := hri.lt
      have hLl := hri.len
      have HsE := hid hsE
      have HsE2 := hid hsE2
      clear hx0 hx1 hl3 hok HAsk HS HS2 HRi hri hL hsE hsE2 hc3 hp3 e2 e3 HInf HX2
      go_wp2_with fail
      clear y5 z1
      refine HY.out.mono ?_
      rintro e W3 ⟨v3, rfl, o3, b3⟩
      have hi3 := o3.ints
      have HB3 := hid (HB.out.trans (b3.mono HB.out.size))
      clear o3 b3 HY
      rcases hi3 with ⟨hz, _⟩ | ⟨hp, b, off, cap, rfl, hb, hc⟩
      · rw [hz] at htl; simp at htl
      · obtain ⟨n9, hn9⟩ : ∃ n, n = L.length := ⟨_, rfl⟩
        have HN9 := hid hn9
        have HC9 := hid hc
        rw [← hn9] at htl hLl ⊢
        clear hc hn9 hp
        go_wp2_with fail
        go_loopw [9, 10, 11] (fun u v i wr => ∃ (j : Nat) (q1 q2 : Int), j ≤ n9 ∧ i = .int .i64 j ∧ u = .int .i64 q1 ∧ v = .int .i64 q2 ∧ Hid (q1 = befI L t j) ∧ Hid (q2 = aftI L t j) ∧ wr = W3) (fun _ _ i _ => n9 - (intOf i).toNat)
        case atStart => exact ⟨0, -1, -1, Nat.zero_le _, rfl, rfl, rfl, hid (by simp [befI, befB]), hid (by simp [aftI]), rfl⟩
        case round =>
          obtain ⟨j, q1, q2, hj, rfl, rfl, rfl, HQ1, HQ2, rfl⟩ := hrel
          by_cases hlt : j < n9
          · have hjl : j < L.length := by rw [← HN9.out]; exact hlt
            have zj := HC9.out j hjl
            have hltI : (j : Int) < (n9 : Int) := by omega
            have hnn := HRi2.out.nn j hjl
            rcases Nat.lt_trichotomy j t with h1 | h1 | h1
            · have hlo := HRi2.out.below j h1
              have HE1 := hid (bef_low L t j h1)
              have HE2 := hid (aft_low L t j (by omega))
              generalize L.getD j 0 = y at *
              have hng : ¬ (k : Int) < y := by omega
              go_wp2
              go_roundw
              case rel => exact ⟨j + 1, y, q2, by omega, by go_num, rfl, rfl, hid (by rw [HE1.out]), hid (by rw [HE2.out]; exact HQ2.out), by first | trivial | rfl⟩
              case measure => simp [intOf]; omega
            · subst h1
              have HE1 := hid (bef_high L j j (Nat.le_refl _))
              have HE2 := hid (aft_low L j j (Nat.le_refl _))
              rw [HRi2.out.at'] at zj
              have hn1 : ¬ (k : Int) < (k : Int) := by omega
              go_wp2
              go_roundw
              case rel => exact ⟨j + 1, q1, q2, by omega, by go_num, rfl, rfl, hid (by rw [HE1.out]; exact HQ1.out), hid (by rw [HE2.out]; exact HQ2.out), by first | trivial | rfl⟩
              case measure => simp [intOf]; omega
            · have hhi := HRi2.out.above j hjl h1
              have HE1 := hid (bef_high L t j (by omega))
              by_cases h2 : j = t + 1
              · subst h2
                have HE2 := hid (aft_new L t)
                obtain rfl : q2 = -1 := by rw [HQ2.out]; exact HE2.out.1
                generalize hy : L.getD (t + 1) 0 = y at *
                have HYy := hid hy
                clear hy
                have hng : ¬ y < (k : Int) := by omega
                go_wp2
                go_roundw
                case rel => exact ⟨t + 1 + 1, q1, y, by omega, by go_num, rfl, rfl, hid (by rw [HE1.out]; exact HQ1.out), hid (by rw [HE2.out.2]), by first | trivial | rfl⟩
                case measure => simp [intOf]; omega
              · have HE2 := hid (aft_high L t j (by omega))
                have hq2 : 0 ≤ q2 := by rw [HQ2.out, HE2.out.2]; exact HRi2.out.nn (t + 1) (by omega)
                generalize L.getD j 0 = y at *
                have hng : ¬ y < (k : Int) := by omega
                have hnq : ¬ q2 < 0 := by omega
                go_wp2
                go_roundw
                case rel => exact ⟨j + 1, q1, q2, by omega, by go_num, rfl, rfl, hid (by rw [HE1.out]; exact HQ1.out), hid (by rw [HE2.out.1]; exact HQ2.out), by first | trivial | rfl⟩
                case measure => simp [intOf]; omega
          · obtain rfl : j = n9 := by omega
            obtain rfl : s = q1 := by rw [HsE.out, HQ1.out, HN9.out, bef_end HRi2.out]
            obtain rfl : s2 = q2 := by rw [HsE2.out, HQ2.out, HN9.out, aft_end]
            go_wp2
            go_ret3
            exact ⟨rfl, HB3.out⟩
  · obtain rfl : s = 0 := by rw [HS.out, if_neg h0]
    obtain rfl : s2 = 0 := by rw [HS2.out, if_neg h0]
    have hnb : (d == 0) = false := by simp [h0]
    have hnd : decide (d = 0) = false := decide_eq_false h0
    go_wp2
    go_ret3
    exact ⟨rfl, HX2.out.b0⟩
end Go.Proofs.Ytfechjhngcmdpaa.mc
