/-
  Courses: in words; the closure that keeps what it knows in a map.
-/
import Derived.Maps.OwnOps
import Derived.Maps.Views
import Derived.Test.YtlhpipcmebmpdabWl0
import Derived.Maps.OwnSet
namespace Go.Proofs.Ytlhpipcmebmpdab.mc
open Go.RowKit Go.Sort Go.Maps Go.Proofs.Ytlhpipcmebmpdab.sl Go.Proofs.Ytlhpipcmebmpdab.br Go.Proofs.Ytlhpipcmebmpdab.fn Go.Proofs.Ytlhpipcmebmpdab.ss Go.Proofs.Ytlhpipcmebmpdab.fb
set_option linter.unusedVariables false
set_option linter.unusedSimpArgs false

theorem zeroI (w : World) : (zeroValue 2).run Try.prog w = .ok (.int .i64 0) w := by kernel_rfl
theorem key_of (x : Int) (hx : -9223372036854775808 ≤ x ∧ x ≤ 9223372036854775807) : keyOf Try.prog 2 (.int .i64 x) = some (.int .i64 x) := keyOf_int_mk Try.underlying2 (WalkArith.wf_i64 (by omega))
def foT (C : Nat → Int) (ps : List Int) (j : Nat) : Int := (ps.take j).foldl (fun n q => if n < C q.toNat + 1 then C q.toNat + 1 else n) 0
theorem foT_zero (C : Nat → Int) (ps : List Int) : foT C ps 0 = 0 := rfl
theorem foT_succ (C : Nat → Int) (ps : List Int) (j : Nat) (hj : j < ps.length) : foT C ps (j + 1) = if foT C ps j < C (ps.getD j 0).toNat + 1 then C (ps.getD j 0).toNat + 1 else foT C ps j := by
  unfold foT
  rw [List.take_succ_eq_append_getElem hj, List.foldl_append]
  simp [List.getD, List.getElem?_eq_getElem hj]
theorem foT_congr (C D : Nat → Int) (ps : List Int) (h : ∀ j, j < ps.length → C (ps.getD j 0).toNat = D (ps.getD j 0).toNat) (j : Nat) (hj : j ≤ ps.length) : foT C ps j = foT D ps j := by
  induction j with
  | zero => rfl
  | succ j ih => rw [foT_succ _ _ _ hj, foT_succ _ _ _ hj, ih (by omega), h j hj]
theorem foT_bound (C : Nat → Int) (ps : List Int) (x : Int) (h : ∀ j, j < ps.length → 0 ≤ C (ps.getD j 0).toNat ∧ C (ps.getD j 0).toNat + 1 ≤ x) (h0 : 0 ≤ x) (j : Nat) (hj : j ≤ ps.length) : 0 ≤ foT C ps j ∧ foT C ps j ≤ x := by
  induction j with
  | zero => exact ⟨Int.le_refl _, h0⟩
  | succ j ih =>
    have h1 := h j hj
    have h2 := ih (by omega)
    rw [foT_succ _ _ _ hj]
    split <;> omega
def psF (ls : List nf.V) (k : Nat) : List Int := (ls.getD k nf.iz).ps
/-- The courses of the first k loops. -/
def crL (ls : List nf.V) : Nat → List Int
  | 0 => []
  | k + 1 => crL ls k ++ [foT (fun q => (crL ls k).getD q 0) (psF ls k) (psF ls k).length]
theorem crL_len (ls : List nf.V) (k : Nat) : (crL ls k).length = k := by
  induction k with
  | zero => rfl
  | succ k ih => simp [crL, ih]
def co (ls : List nf.V) (x : Nat) : Int := (crL ls (x + 1)).getD x 0
theorem crL_at (ls : List nf.V) (x k : Nat) (h : x < k) : (crL ls k).getD x 0 = co ls x := by
  induction k with
  | zero => omega
  | succ k ih =>
    by_cases e : x = k
    · subst e; rfl
    · show (crL ls k ++ _).getD x 0 = _
      rw [← ih (by omega)]
      have hl := crL_len ls k
      simp [List.getD, List.getElem?_append_left (show x < (crL ls k).length by omega)]
theorem co_eq (ls : List nf.V) (hp : ParB ls) (x : Nat) (hx : x < ls.length) : co ls x = foT (co ls) (psF ls x) (psF ls x).length := by
  have e : co ls x = foT (fun q => (crL ls x).getD q 0) (psF ls x) (psF ls x).length := by
    show (crL ls x ++ [_]).getD x 0 = _
    have hl := crL_len ls x
    rw [List.getD_eq_getElem?_getD, List.getElem?_append_right (by omega), hl]
    simp
  rw [e]
  refine foT_congr _ _ _ (fun j hj => ?_) _ (Nat.le_refl _)
  have h1 := hp x hx j hj
  exact crL_at ls _ x (by show (((ls.getD x nf.iz).ps).getD j 0).toNat < x; omega)
theorem co_bound (ls : List nf.V) (hp : ParB ls) : ∀ x, x < ls.length → 0 ≤ co ls x ∧ co ls x ≤ (x : Int) := by
  intro x
  induction x using Nat.strongRecOn with
  | _ x ih =>
    intro hx
    rw [co_eq ls hp x hx]
    refine foT_bound _ _ _ (fun j hj => ?_) (by omega) _ (Nat.le_refl _)
    have h1 := hp x hx j hj
    have h2 := ih ((psF ls x).getD j 0).toNat (by show (((ls.getD x nf.iz).ps).getD j 0).toNat < x; omega) (by show (((ls.getD x nf.iz).ps).getD j 0).toNat < _; omega)
    have h3 : ((psF ls x).getD j 0) = ((ls.getD x nf.iz).ps).getD j 0 := rfl
    omega
theorem crL_foT (ls : List nf.V) (hp : ParB ls) (k j : Nat) (hk : k < ls.length) (hj : j ≤ (psF ls k).length) : foT (fun q => (crL ls k).getD q 0) (psF ls k) j = foT (co ls) (psF ls k) j := by
  refine foT_congr _ _ _ (fun j hj => ?_) _ hj
  have h1 := hp k hk j hj
  exact crL_at ls _ k (by show (((ls.getD k nf.iz).ps).getD j 0).toNat < k; omega)

/-- The map of what is known; S: of which loops. -/
def CK (X : World) (b N : Nat) (ls : List nf.V) (S : Nat → Bool) : Prop := ∃ D : DataW Unit, X.ownsMap Try.prog 2 (plainElem Try.prog 2) b ((List.range N).countP S) D ∧ (∀ x : Nat, x < N → Maps.has D (.int .i64 (x : Int)) = S x) ∧ ∀ x : Nat, x < N → S x = true → D.atKey (.int .i64 (x : Int)) (.lit (.int .i64 0)) = .lit (.int .i64 (co ls x))
theorem ck_made (w : World) (N : Nat) (ls : List nf.V) : CK (w.alloc (.map #[] 0)) w.heap.size N ls (fun _ => false) := ⟨.map [], by have := World.ownsMap_made (H := Unit) w Try.prog 2 (plainElem Try.prog 2); simpa using this, fun _ _ => rfl, fun _ _ h => by cases h⟩
theorem CK.kept {w w' : World} {b N : Nat} {ls : List nf.V} {S : Nat → Bool} {row : Option Nat} (h : CK w b N ls S) (hg : w.grownBy w' row) (hne : some b ≠ row) : CK w' b N ls S := by
  obtain ⟨D, h1, h2⟩ := h
  exact ⟨D, World.ownsMap.kept h1 hg hne, h2⟩
theorem CK.lt {w : World} {b N : Nat} {ls : List nf.V} {S : Nat → Bool} (h : CK w b N ls S) : b < w.heap.size := by
  obtain ⟨D, h1, h2⟩ := h
  exact World.ownsMap.lt h1
theorem cnt_same (n : Nat) (P Q : Nat → Bool) (h : ∀ x, x < n → P x = Q x) : (List.range n).countP P = (List.range n).countP Q := by
  apply List.countP_congr
  intro x hx
  rw [h x (by simpa using hx)]
theorem cnt_more (n x0 : Nat) (P Q : Nat → Bool) (hx : x0 < n) (h0 : P x0 = false) (h1 : Q x0 = true) (h : ∀ x, x < n → x ≠ x0 → P x = Q x) : (List.range n).countP Q = (List.range n).countP P + 1 := by
  induction n with
  | zero => omega
  | succ n ih =>
    rw [List.range_succ, List.countP_append, List.countP_append, List.countP_singleton, List.countP_singleton]
    rcases Nat.lt_or_ge x0 n with hl | hl
    · rw [ih hl (fun x hx hne => h x (by omega) hne), h n (by omega) (by omega)]; omega
    · obtain rfl : x0 = n := by omega
      rw [cnt_same x0 P Q (fun x hx => h x (by omega) (by omega)), h0, h1]; simp
theorem count_put (N x : Nat) (S : Nat → Bool) (hx : x < N) (h : S x = false) : (List.range N).countP (fun y => if y = x then true else S y) = (List.range N).countP S + 1 :=
  cnt_more N x S _ hx h (by simp) (fun y _ hy => by simp [hy])
set_option maxRecDepth 100000 in
theorem CK.upd {w : World} {b N : Nat} {ls : List nf.V} {S : Nat → Bool} (h : CK w b N ls S) (hN : N ≤ 1000) (x : Nat) (hx : x < N) (hs : S x = false) (hc : 0 ≤ co ls x ∧ co ls x ≤ 1000) :
    ∃ w', (Instr.mapUpdate 82 (.map (some b)) (.int .i64 (x : Int)) (.int .i64 (co ls x))).run Try.prog w = .ok () w' ∧ CK w' b N ls (fun y => if y = x then true else S y) ∧ w.grownBy w' (some b) := by
  obtain ⟨D, h1, h2, h3⟩ := h
  have hm := h1.isMap
  have hcl := List.countP_le_length (p := S) (l := List.range N)
  rw [List.length_range] at hcl
  obtain ⟨w', r, o, g⟩ := h1.update lawK Try.underlying82 (by unfold maxLen; omega) (key_of (x : Int) (by omega)) (plainElem_int Try.underlying2 (WalkArith.wf_i64 (n := co ls x) (by omega)))
  refine ⟨w', r, ⟨_, by rw [count_put N x S hx hs]; exact o, fun y hy => ?_, fun y hy hsy => ?_⟩, g⟩
  · by_cases e : y = x
    · subst e
      rw [has_put_same hm (by simp [WideAt.IsKeyLit])]; simp
    · rw [has_put_other (by simp; omega)]; simp only [if_neg e]; exact h2 y hy
  · by_cases e : y = x
    · subst e
      rw [atKey_put_same hm (by simp [WideAt.IsKeyLit])]
    · simp only [if_neg e] at hsy
      rw [atKey_put_other (by simp; omega)]; exact h3 y hy hsy

theorem KM.mono {n n' b : Nat} {w w' : World} (h : KM n b w w') (hn : n' ≤ n) : KM n' b w w' := ⟨h.os, h.tape, h.output, h.size, fun k hk hne => h.block k (by omega) hne⟩
/-- What the closure reads, ahead of its first call. -/
structure CP (bm bk bf bc fp g off cap B : Nat) (ls : List nf.V) (W0 : World) : Prop where
  z1 : W0.cell? ⟨bk, 0, none⟩ = some (.map (some bm))
  z2 : W0.cell? ⟨bf, 0, none⟩ = some (.pointer (some ⟨fp, 0, none⟩))
  z3 : W0.cell? ⟨bc, 0, none⟩ = some (.func (.func 67) #[] #[.pointer (some ⟨bk, 0, none⟩), .pointer (some ⟨bf, 0, none⟩), .pointer (some ⟨bc, 0, none⟩)])
  z4 : W0.cell? ⟨fp, 0, none⟩ = some (.slice (some ⟨g, off, none⟩) ls.length cap)
  inf : ∃ F : Nat → Value, ∀ j, j < ls.length → W0.cell? ⟨g, off + j * 6 + 5, none⟩ = some (F j) ∧ Ints W0 B (F j) (ls.getD j nf.iz).ps
  ne : bm ≠ bk ∧ bm ≠ bf ∧ bm ≠ bc ∧ bm ≠ fp ∧ bm ≠ g ∧ B ≤ bm
theorem CP.kept {bm bk bf bc fp g off cap B : Nat} {ls : List nf.V} {W0 W : World} (h : CP bm bk bf bc fp g off cap B ls W0) (k : KM W0.heap.size bm W0 W) : CP bm bk bf bc fp g off cap B ls W := by
  obtain ⟨n1, n2, n3, n4, n5, n6⟩ := h.ne
  have e : ∀ (p i : Nat) (v : Value), p ≠ bm → W0.cell? ⟨p, i, none⟩ = some v → W.cell? ⟨p, i, none⟩ = some v := fun p i v hne hv => (k.cell (World.block_lt_of_cell? W0 _ hv) hne).trans hv
  obtain ⟨F, hF⟩ := h.inf
  refine ⟨e _ _ _ (fun h => n1 h.symm) h.z1, e _ _ _ (fun h => n2 h.symm) h.z2, e _ _ _ (fun h => n3 h.symm) h.z3, e _ _ _ (fun h => n4 h.symm) h.z4, ⟨F, fun j hj => ⟨e _ _ _ (fun h => n5 h.symm) (hF j hj).1, ?_⟩⟩, h.ne⟩
  rcases (hF j hj).2 with h' | ⟨hp, b, o, c, hv, hb, hc⟩
  · exact .inl h'
  · exact .inr ⟨hp, b, o, c, hv, hb, fun i hi => e _ _ _ (by omega) (hc i hi)⟩

def CoPost (bm N : Nat) (ls : List nf.V) (S : Nat → Bool) (x : Nat) (W : World) (e : Ending) (w' : World) : Prop :=
  e = .returned (.int .i64 (co ls x)) ∧ KM W.heap.size bm W w' ∧ ∃ S' : Nat → Bool, (∀ y, x < y → S' y = S y) ∧ CK w' bm N ls S'
set_option maxRecDepth 100000 in
set_option maxHeartbeats 8000000 in
theorem courseC (bm bk bf bc fp g off cap B : Nat) (ls : List nf.V) (hp : ParB ls) (hl : ls.length ≤ 300) (hps : ∀ k, k < ls.length → (psF ls k).length ≤ 4) : ∀ x, x < ls.length → ∀ (S : Nat → Bool) (W : World), CP bm bk bf bc fp g off cap B ls W → CK W bm ls.length ls S →
    Calls Try.prog 67 #[.int .i64 (x : Int), .pointer (some ⟨bk, 0, none⟩), .pointer (some ⟨bf, 0, none⟩), .pointer (some ⟨bc, 0, none⟩)] W (CoPost bm ls.length ls S x W) := by
  intro x
  induction x using Nat.strongRecOn with
  | _ x ih =>
    intro hx S W hcp hck
    have IH := hid ih
    have HCo := hid (co_eq ls hp x hx)
    have HPar := hid (hp x hx)
    have hcb := co_bound ls hp x hx
    have HCb := hid (fun y hy => co_bound ls hp y hy)
    have HPl := hid (hps x hx)
    have HCp := hid hcp
    have HCk := hid hck
    obtain ⟨D, ho, hh, hat⟩ := hck
    have HD := hid ho
    have HH := hid (hh x hx)
    have HAt := hid (hat x hx)
    obtain ⟨F, hF⟩ := hcp.inf
    have HF := hid hF
    have z1 := hcp.z1
    have z2 := hcp.z2
    have z4 := hcp.z4
    have hkey := key_of (x : Int) (by omega)
    have HE := hid (fun (e : Ending) (w' : World) (h : CoPost bm ls.length ls S x W e w') => h)
    obtain ⟨P, hP⟩ : ∃ P, P = CoPost bm ls.length ls S x W := ⟨_, rfl⟩
    have HG := hid (fun (w' : World) (S' : Nat → Bool) (hk : KM W.heap.size bm W w') (h1 : ∀ y, x < y → S' y = S y) (h2 : CK w' bm ls.length ls S') => (show P (.returned (.int .i64 (co ls x))) w' from by rw [hP]; exact ⟨rfl, hk, S', h1, h2⟩))
    rw [← hP]
    clear hP HE ih hcp ho hh hat hF hps
    obtain ⟨n, hn⟩ : ∃ n, n = ls.length := ⟨_, rfl⟩
    have HN := hid hn
    rw [← hn] at hx hl z4
    clear hn
    cases hsx : S x with
    | true =>
      have HV := hid (HAt.out hsx)
      rw [hsx] at HH
      generalize co ls x = c at *
      go_enter Try.func67, Try.ntmps67
      go_wp2_with (at_lookup; refine wpList_lookup_own_ok_int _ rfl _ _ 82 rfl 2 2 .i64 lawK Try.underlying82 Try.underlying2 (zeroI _) bm _ D rfl HD.out _ _ rfl hkey ?_; intro c9 hat9 hwc9; have hc9 : c9 = c := (by have h := HV.out; rw [hat9] at h; injection h with h1; injection h1); subst hc9; rw [HH.out]; clear hat9 hwc9)
      try go_ret
      exact HG.out _ S (KM.refl _ _ _) (fun _ _ => rfl) HCk.out
    | false =>
      rw [hsx] at HH
      have HS0 := hid hsx
      obtain ⟨q5, hI5⟩ := HF.out x (by rw [← HN.out]; exact hx)
      have HI5 := hid hI5
      obtain ⟨ao6, cap6, hv6⟩ := fn.ints_slice hI5
      rw [hv6] at q5 HI5
      obtain ⟨l6, hl6⟩ : ∃ l, l = (psF ls x).length := ⟨_, rfl⟩
      have HL6 := hid hl6
      have hl6' : (ls.getD x nf.iz).ps.length = l6 := hl6.symm
      rw [hl6'] at q5 HI5
      have hxI : (x : Int) < (n : Int) := by omega
      have hl64 : l6 ≤ 4 := by rw [hl6]; exact HPl.out
      clear hv6 hI5 hl6 hl6' hsx HAt
      go_enter Try.func67, Try.ntmps67
      go_wp2_with (at_lookup; refine wpList_lookup_own_ok_int _ rfl _ _ 82 rfl 2 2 .i64 lawK Try.underlying82 Try.underlying2 (zeroI _) bm _ D rfl HD.out _ _ rfl hkey ?_; intro c9 hat9 hwc9; have hc9 : c9 = 0 := (by rw [atKey_of_not_has HH.out] at hat9; injection hat9 with h1; injection h1 with _ h2; exact h2.symm); subst hc9; rw [HH.out]; clear hat9 hwc9)
      go_loopw [6, 27] (fun c i wr => ∃ (j : Nat) (S' : Nat → Bool), j ≤ l6 ∧ i = .int .i64 j ∧ c = .int .i64 (foT (co ls) (psF ls x) j) ∧ (∀ y, x ≤ y → S' y = S y) ∧ KM W.heap.size bm W wr ∧ CK wr bm ls.length ls S') (fun _ i _ => l6 - (intOf i).toNat)
      case atStart => exact ⟨0, S, Nat.zero_le _, rfl, rfl, fun _ _ => rfl, KM.refl _ _ _, HCk.out⟩
      case round =>
        obtain ⟨j, S1, hj, rfl, rfl, hS1, hkm, hck1⟩ := hrel
        have HS1 := hid hS1
        have HKm := hid hkm
        have HCk1 := hid hck1
        have HCp1 := hid (HCp.out.kept hkm)
        have y1 := HCp1.out.z1
        have y3 := HCp1.out.z3
        have hfb := foT_bound (co ls) (psF ls x) (x : Int) (fun j hj => by
          have h1 := HPar.out j hj
          have h2 := HCb.out ((psF ls x).getD j 0).toNat (by show (((ls.getD x nf.iz).ps).getD j 0).toNat < _; have := HN.out; omega)
          have h3 : ((psF ls x).getD j 0) = ((ls.getD x nf.iz).ps).getD j 0 := rfl
          omega) (by omega) j (by rw [← HL6.out]; exact hj)
        clear hS1 hkm hck1
        by_cases hlt : j < l6
        · rcases HI5.out with ⟨hnil, _⟩ | ⟨hpp, b6, off6, c6, hv, hb6, hc6⟩
          · exfalso
            have := HL6.out
            unfold psF at this
            rw [hnil] at this
            simp at this
            omega
          · have hll : (ls.getD x nf.iz).ps.length = l6 := HL6.out.symm
            rw [hll] at hv
            simp only [Value.slice.injEq, true_and] at hv
            obtain ⟨rfl, rfl⟩ := hv
            have hq0 := hc6 j (by rw [hll]; exact hlt)
            have hqp := HPar.out j (by rw [hll]; exact hlt)
            have hcq := (HKm.out.cell (g := b6) (i := off6 + j) (World.block_lt_of_cell? W _ hq0) (by have := HCp.out.ne.2.2.2.2.2; omega)).trans hq0
            have HFs := hid (foT_succ (co ls) (psF ls x) j (by rw [← HL6.out]; exact hlt))
            have hqe : (psF ls x).getD j 0 = (ls.getD x nf.iz).ps.getD j 0 := rfl
            rw [hqe] at HFs
            generalize (ls.getD x nf.iz).ps.getD j 0 = q at *
            obtain ⟨qn, rfl⟩ := Int.eq_ofNat_of_zero_le hqp.1
            have hqx : qn < x := by omega
            have HI := hid (IH.out qn hqx (by rw [← HN.out]; omega) S1 _ HCp1.out HCk1.out)
            have hcb2 := HCb.out qn (by rw [← HN.out]; omega)
            rw [Int.toNat_natCast] at HFs
            generalize foT (co ls) (psF ls x) j = f at *
            clear hq0 hqp hc6 hqe hpp
            go_wp2_with fail
            refine HI.out.mono ?_
            rintro e w6 ⟨rfl, hkm6, S2, hS2, hck2⟩
            have HKm6 := hid (HKm.out.trans (hkm6.mono HKm.out.size))
            have HCk2 := hid hck2
            have HS2 : Hid (∀ y, x ≤ y → S2 y = S y) := hid (fun y hy => (hS2 y (by omega)).trans (HS1.out y hy))
            clear hkm6 hS2 hck2 HI
            generalize co ls qn = cq at *
            by_cases hcmp : f < cq + 1
            · have HF2 : Hid (foT (co ls) (psF ls x) (j + 1) = cq + 1) := hid (by rw [HFs.out, if_pos hcmp])
              go_wp2
              go_roundw
              case rel => exact ⟨j + 1, S2, by omega, by go_num, by rw [HF2.out], HS2.out, HKm6.out, HCk2.out⟩
              case measure => simp [intOf]; omega
            · have HF2 : Hid (foT (co ls) (psF ls x) (j + 1) = f) := hid (by rw [HFs.out, if_neg hcmp])
              go_wp2
              go_roundw
              case rel => exact ⟨j + 1, S2, by omega, by go_num, by rw [HF2.out], HS2.out, HKm6.out, HCk2.out⟩
              case measure => simp [intOf]; omega
        · obtain rfl : j = l6 := by omega
          have HEq : Hid (foT (co ls) (psF ls x) j = co ls x) := hid (by rw [HCo.out, ← HL6.out])
          rw [HEq.out]
          obtain ⟨w7, hu, hck7, hg7⟩ := HCk1.out.upd (by rw [← HN.out]; omega) x (by rw [← HN.out]; exact hx) ((HS1.out x (Nat.le_refl _)).trans HS0.out) (by omega)
          have HCk7 := hid hck7
          have HKm7 := hid (HKm.out.trans (KM.grown (n := W.heap.size) (b := bm) hg7 HKm.out.size (fun j hj => by cases hj; exact .inr rfl)))
          clear hck7 hg7
          go_wp2
          try go_ret
          exact HG.out _ _ HKm7.out (fun y hy => by simp only [if_neg (show ¬ y = x by omega)]; exact HS1.out y (by omega)) HCk7.out
end Go.Proofs.Ytlhpipcmebmpdab.mc
