/-
  MirrorProgram of both sides; renumbered.
-/
import Derived.Test.YtaconeliiicloaaApo
namespace Go.Proofs.Ytaconeliiicloaa.os
open Go.RowKit Go.Sort Go.Proofs.Ytaconeliiicloaa.sl Go.Proofs.Ytaconeliiicloaa.vo Go.Proofs.Ytaconeliiicloaa.nd
set_option linter.unusedVariables false
set_option linter.unusedSimpArgs false

def mirN (wd b t : Int) : Int := if b = 0 then t else wd - 1 - t
def mirV (wd : Int) (x : OpV) : OpV := ⟨x.k, -x.d, x.fb, mirN wd x.fb x.fa, x.tb, mirN wd x.tb x.ta, x.c, -x.r⟩
def mirL (wd : Int) (xs : List OpV) : List OpV := xs.map (mirV wd)
theorem mirL_len (wd : Int) (xs : List OpV) : (mirL wd xs).length = xs.length := by simp [mirL]
theorem mirL_at (wd : Int) (xs : List OpV) (j : Nat) (h : j < xs.length) : (mirL wd xs).getD j oz = mirV wd (xs.getD j oz) := by simp [mirL, List.getD, h]
def mirB (wd : Int) (xs : List OpV) : List OpV := if opsB wd xs then mirL wd xs else []
theorem mirB_len (wd : Int) (xs : List OpV) : (mirB wd xs).length ≤ 20000 := by
  unfold mirB; split
  · rename_i h
    rw [mirL_len]
    have := (ops_all h).2
    omega
  · simp
def mirC (wd : Int) (xs : List OpV) : Int := if opsB wd xs then 0 else 1

set_option maxRecDepth 100000 in
theorem mirrorN (b t wd : Int) (w : World) (h1 : 1 ≤ wd ∧ wd ≤ 24) (h2 : 0 ≤ t ∧ t ≤ 23) :
    Calls Try.prog 72 #[.agg #[.int .i64 b, .int .i64 t], .int .i64 wd] w fun e w' => e = .returned (.agg #[.int .i64 b, .int .i64 (mirN wd b t)]) ∧ Below w.heap.size w w' := by
  by_cases hb : b = 0
  · subst hb
    have hm : mirN wd 0 t = t := rfl
    rw [hm]
    go_enter Try.func72, Try.ntmps72
    go_wp2
    refine bodyPost_ret (v := .agg #[.int .i64 0, .int .i64 t]) (by simp [results, Try.results72, go_sem]) rfl ⟨rfl, ?_⟩
    repeat (first | exact Below.refl _ _ | refine Below.setCell ?_ (by simp <;> omega) _ | refine Below.alloc ?_ (by simp <;> omega) _)
  · have hm : mirN wd b t = wd - 1 - t := by rw [mirN, if_neg hb]
    have hbb : (b == 0) = false := by simpa using hb
    rw [hm]
    go_enter Try.func72, Try.ntmps72
    go_wp2
    refine bodyPost_ret (v := .agg #[.int .i64 b, .int .i64 (wd - 1 - t)]) (by simp [results, Try.results72, go_sem]) rfl ⟨rfl, ?_⟩
    repeat (first | exact Below.refl _ _ | refine Below.setCell ?_ (by simp <;> omega) _ | refine Below.alloc ?_ (by simp <;> omega) _)

theorem opsB_wd {wd : Int} {xs : List OpV} (h : opsB wd xs = true) : 1 ≤ wd ∧ wd ≤ 24 := by
  simp only [opsB, Bool.and_eq_true, decide_eq_true_eq] at h
  exact h.1.1
theorem ops_at {wd : Int} {xs : List OpV} (h : opsB wd xs = true) (k : Nat) (hk : k < xs.length) : valB (xs.getD k oz) = true := by
  have := all_at (ops_all h).1 k hk
  simp only [okB, Bool.and_eq_true] at this
  exact this.1

set_option maxRecDepth 100000 in
set_option maxHeartbeats 2000000 in
theorem specMir (wd : Int) (xs : List OpV) (v : Value) (B : Nat) (w : World) (ha : Ops w B v xs) (hB : B ≤ w.heap.size) (hq : Small xs) :
    Calls Try.prog 24 #[.int .i64 wd, v] w fun e w' => ∃ v', e = .returned (.tuple #[v', .int .i64 (mirC wd xs)]) ∧ OOwn w' w.heap.size w'.heap.size v' (mirB wd xs) ∧ Below w.heap.size w w' := by
  have HS := hid (specOps wd xs v B w ha hB hq)
  have hn := hq.len
  clear hq
  obtain ⟨y, hy⟩ : ∃ y, y = opsB wd xs := ⟨_, rfl⟩
  rw [← hy] at HS
  have HR : Hid (mirB wd xs = if y then mirL wd xs else []) := hid (by rw [hy]; rfl)
  have HR' : Hid (mirC wd xs = if y then 0 else 1) := hid (by rw [hy]; rfl)
  cases y with
  | false =>
    have HR2 : Hid (mirB wd xs = []) := hid (by rw [HR.out]; simp)
    have HR3 : Hid (mirC wd xs = 1) := hid (by rw [HR'.out]; simp)
    rw [HR3.out, HR2.out]
    obtain ⟨ao, cap, rfl⟩ := ops_val ha
    clear ha hy HR HR'
    generalize xs.length = n at *
    go_enter Try.func24, Try.ntmps24
    go_wp2_with fail
    refine HS.out.mono ?_
    rintro e w1 ⟨rfl, b1⟩
    have HB := hid b1
    clear b1
    go_wp2
    go_ret2
    exact ⟨_, rfl, ⟨Nat.le_refl _, .inl ⟨rfl, _, _, rfl, fun _ => rfl⟩⟩, HB.out⟩
  | true =>
    have HR2 : Hid (mirB wd xs = mirL wd xs) := hid (by rw [HR.out]; simp)
    have HR3 : Hid (mirC wd xs = 0) := hid (by rw [HR'.out]; simp)
    rw [HR3.out, HR2.out]
    have hwd := opsB_wd hy.symm
    have HV := hid (fun k (hk : k < xs.length) => ops_at hy.symm k hk)
    have HOA := hid (fun w1 (b : Below w.heap.size w w1) => ha.below b)
    obtain ⟨ao, cap, hv⟩ := ops_val ha
    clear ha hy HR HR'
    obtain ⟨n, hnn⟩ : ∃ n, n = xs.length := ⟨_, rfl⟩
    rw [← hnn] at hv
    have HN := hid hnn
    have hn' : n ≤ 1048576 := by omega
    clear hnn hn
    subst hv
    go_enter Try.func24, Try.ntmps24
    go_wp2_with fail
    refine HS.out.mono ?_
    rintro e w0 ⟨rfl, b1⟩
    have HB := hid b1
    have hsz := b1.size
    have HO0 := hid (HOA.out w0 b1)
    clear b1
    go_wp2_with (at_builtin; refine wp_appendO rfl _ _ rfl w.heap.size rfl _ xs B HO0.out rfl hsz (by rw [← HN.out]; exact hn') ?_; intro v1 w1 ho1 hb1)
    have HO1 := hid ho1
    have HB1 := hid (HB.out.trans hb1)
    clear ho1 hb1 HO0 HB
    by_cases h0 : n = 0
    · obtain ⟨ao1, cap1, hv1⟩ := oown_val HO1.out
      rw [← HN.out] at hv1
      subst hv1
      have HX : Hid (xs = []) := hid (List.length_eq_zero_iff.1 (by rw [← HN.out]; exact h0))
      subst h0
      go_wp2
      refine wp_loop_rounds 1 ?_
      rw [rounds_succ]
      go_wp2
      go_ret2
      exact ⟨_, rfl, by have := HO1.out; rw [HX.out] at this ⊢; exact this, HB1.out⟩
    obtain ⟨g, cap1, hv1⟩ := oown_slice HO1.out (by rw [← HN.out]; omega)
    subst hv1
    obtain ⟨hg1, hg2, hw1, ha1⟩ := OOwn.wr HO1.out (by rw [← HN.out]; omega)
    rw [← HN.out] at hw1 ha1 ⊢
    have HW0 := hid hw1
    have HA0 := hid ha1
    clear hw1 ha1
    go_wp2
    go_loopw [7] (fun i wr => ∃ k : Nat, k ≤ n ∧ i = .int .i64 k ∧ Wr wr g (n * 8) ∧ (∀ j, j < n → At wr g (0 + j * 8) (if j < k then mirV wd (xs.getD j oz) else xs.getD j oz)) ∧ Below w.heap.size w wr) (fun i _ => n - (intOf i).toNat)
    case atStart => exact ⟨0, Nat.zero_le _, rfl, HW0.out, fun j hj => by rw [if_neg (by omega)]; exact HA0.out j hj, HB1.out⟩
    case round =>
      obtain ⟨k, hk, rfl, hw1, ha1, hbel⟩ := hrel
      clear HW0 HA0 HB1
      by_cases hlt : k < n
      · obtain ⟨hd3, hr3, hf3, ht3⟩ := val_more (HV.out k (by rw [← HN.out]; exact hlt))
        obtain ⟨hfa, hta⟩ := val_range (HV.out k (by rw [← HN.out]; exact hlt))
        have HA := ha1 k hlt
        rw [if_neg (by omega)] at HA
        obtain ⟨fk, hfk⟩ : ∃ fk : Nat → OpV, ∀ j, fk j = (if j < k + 1 then mirV wd (xs.getD j oz) else xs.getD j oz) := ⟨_, fun _ => rfl⟩
        have HO : Hid (Oth wr g n k fk) := hid (fun j hj hne => by
          have := ha1 j hj
          rw [hfk]
          by_cases h : j < k
          · rw [if_pos h] at this; rw [if_pos (by omega)]; exact this
          · rw [if_neg h] at this; rw [if_neg (by omega)]; exact this)
        have HE : Hid (fk k = mirV wd (xs.getD k oz)) := hid (by rw [hfk, if_pos (by omega)])
        have HFK := hid hfk
        clear hfk
        clear ha1
        generalize xs.getD k oz = x at *
        obtain ⟨x0, xd, xfb, xfa, xtb, xta, xc, xr⟩ := x
        simp only [mirV] at hd3 hr3 hfa hta HE
        have HM1 := hid (fun W => mirrorN xfb xfa wd W hwd hfa)
        have HM2 := hid (fun W => mirrorN xtb xta wd W hwd hta)
        generalize mirN wd xfb xfa = mf at *
        generalize mirN wd xtb xta = mt at *
        have hnd : IntKind.i64.wrap (-xd) = -xd := by rw [IntKind.wrap_i64]; omega
        have hnr : IntKind.i64.wrap (-xr) = -xr := by rw [IntKind.wrap_i64]; omega
        clear hf3 ht3
        have HWr := hid hw1
        have HBel := hid hbel
        clear hw1 hbel
        have z2 : wr.cell? ⟨g, k * 8 + 2, none⟩ = some (.int .i64 xfb) := by have := HA.c2; rwa [Nat.zero_add] at this
        have z3 : wr.cell? ⟨g, k * 8 + 3, none⟩ = some (.int .i64 xfa) := by have := HA.c3; rwa [Nat.zero_add] at this
        go_wp2_with fail
        clear z2 z3
        refine (HM1.out _).mono ?_
        rintro e w2 ⟨rfl, b1⟩
        have HA2 := HA.below b1
        have HO2 := hid (HO.out.below b1)
        have HW2 := hid (HWr.out.below b1)
        have HB2 := hid (HBel.out.trans (b1.mono HBel.out.size))
        clear b1 HA HO HWr HBel
        unfold At at HA2
        rw [Nat.zero_add] at HA2
        have d0 := HA2.c0
        have d1 := HA2.c1
        have d2 := HA2.c2
        have d3 := HA2.c3
        have d4 := HA2.c4
        have d5 := HA2.c5
        have d6 := HA2.c6
        have d7 := HA2.c7
        simp only at d0 d1 d2 d3 d4 d5 d6 d7
        clear HA2
        obtain ⟨f1, _⟩ := HW2.out.2 (k * 8 + 1) (by omega)
        obtain ⟨f2, _⟩ := HW2.out.2 (k * 8 + 2) (by omega)
        obtain ⟨f3, _⟩ := HW2.out.2 (k * 8 + 3) (by omega)
        obtain ⟨f4, _⟩ := HW2.out.2 (k * 8 + 4) (by omega)
        obtain ⟨f5, _⟩ := HW2.out.2 (k * 8 + 5) (by omega)
        obtain ⟨f7, _⟩ := HW2.out.2 (k * 8 + 7) (by omega)
        have hgz := HW2.out.1
        go_wp2_with fail
        refine (HM2.out _).mono ?_
        rintro e w3 ⟨rfl, b1⟩
        have HO3 := hid (((HO2.out.set (k * 8 + 2) (.int .i64 xfb) (by omega) (by omega)).set (k * 8 + 3) (.int .i64 mf) (by omega) (by omega)).below b1)
        have HW3 := hid (((HW2.out.set (k * 8 + 2) (.int .i64 xfb) (by omega)).set (k * 8 + 3) (.int .i64 mf) (by omega)).below b1)
        have HB3a := (HB2.out.setCell (p := ⟨g, k * 8 + 2, none⟩) hg1 (.int .i64 xfb)).setCell (p := ⟨g, k * 8 + 3, none⟩) hg1 (.int .i64 mf)
        have HB3 := hid (HB3a.trans (b1.mono HB3a.size))
        have e0 : w3.cell? ⟨g, k * 8, none⟩ = some (.int .i64 x0) := (b1.cell (p := ⟨g, k * 8, none⟩) (by simpa using hgz)).trans (by go_simp)
        have e1 : w3.cell? ⟨g, k * 8 + 1, none⟩ = some (.int .i64 xd) := (b1.cell (p := ⟨g, k * 8 + 1, none⟩) (by simpa using hgz)).trans (by go_simp)
        have e2 : w3.cell? ⟨g, k * 8 + 2, none⟩ = some (.int .i64 xfb) := (b1.cell (p := ⟨g, k * 8 + 2, none⟩) (by simpa using hgz)).trans (by go_simp)
        have e3 : w3.cell? ⟨g, k * 8 + 3, none⟩ = some (.int .i64 mf) := (b1.cell (p := ⟨g, k * 8 + 3, none⟩) (by simpa using hgz)).trans (by go_simp)
        have e4 : w3.cell? ⟨g, k * 8 + 4, none⟩ = some (.int .i64 xtb) := (b1.cell (p := ⟨g, k * 8 + 4, none⟩) (by simpa using hgz)).trans (by go_simp)
        have e5 : w3.cell? ⟨g, k * 8 + 5, none⟩ = some (.int .i64 xta) := (b1.cell (p := ⟨g, k * 8 + 5, none⟩) (by simpa using hgz)).trans (by go_simp)
        have e6 : w3.cell? ⟨g, k * 8 + 6, none⟩ = some (.int .i64 xc) := (b1.cell (p := ⟨g, k * 8 + 6, none⟩) (by simpa using hgz)).trans (by go_simp)
        have e7 : w3.cell? ⟨g, k * 8 + 7, none⟩ = some (.int .i64 xr) := (b1.cell (p := ⟨g, k * 8 + 7, none⟩) (by simpa using hgz)).trans (by go_simp)
        clear b1 HB3a d0 d1 d2 d3 d4 d5 d6 d7 f1 f2 f3 f4 f5 f7 HO2 HW2 HB2 hgz
        obtain ⟨f1, _⟩ := HW3.out.2 (k * 8 + 1) (by omega)
        obtain ⟨f4, _⟩ := HW3.out.2 (k * 8 + 4) (by omega)
        obtain ⟨f5, _⟩ := HW3.out.2 (k * 8 + 5) (by omega)
        obtain ⟨f7, _⟩ := HW3.out.2 (k * 8 + 7) (by omega)
        have hgz := HW3.out.1
        have HAf : Hid (At ((((w3.setCell ⟨g, k * 8 + 4, none⟩ (.int .i64 xtb)).setCell ⟨g, k * 8 + 5, none⟩ (.int .i64 mt)).setCell ⟨g, k * 8 + 1, none⟩ (.int .i64 (-xd))).setCell ⟨g, k * 8 + 7, none⟩ (.int .i64 (-xr))) g (0 + k * 8) ⟨x0, -xd, xfb, mf, xtb, mt, xc, -xr⟩) := hid (by
          rw [Nat.zero_add]
          exact ⟨by simpa using hgz, by go_simp, by go_simp, by go_simp, by go_simp, by go_simp, by go_simp, by go_simp, by go_simp⟩)
        go_wp2
        clear e0 e1 e2 e3 e4 e5 e6 e7 f1 f4 f5 f7
        go_roundw
        case rel =>
          refine ⟨k + 1, by omega, by go_num, ?_, ?_, ?_⟩
          · exact (((HW3.out.set (k * 8 + 4) _ (by omega)).set (k * 8 + 5) _ (by omega)).set (k * 8 + 1) _ (by omega)).set (k * 8 + 7) _ (by omega)
          · intro j hj
            rw [← HFK.out j]
            by_cases e : j = k
            · subst e
              rw [HE.out]
              exact HAf.out
            · exact ((((HO3.out.set (k * 8 + 4) _ (by omega) (by omega)).set (k * 8 + 5) _ (by omega) (by omega)).set (k * 8 + 1) _ (by omega) (by omega)).set (k * 8 + 7) _ (by omega) (by omega)) j hj e
          · exact (((HB3.out.setCell (p := ⟨g, k * 8 + 4, none⟩) hg1 _).setCell (p := ⟨g, k * 8 + 5, none⟩) hg1 _).setCell (p := ⟨g, k * 8 + 1, none⟩) hg1 _).setCell (p := ⟨g, k * 8 + 7, none⟩) hg1 _
        case measure => simp [intOf]; omega
      · obtain rfl : k = n := by omega
        have HF : Hid (OOwn wr w.heap.size wr.heap.size (.slice (some ⟨g, 0, none⟩) k cap1) (mirL wd xs)) := hid (by
          have hl : (mirL wd xs).length = k := by rw [mirL_len, HN.out]
          have := OOwn.ofWr (xs := mirL wd xs) (cap := cap1) (by rw [hl]; omega) hg1 (by rw [hl]; exact hw1) (fun j hj => by
            rw [hl] at hj
            rw [mirL_at wd xs j (by rw [← HN.out]; exact hj)]
            have := ha1 j hj
            rw [if_pos hj] at this
            exact this)
          rw [hl] at this
          exact this)
        have HBf := hid hbel
        clear hw1 ha1 hbel
        go_wp2
        go_ret2
        exact ⟨_, rfl, HF.out, HBf.out⟩

def chN (f : Int → Int) (b t : Int) : Int := if validB b t then f t else t
/-- The memory of renumbered: the operation, the result's cells, the two pointers. -/
structure RN (wr : World) (s : Nat) (k d fb fa tb ta c r : Int) : Prop where
  sz : s + 3 ≤ wr.heap.size
  bx : OpAt wr s 0 k d fb fa tb ta c r
  fz : ∀ o, o < 8 → wr.frozen? ⟨s, o, none⟩ = false
  rs : ∀ o, o < 8 → wr.frozen? ⟨s + 1, o, none⟩ = false ∧ wr.cell? ⟨s + 1, o, none⟩ = some (.int .i64 0)
  p0 : wr.cell? ⟨s + 1 + 1, 0, none⟩ = some (.pointer (some ⟨s, 2, none⟩))
  p1 : wr.cell? ⟨s + 1 + 1, 1, none⟩ = some (.pointer (some ⟨s, 4, none⟩))
theorem RN.below {wr w1 : World} {s : Nat} {k d fb fa tb ta c r : Int} (h : RN wr s k d fb fa tb ta c r) (b : Below wr.heap.size wr w1) : RN w1 s k d fb fa tb ta c r := by
  have hs := h.sz
  have hz := b.size
  exact ⟨by omega, h.bx.below b, fun o ho => (b.frozen (p := ⟨s, o, none⟩) (by show s < _; omega)).trans (h.fz o ho), fun o ho => ⟨(b.frozen (p := ⟨s + 1, o, none⟩) (by show s + 1 < _; omega)).trans (h.rs o ho).1, (b.cell (p := ⟨s + 1, o, none⟩) (by show s + 1 < _; omega)).trans (h.rs o ho).2⟩,
    (b.cell (p := ⟨s + 1 + 1, 0, none⟩) (by show s + 1 + 1 < _; omega)).trans h.p0, (b.cell (p := ⟨s + 1 + 1, 1, none⟩) (by show s + 1 + 1 < _; omega)).trans h.p1⟩
theorem other_blk {w : World} {b g i q : Nat} {v : Value} (h : b ≠ g) : (w.setCell ⟨g, i, none⟩ v).cell? ⟨b, q, none⟩ = w.cell? ⟨b, q, none⟩ := World.cell?_setCell_other _ _ _ _ (fun e => h (by injection e with e1 _ _; exact e1.symm))
theorem RN.set3 {wr : World} {s : Nat} {k d fb fa tb ta c r : Int} (h : RN wr s k d fb fa tb ta c r) (v : Int) : RN (wr.setCell ⟨s, 3, none⟩ (.int .i64 v)) s k d fb v tb ta c r := by
  obtain ⟨c0, c1, c2, c3, c4, c5, c6, c7⟩ := h.bx.z
  refine ⟨by simpa using h.sz, ⟨by simpa using h.bx.lt, ?_, ?_, ?_, ?_, ?_, ?_, ?_, ?_⟩, fun o ho => by rw [World.frozen?_setCell]; exact h.fz o ho, fun o ho => ⟨by rw [World.frozen?_setCell]; exact (h.rs o ho).1, by rw [other_blk (by omega)]; exact (h.rs o ho).2⟩, by rw [other_blk (by omega)]; exact h.p0, by rw [other_blk (by omega)]; exact h.p1⟩
  · rw [ss.other_at (by omega)]; exact c0
  · rw [ss.other_at (by omega)]; exact c1
  · rw [ss.other_at (by omega)]; exact c2
  · exact ss.same_at c3
  · rw [ss.other_at (by omega)]; exact c4
  · rw [ss.other_at (by omega)]; exact c5
  · rw [ss.other_at (by omega)]; exact c6
  · rw [ss.other_at (by omega)]; exact c7
theorem RN.set5 {wr : World} {s : Nat} {k d fb fa tb ta c r : Int} (h : RN wr s k d fb fa tb ta c r) (v : Int) : RN (wr.setCell ⟨s, 5, none⟩ (.int .i64 v)) s k d fb fa tb v c r := by
  obtain ⟨c0, c1, c2, c3, c4, c5, c6, c7⟩ := h.bx.z
  refine ⟨by simpa using h.sz, ⟨by simpa using h.bx.lt, ?_, ?_, ?_, ?_, ?_, ?_, ?_, ?_⟩, fun o ho => by rw [World.frozen?_setCell]; exact h.fz o ho, fun o ho => ⟨by rw [World.frozen?_setCell]; exact (h.rs o ho).1, by rw [other_blk (by omega)]; exact (h.rs o ho).2⟩, by rw [other_blk (by omega)]; exact h.p0, by rw [other_blk (by omega)]; exact h.p1⟩
  · rw [ss.other_at (by omega)]; exact c0
  · rw [ss.other_at (by omega)]; exact c1
  · rw [ss.other_at (by omega)]; exact c2
  · rw [ss.other_at (by omega)]; exact c3
  · rw [ss.other_at (by omega)]; exact c4
  · exact ss.same_at c5
  · rw [ss.other_at (by omega)]; exact c6
  · rw [ss.other_at (by omega)]; exact c7

theorem rnRes (W : World) (g : Nat) (x0 x1 x2 x3 x5 x6 x7 x8 x9 x10 x11 x12 x13 x14 x15 x16 x17 x18 x19 x20 x21 x22 x23 x24 x25 x26 x27 x28 x29 : Value) (k d fb fa tb ta c r : Int) (d0 : W.cell? ⟨g, 0, none⟩ = some (.int .i64 k)) (d1 : W.cell? ⟨g, 1, none⟩ = some (.int .i64 d)) (d2 : W.cell? ⟨g, 2, none⟩ = some (.int .i64 fb)) (d3 : W.cell? ⟨g, 3, none⟩ = some (.int .i64 fa)) (d4 : W.cell? ⟨g, 4, none⟩ = some (.int .i64 tb)) (d5 : W.cell? ⟨g, 5, none⟩ = some (.int .i64 ta)) (d6 : W.cell? ⟨g, 6, none⟩ = some (.int .i64 c)) (d7 : W.cell? ⟨g, 7, none⟩ = some (.int .i64 r)) :
    (results Try.f75 #[x0, x1, x2, x3, .pointer (some ⟨g, 0, none⟩), x5, x6, x7, x8, x9, x10, x11, x12, x13, x14, x15, x16, x17, x18, x19, x20, x21, x22, x23, x24, x25, x26, x27, x28, x29]).run Try.prog W = .ok (.agg #[.int .i64 k, .int .i64 d, .int .i64 fb, .int .i64 fa, .int .i64 tb, .int .i64 ta, .int .i64 c, .int .i64 r]) W := by
  simp [results, Try.results75, go_sem, d0, d1, d2, d3, d4, d5, d6, d7]

set_option maxRecDepth 100000 in
set_option maxHeartbeats 2000000 in
theorem renum (f : Int → Int) (gf : Nat) (cps : Array Value) (k d fb fa tb ta c r : Int) (w : World)
    (eg : ∀ args w, (callFunc gf args).run Try.prog w = .ok (.enter gf args) w)
    (hp : ∀ (t : Int) (W : World), 0 ≤ t → t ≤ 23 → Below w.heap.size w W → Calls Try.prog gf (#[.int .i64 t] ++ cps) W fun e w' => e = .returned (.int .i64 (f t)) ∧ Below W.heap.size W w') :
    Calls Try.prog 75 #[.agg #[.int .i64 k, .int .i64 d, .int .i64 fb, .int .i64 fa, .int .i64 tb, .int .i64 ta, .int .i64 c, .int .i64 r], .func (.func gf) #[] cps] w fun e w' =>
      e = .returned (.agg #[.int .i64 k, .int .i64 d, .int .i64 fb, .int .i64 (chN f fb fa), .int .i64 tb, .int .i64 (chN f tb ta), .int .i64 c, .int .i64 r]) ∧ Below w.heap.size w w' := by
  have HP := hid hp
  clear hp
  have e1 := (((Below.refl w.heap.size w).alloc (Nat.le_refl _) (.cells #[.int .i64 k, .int .i64 d, .int .i64 fb, .int .i64 fa, .int .i64 tb, .int .i64 ta, .int .i64 c, .int .i64 r] 90)).alloc (by simp) (.cells #[.int .i64 0, .int .i64 0, .int .i64 0, .int .i64 0, .int .i64 0, .int .i64 0, .int .i64 0, .int .i64 0] 90)).alloc (by simp; omega) (.cells #[.pointer (some ⟨w.heap.size, 2, none⟩), .pointer (some ⟨w.heap.size, 4, none⟩)] 131)
  have R0 : RN (((w.alloc (.cells #[.int .i64 k, .int .i64 d, .int .i64 fb, .int .i64 fa, .int .i64 tb, .int .i64 ta, .int .i64 c, .int .i64 r] 90)).alloc (.cells #[.int .i64 0, .int .i64 0, .int .i64 0, .int .i64 0, .int .i64 0, .int .i64 0, .int .i64 0, .int .i64 0] 90)).alloc (.cells #[.pointer (some ⟨w.heap.size, 2, none⟩), .pointer (some ⟨w.heap.size, 4, none⟩)] 131)) w.heap.size k d fb fa tb ta c r := by
    refine ⟨by simp, ((opAt_new k d fb fa tb ta c r w).below ((Below.refl _ _).alloc (Nat.le_refl _) _)).below ((Below.refl _ _).alloc (Nat.le_refl _) _), fun o ho => ?_, fun o ho => ⟨?_, ?_⟩, World.cell?_alloc_at _ _ _ _ (by simp), World.cell?_alloc_at _ _ _ _ (by simp)⟩
    · exact (World.frozen?_alloc_past _ _ _ (by simp; omega)).trans ((World.frozen?_alloc_past _ _ _ (by simp)).trans (World.frozen?_alloc_at _ _ _ _ rfl))
    · exact (World.frozen?_alloc_past _ _ _ (by simp)).trans (World.frozen?_alloc_at _ _ _ _ (by simp))
    · refine (World.cell?_alloc_past _ _ _ (by simp)).trans ((World.cell?_alloc_at _ _ _ _ (by simp)).trans ?_)
      match o, ho with
      | 0, _ => rfl
      | 1, _ => rfl
      | 2, _ => rfl
      | 3, _ => rfl
      | 4, _ => rfl
      | 5, _ => rfl
      | 6, _ => rfl
      | 7, _ => rfl
  have HR0 := hid R0
  have HE0 := hid e1
  clear R0 e1
  have HC1 : Hid (chN f fb fa = if validB fb fa then f fa else fa) := hid rfl
  have HC2 : Hid (chN f tb ta = if validB tb ta then f ta else ta) := hid rfl
  have HV1 := hid (fun W => implValid fb fa W)
  have HV2 := hid (fun W => implValid tb ta W)
  have HG1 := hid (fun (h : validB fb fa = true) => needle_range h)
  have HG2 := hid (fun (h : validB tb ta = true) => needle_range h)
  generalize chN f fb fa = na at *
  generalize chN f tb ta = nt at *
  generalize validB fb fa = q1 at *
  generalize validB tb ta = q2 at *
  go_enter Try.func75, Try.ntmps75
  go_wp2
  generalize ((w.alloc (.cells #[.int .i64 k, .int .i64 d, .int .i64 fb, .int .i64 fa, .int .i64 tb, .int .i64 ta, .int .i64 c, .int .i64 r] 90)).alloc (.cells #[.int .i64 0, .int .i64 0, .int .i64 0, .int .i64 0, .int .i64 0, .int .i64 0, .int .i64 0, .int .i64 0] 90)).alloc (.cells #[.pointer (some ⟨w.heap.size, 2, none⟩), .pointer (some ⟨w.heap.size, 4, none⟩)] 131) = W0 at *
  go_loopw [11] (fun i wr => ∃ j : Nat, j ≤ 2 ∧ i = .int .i64 j ∧ RN wr w.heap.size k d fb (if 1 ≤ j then na else fa) tb (if 2 ≤ j then nt else ta) c r ∧ Below w.heap.size w wr) (fun i _ => 2 - (intOf i).toNat)
  case atStart => exact ⟨0, by omega, rfl, HR0.out, HE0.out⟩
  case round =>
    obtain ⟨j, hj, rfl, hr, hbel⟩ := hrel
    clear HR0 HE0
    have HB := hid hbel
    clear hbel
    obtain rfl | rfl | rfl : j = 0 ∨ j = 1 ∨ j = 2 := by omega
    · simp only [show ¬ (1 ≤ 0) from by omega, show ¬ (2 ≤ 0) from by omega, if_false] at hr
      obtain ⟨c0, c1, c2, c3, c4, c5, c6, c7⟩ := hr.bx.z
      have hp0 := hr.p0
      have HRr := hid hr
      clear hr c0 c1 c4 c5 c6 c7
      go_wp2_with fail
      clear c2 c3 hp0
      refine (HV1.out _).mono ?_
      rintro e w2 ⟨rfl, b1⟩
      have HR2 := hid (HRr.out.below b1)
      have HB2 := hid (HB.out.trans (b1.mono HB.out.size))
      clear b1 HRr HB
      cases q1 with
      | false =>
        have hna : na = fa := by rw [HC1.out]; rfl
        go_wp2
        go_roundw
        case rel => exact ⟨1, by omega, by go_num, by simp only [show (1 ≤ 1) from by omega, show ¬ (2 ≤ 1) from by omega, if_false, if_true]; rw [hna]; exact HR2.out, HB2.out⟩
        case measure => simp [intOf]
      | true =>
        have hna : na = f fa := by rw [HC1.out]; rfl
        obtain ⟨g0, g1⟩ := HG1.out rfl
        have c3 := HR2.out.bx.z.2.2.2.1
        have hfz := HR2.out.fz 3 (by omega)
        have HPc := hid (HP.out fa w2 g0 g1 HB2.out)
        rw [← hna] at HPc
        clear hna
        go_wp2_with fail
        clear c3 hfz
        refine HPc.out.mono ?_
        rintro e w3 ⟨rfl, b1⟩
        have HR3 := hid (HR2.out.below b1)
        have HB3 := hid (HB2.out.trans (b1.mono HB2.out.size))
        clear b1 HR2 HB2 HPc
        have c3 := HR3.out.bx.z.2.2.2.1
        have hfz := HR3.out.fz 3 (by omega)
        go_wp2
        clear c3 hfz
        go_roundw
        case rel => exact ⟨1, by omega, by go_num, by simp only [show (1 ≤ 1) from by omega, show ¬ (2 ≤ 1) from by omega, if_false, if_true]; exact HR3.out.set3 na, HB3.out.setCell (p := ⟨w.heap.size, 3, none⟩) (Nat.le_refl _) _⟩
        case measure => simp [intOf]
    · simp only [show (1 ≤ 1) from by omega, show ¬ (2 ≤ 1) from by omega, if_false, if_true] at hr
      obtain ⟨c0, c1, c2, c3, c4, c5, c6, c7⟩ := hr.bx.z
      have hp1 := hr.p1
      have HRr := hid hr
      clear hr c0 c1 c2 c3 c6 c7
      go_wp2_with fail
      clear c4 c5 hp1
      refine (HV2.out _).mono ?_
      rintro e w2 ⟨rfl, b1⟩
      have HR2 := hid (HRr.out.below b1)
      have HB2 := hid (HB.out.trans (b1.mono HB.out.size))
      clear b1 HRr HB
      cases q2 with
      | false =>
        have hnt : nt = ta := by rw [HC2.out]; rfl
        go_wp2
        go_roundw
        case rel => exact ⟨2, by omega, by go_num, by simp only [show (1 ≤ 2) from by omega, show (2 ≤ 2) from by omega, if_true]; rw [hnt]; exact HR2.out, HB2.out⟩
        case measure => simp [intOf]
      | true =>
        have hnt : nt = f ta := by rw [HC2.out]; rfl
        obtain ⟨g0, g1⟩ := HG2.out rfl
        have c5 := HR2.out.bx.z.2.2.2.2.2.1
        have hfz := HR2.out.fz 5 (by omega)
        have HPc := hid (HP.out ta w2 g0 g1 HB2.out)
        rw [← hnt] at HPc
        clear hnt
        go_wp2_with fail
        clear c5 hfz
        refine HPc.out.mono ?_
        rintro e w3 ⟨rfl, b1⟩
        have HR3 := hid (HR2.out.below b1)
        have HB3 := hid (HB2.out.trans (b1.mono HB2.out.size))
        clear b1 HR2 HB2 HPc
        have c5 := HR3.out.bx.z.2.2.2.2.2.1
        have hfz := HR3.out.fz 5 (by omega)
        go_wp2
        clear c5 hfz
        go_roundw
        case rel => exact ⟨2, by omega, by go_num, by simp only [show (1 ≤ 2) from by omega, show (2 ≤ 2) from by omega, if_true]; exact HR3.out.set5 nt, HB3.out.setCell (p := ⟨w.heap.size, 5, none⟩) (Nat.le_refl _) _⟩
        case measure => simp [intOf]
    · simp only [show (1 ≤ 2) from by omega, show (2 ≤ 2) from by omega, if_true] at hr
      obtain ⟨c0, c1, c2, c3, c4, c5, c6, c7⟩ := hr.bx.z
      obtain ⟨f0, z0⟩ := hr.rs 0 (by omega)
      obtain ⟨f1, z1⟩ := hr.rs 1 (by omega)
      obtain ⟨f2, z2⟩ := hr.rs 2 (by omega)
      obtain ⟨f3, z3⟩ := hr.rs 3 (by omega)
      obtain ⟨f4, z4⟩ := hr.rs 4 (by omega)
      obtain ⟨f5, z5⟩ := hr.rs 5 (by omega)
      obtain ⟨f6, z6⟩ := hr.rs 6 (by omega)
      obtain ⟨f7, z7⟩ := hr.rs 7 (by omega)
      clear hr
      go_wp2
      refine bodyPost_ret (v := .agg #[.int .i64 k, .int .i64 d, .int .i64 fb, .int .i64 na, .int .i64 tb, .int .i64 nt, .int .i64 c, .int .i64 r]) ?_ rfl ⟨rfl, ?_⟩
      · exact rnRes _ (w.heap.size + 1) _ _ _ _ _ _ _ _ _ _ _ _ _ _ _ _ _ _ _ _ _ _ _ _ _ _ _ _ _ k d fb na tb nt c r (by go_simp) (by go_simp) (by go_simp) (by go_simp) (by go_simp) (by go_simp) (by go_simp) (by go_simp)
      · iterate 8 (refine Below.setCell ?_ (by simp <;> omega) _)
        exact HB.out
end Go.Proofs.Ytaconeliiicloaa.os
