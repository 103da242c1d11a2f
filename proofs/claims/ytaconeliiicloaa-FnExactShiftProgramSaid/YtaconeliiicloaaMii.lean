/-
  MirrorProgram of the program.
-/
import Derived.Test.YtaconeliiicloaaMir
namespace Go.Proofs.Ytaconeliiicloaa.os
open Go.RowKit Go.Sort Go.Proofs.Ytaconeliiicloaa.sl Go.Proofs.Ytaconeliiicloaa.vo Go.Proofs.Ytaconeliiicloaa.nd Go.Proofs.Ytaconeliiicloaa.bw Go.Proofs.Ytaconeliiicloaa.br Go.Proofs.Ytaconeliiicloaa.fv
set_option linter.unusedVariables false
set_option linter.unusedSimpArgs false

theorem ch_mir (wd b t : Int) (h : validB b t = true ∨ b = 0 ∧ t = 0) : chN (fun t => wd - 1 - t) b t = mirN wd b t := by
  unfold chN mirN
  rcases h with h | ⟨rfl, rfl⟩
  · rw [if_pos h, if_neg (valid_bed h)]
  · rw [if_pos rfl, if_neg (by decide)]

theorem mirCl (b : Nat) (wd t : Int) (W : World) (h0 : W.cell? ⟨b, 0, none⟩ = some (.int .i64 wd)) (h1 : 1 ≤ wd ∧ wd ≤ 24) (h2 : 0 ≤ t) (h3 : t ≤ 23) :
    Calls Try.prog 76 #[.int .i64 t, .pointer (some ⟨b, 0, none⟩)] W fun e w' => e = .returned (.int .i64 (wd - 1 - t)) ∧ Below W.heap.size W w' := by
  go_enter Try.func76, Try.ntmps76
  go_wp2
  go_ret
  exact ⟨rfl, Below.refl _ _⟩

set_option maxRecDepth 100000 in
set_option maxHeartbeats 2000000 in
theorem implMir (wd : Int) (xs : List OpV) (v : Value) (B : Nat) (w : World) (ha : Ops w B v xs) (hB : B ≤ w.heap.size) (hq : Small xs) :
    Calls Try.prog 26 #[.int .i64 wd, v] w fun e w' => ∃ v', e = .returned (.tuple #[v', .int .i64 (mirC wd xs)]) ∧ OOwn w' w.heap.size w'.heap.size v' (mirB wd xs) ∧ Below w.heap.size w w' := by
  obtain ⟨i0, hi, hz0, hz1, hz2⟩ := info_parts infoO
  have eg := enters_of Try.func76 (by kernel_rfl) rfl
  have hbox := (Below.refl w.heap.size w).alloc (Nat.le_refl _) (.cells #[.int .i64 wd] 2)
  have hwc : (w.alloc (.cells #[.int .i64 wd] 2)).cell? ⟨w.heap.size, 0, none⟩ = some (.int .i64 wd) := World.cell?_alloc_at _ _ _ _ rfl
  have hws : w.heap.size < (w.alloc (.cells #[.int .i64 wd] 2)).heap.size := by simp
  have HS := hid (areFor wd xs v B _ (ha.al (.cells #[.int .i64 wd] 2)) (by simp; omega) hq)
  have hn := hq.len
  clear hq
  obtain ⟨y, hy⟩ : ∃ y, y = opsB wd xs := ⟨_, rfl⟩
  rw [← hy] at HS
  have HR : Hid (mirB wd xs = if y then mirL wd xs else []) := hid (by rw [hy]; rfl)
  have HR' : Hid (mirC wd xs = if y then 0 else 1) := hid (by rw [hy]; rfl)
  have HA0 := hid (ha.al (.cells #[.int .i64 wd] 2))
  clear ha
  cases y with
  | false =>
    have HR2 : Hid (mirB wd xs = []) := hid (by rw [HR.out]; simp)
    have HR3 : Hid (mirC wd xs = 1) := hid (by rw [HR'.out]; simp)
    rw [HR3.out, HR2.out]
    obtain ⟨ao, cap, rfl⟩ := ops_val HA0.out
    clear HA0 hy HR HR' hwc hws
    generalize xs.length = n at *
    go_enter Try.func26, Try.ntmps26
    go_wp2_with fail
    generalize w.alloc (.cells #[.int .i64 wd] 2) = W0 at *
    refine HS.out.mono ?_
    rintro e w1 ⟨rfl, b1⟩
    have HB := hid (hbox.trans (b1.mono hbox.size))
    clear b1 hbox
    go_wp2
    go_ret2
    exact ⟨_, rfl, ⟨Nat.le_refl _, .inl ⟨rfl, _, _, rfl, fun _ => rfl⟩⟩, HB.out⟩
  | true =>
    have HR2 : Hid (mirB wd xs = mirL wd xs) := hid (by rw [HR.out]; simp)
    have HR3 : Hid (mirC wd xs = 0) := hid (by rw [HR'.out]; simp)
    rw [HR3.out, HR2.out]
    have hwd := opsB_wd hy.symm
    have HV := hid (fun k (hk : k < xs.length) => ops_at hy.symm k hk)
    clear hy HR HR'
    have HEg := hid eg
    clear eg
    obtain ⟨n, hnn⟩ : ∃ n, n = xs.length := ⟨_, rfl⟩
    have HN := hid hnn
    have hn' : n ≤ 1048576 := by omega
    clear hn
    rcases HA0.out with ⟨hx0, ao, cap, rfl, hao⟩ | ⟨hp, b, off, cap, rfl, hb, hc⟩
    · have hn0 : n = 0 := by rw [hnn, hx0]; rfl
      clear hnn
      rw [show mirL wd xs = [] from by rw [hx0]; rfl]
      go_enter Try.func26, Try.ntmps26
      go_wp2_with fail
      generalize w.alloc (.cells #[.int .i64 wd] 2) = W0 at *
      refine HS.out.mono ?_
      rintro e w0 ⟨rfl, b1⟩
      have HB := hid (hbox.trans (b1.mono hbox.size))
      have hsz := HB.out.size
      clear b1 hbox
      go_wp2_with (at_make; refine wpList_make_full _ rfl _ _ 38 rfl w.heap.size 90 i0 _ 8 Try.underlying38 hi hz0 hz1 .i64 .i64 _ _ 0 rfl rfl (by rfl) (by rfl) (by omega) (by unfold maxLen; omega) hsz ?_; intro w1 hown1 hgrow1)
      have HB1 := hid (HB.out.grown hgrow1 hsz (fun k hk => by cases hk))
      clear hown1 hgrow1
      refine wp_loop_rounds 1 ?_
      rw [rounds_succ]
      go_wp2
      go_ret2
      exact ⟨_, rfl, ⟨Nat.le_refl _, .inl ⟨rfl, _, _, rfl, fun h => by cases h⟩⟩, HB1.out⟩
    · rw [← hnn] at hp hc HS ⊢
      have HC := hid hc
      clear hc hnn HA0
      go_enter Try.func26, Try.ntmps26
      go_wp2_with fail
      generalize w.alloc (.cells #[.int .i64 wd] 2) = W0 at *
      refine HS.out.mono ?_
      rintro e w0 ⟨rfl, b1⟩
      have HB := hid (hbox.trans (b1.mono hbox.size))
      have HB0 := hid b1
      have hsz := HB.out.size
      have hsz0 := b1.size
      clear b1
      go_wp2_with (at_make; refine wpList_make_full _ rfl _ _ 38 rfl W0.heap.size 90 i0 _ 8 Try.underlying38 hi hz0 hz1 .i64 .i64 _ _ n rfl rfl (by omega) (by omega) (by rw [hz2]; omega) (by unfold maxLen; omega) hsz0 ?_; intro w1 hown1 hgrow1)
      have HP0 : Hid (Prt w0.heap.size n 0 (mirL wd xs) w1) := hid ⟨(hown1.lt _ rfl).2, fun o ho => ⟨hown1.frozenAt o, by
        have hx := hown1.cellAt o ho
        have hl : (madeCells (Value.agg #[.int .i64 0, .int .i64 0, .int .i64 0, .int .i64 0, .int .i64 0, .int .i64 0, .int .i64 0, .int .i64 0]).cells (n * 8)).toList.length = n * 8 := hown1.1
        rw [hx]
        exact ⟨_, List.getElem?_eq_getElem (by rw [hl]; exact ho)⟩⟩, fun j hj => by omega⟩
      have HB1 := hid (HB0.out.grown hgrow1 hsz0 (fun k hk => by cases hk))
      clear hown1 hgrow1
      have hg0 : W0.heap.size ≤ w0.heap.size := hsz0
      generalize w0.heap.size = g at *
      go_loopw [18] (fun i wr => ∃ k : Nat, k ≤ n ∧ i = .int .i64 k ∧ Prt g n k (mirL wd xs) wr ∧ Below W0.heap.size W0 wr) (fun i _ => n - (intOf i).toNat)
      case atStart => exact ⟨0, Nat.zero_le _, rfl, HP0.out, HB1.out⟩
      case round =>
        obtain ⟨k, hk, rfl, hpr, hbel⟩ := hrel
        have HPr := hid hpr
        have HBel := hid hbel
        clear hbel HB0 HP0 HB1
        by_cases hlt : k < n
        · have HA := (HC.out k hlt).below HBel.out
          obtain ⟨hd3, hr3, hf3, ht3⟩ := val_more (HV.out k (by rw [← HN.out]; exact hlt))
          have HML : Hid ((mirL wd xs).getD k oz = mirV wd (xs.getD k oz)) := hid (mirL_at wd xs k (by rw [← HN.out]; exact hlt))
          have HSt := hid (fun W (p : Prt g n k (mirL wd xs) W) => p.step hlt)
          clear hpr
          rw [HML.out] at HSt
          clear HML
          generalize xs.getD k oz = x at *
          obtain ⟨x0, xd, xfb, xfa, xtb, xta, xc, xr⟩ := x
          simp only [mirV] at hd3 hr3 hf3 ht3 HSt
          rw [← ch_mir wd xfb xfa hf3, ← ch_mir wd xtb xta ht3] at HSt
          have hnd : IntKind.i64.wrap (-xd) = -xd := by rw [IntKind.wrap_i64]; omega
          have hnr : IntKind.i64.wrap (-xr) = -xr := by rw [IntKind.wrap_i64]; omega
          clear hf3 ht3
          have c0 := HA.c0
          have c1 := HA.c1
          have c2 := HA.c2
          have c3 := HA.c3
          have c4 := HA.c4
          have c5 := HA.c5
          have c6 := HA.c6
          have c7 := HA.c7
          simp only at c0 c1 c2 c3 c4 c5 c6 c7
          clear HA
          have HRn := hid (fun W (hbw : Below W0.heap.size W0 W) => renum (fun t => wd - 1 - t) 76 #[.pointer (some ⟨w.heap.size, 0, none⟩)] x0 (-xd) xfb xfa xtb xta xc (-xr) W HEg.out (fun t W' h1 h2 hb' => mirCl w.heap.size wd t W' ((hb'.cell (p := ⟨w.heap.size, 0, none⟩) (by show w.heap.size < _; have := hbw.size; omega)).trans ((hbw.cell (p := ⟨w.heap.size, 0, none⟩) hws).trans hwc)) hwd h1 h2))
          generalize chN (fun t => wd - 1 - t) xfb xfa = mf at *
          generalize chN (fun t => wd - 1 - t) xtb xta = mt at *
          have hal := (Below.refl wr.heap.size wr).alloc (Nat.le_refl _) (.cells #[.int .i64 x0, .int .i64 (-xd), .int .i64 xfb, .int .i64 xfa, .int .i64 xtb, .int .i64 xta, .int .i64 xc, .int .i64 (-xr)] 90)
          go_wp2_with fail
          clear c0 c1 c2 c3 c4 c5 c6 c7
          have HPa := hid (HPr.out.below hal)
          have HBa := hid (HBel.out.trans (hal.mono HBel.out.size))
          clear hal HPr HBel
          generalize wr.alloc (.cells #[.int .i64 x0, .int .i64 (-xd), .int .i64 xfb, .int .i64 xfa, .int .i64 xtb, .int .i64 xta, .int .i64 xc, .int .i64 (-xr)] 90) = Wa at *
          refine (HRn.out Wa HBa.out).mono ?_
          rintro e w2 ⟨rfl, b2⟩
          have HP2 := hid (HPa.out.below b2)
          have HB2 := hid (HBa.out.trans (b2.mono HBa.out.size))
          clear b2 HPa HBa HRn
          have HP3 := hid (HSt.out w2 HP2.out)
          have HB3 := hid (set8_below (g := g) (o := k * 8) (x := ⟨x0, -xd, xfb, mf, xtb, mt, xc, -xr⟩) HB2.out hg0)
          obtain ⟨f0, u0, h0⟩ := HP2.out.fr (k * 8) (by omega)
          obtain ⟨f1, u1, h1⟩ := HP2.out.fr (k * 8 + 1) (by omega)
          obtain ⟨f2, u2, h2⟩ := HP2.out.fr (k * 8 + 2) (by omega)
          obtain ⟨f3, u3, h3⟩ := HP2.out.fr (k * 8 + 3) (by omega)
          obtain ⟨f4, u4', h4⟩ := HP2.out.fr (k * 8 + 4) (by omega)
          obtain ⟨f5, u5', h5⟩ := HP2.out.fr (k * 8 + 5) (by omega)
          obtain ⟨f6, u6', h6⟩ := HP2.out.fr (k * 8 + 6) (by omega)
          obtain ⟨f7, u7', h7⟩ := HP2.out.fr (k * 8 + 7) (by omega)
          go_wp2
          clear f0 f1 f2 f3 f4 f5 f6 f7 h0 h1 h2 h3 h4 h5 h6 h7
          go_roundw
          case rel => exact ⟨k + 1, by omega, by go_num, HP3.out, HB3.out⟩
          case measure => simp [intOf]; omega
        · obtain rfl : k = n := by omega
          have hl : (mirL wd xs).length = k := by rw [mirL_len, HN.out]
          have HD := hid (hpr.done (lo := w.heap.size) (by omega) hl.symm hp k)
          have HBf := hid (hbox.trans (HBel.out.mono (by omega)))
          clear hpr hl
          go_wp2
          go_ret2
          exact ⟨_, rfl, HD.out, HBf.out⟩
end Go.Proofs.Ytaconeliiicloaa.os
