/-
  IsCable of both sides.
-/
import Derived.Test.YtiacfejileeieaaDoorIc0
namespace Go.Proofs.YtiacfejileeieaaDoor.ic
open Go.RowKit Go.Proofs.YtiacfejileeieaaDoor.sl Go.Proofs.YtiacfejileeieaaDoor.pm Go.Proofs.YtiacfejileeieaaDoor.br Go.Proofs.YtiacfejileeieaaDoor.bw Go.Proofs.YtiacfejileeieaaDoor.st
set_option linter.unusedVariables false
set_option maxRecDepth 100000

/-- A row that lists three variables. -/
theorem _root_.Go.Proofs.YtiacfejileeieaaDoor.trodVars_3 {H : Type} {enc : TypeId × Value → H} {P : Program} {w : World} {spare : Nat → Bool} {n0 n1 n2 : String} {gs : List (DataW H)} {ps : List MemPlace} (h : DataW.TrodVars enc P w spare [n0, n1, n2] gs ps) : ∃ a b c, gs = [a, b, c] := by
  match gs, h with
  | [a, b, c], _ => exact ⟨a, b, c, rfl⟩
  | [], h => simp [DataW.TrodVars] at h
  | [a], h => simp [DataW.TrodVars] at h
  | [a, b], h => simp [DataW.TrodVars] at h
  | a :: b :: c :: d :: r, h => simp [DataW.TrodVars] at h
theorem gCh : Tryd.prog.globalNamed "loop.example/g00856/impl.errNotChart" = some 0 := by kernel_rfl
theorem gCa : Tryd.prog.globalNamed "loop.example/g00856/impl.errNotCable" = some 1 := by kernel_rfl
theorem gChT : (Tryd.prog.globals[0]?).map (·.type) = some 64 := by kernel_rfl
theorem gCaT : (Tryd.prog.globals[1]?).map (·.type) = some 64 := by kernel_rfl
theorem star : "*" ++ "errors.errorString" = "*errors.errorString" := by decide
theorem rowE (u : TypeId) (h : Tryd.prog.typeName? 3 u = some "*errors.errorString") : u = 135 :=
  typeName_ptr_named (nm := "errors.errorString") (by rw [star]; kernel_rfl) (by kernel_rfl) (by decide) u (by rw [star]; exact h)
theorem cellsE : Tryd.prog.cellsOf 152 = 1 := by kernel_rfl
theorem cellsS : Tryd.prog.cellsOf 9 = 1 := by kernel_rfl
def HasErr (w : World) (n : String) : Prop := ∃ tp p, w.var? Tryd.prog n = some #[.iface tp p]
theorem carryV {w w' : World} {n : String} {g : Nat} (hg : Tryd.prog.globalNamed n = some g) (h : HasErr w n) (hb : Below w.heap.size w w') : HasErr w' n := by
  obtain ⟨tp, p, hv⟩ := h
  exact ⟨tp, p, var?_below hb hg (block_lt_of_cell (a := ⟨g, 0, none⟩) (v := .iface tp p) (by rw [World.var?_cell hg hv 0]; rfl)) hv⟩
/-- What the card ties: the table of stitches, and two errors that are there. -/
structure Tc (w : World) : Prop where
  s : stb.Tab w
  e0 : HasErr w "loop.example/g00856/impl.errNotChart"
  e1 : HasErr w "loop.example/g00856/impl.errNotCable"
theorem carry {w w' : World} (h : Tc w) (hb : Below w.heap.size w w') : Tc w' := ⟨stb.carry h.s hb, carryV gCh h.e0 hb, carryV gCa h.e1 hb⟩
theorem tab {w : World}
    (hp : ((("loop.example/g00856/impl.stitches", Rows.laid_loop_example_g00856_impl_stitches) :: ("loop.example/g00856/impl.errNotChart", Rows.laid_loop_example_g00856_impl_errNotChart) :: ("loop.example/g00856/impl.errNotCable", Rows.laid_loop_example_g00856_impl_errNotCable) :: ([] : List (String × DataW Unit))).all fun x => x.2.handleName?.isNone) = true)
    (h : laidMetH Tryd.prog (("loop.example/g00856/impl.stitches", Rows.laid_loop_example_g00856_impl_stitches) :: ("loop.example/g00856/impl.errNotChart", Rows.laid_loop_example_g00856_impl_errNotChart) :: ("loop.example/g00856/impl.errNotCable", Rows.laid_loop_example_g00856_impl_errNotCable) :: ([] : List (String × DataW Unit))) w) : Tc w := by
  have h0 := stb.tab hp h
  rw [MakeChecks.laidMetH_plain _ _ _ hp] at h
  have h1 := h.tail
  obtain ⟨a1, s1, hv1, _⟩ := laid_sentinel h1 gCh gChT Tryd.underlying64 rowE Tryd.underlying135 Tryd.underlying152 rfl rfl Tryd.underlying9 cellsE cellsS
  obtain ⟨a2, s2, hv2, _⟩ := laid_sentinel h1.tail gCa gCaT Tryd.underlying64 rowE Tryd.underlying135 Tryd.underlying152 rfl rfl Tryd.underlying9 cellsE cellsS
  exact ⟨h0, ⟨_, _, hv1⟩, ⟨_, _, hv2⟩⟩

theorem own_made (W : World) (xs : List Int) (cs : Array Value) (h : cs.toList = xs.map (Value.int .i64)) (hn : xs.length ≤ 1048576) : Own (W.alloc (.cells cs 2)) W.heap.size (W.alloc (.cells cs 2)).heap.size (.slice (some ⟨W.heap.size, 0, none⟩) xs.length xs.length) xs := by
  have hs : cs.size = xs.length := by rw [← Array.length_toList, h, List.length_map]
  refine Own.mk' ⟨by simp, .inr ⟨W.heap.size, xs.length, cs, rfl, Nat.le_refl _, heap_alloc_new W _, Nat.le_refl _, by unfold maxLen; omega, by rw [hs]; omega, ?_⟩⟩
  rw [Nat.mul_one, List.take_of_length_le (by rw [h, List.length_map]; exact Nat.le_refl _), h]
def icB (c : Int) (xs : List ro.V) : Bool := cx.chB c xs && cabB xs

theorem implCE (c : Int) (xs : List ro.V) (f : Value) (B : Nat) (w : World) (ha : ro.Infs w B f xs) (hB : B ≤ w.heap.size) (hq : ro.Small xs) (hT : Tc w) :
    Calls Tryd.prog 35 #[.agg #[.int .i64 c, f]] w fun e w' => ∃ u, e = .returned u ∧ ((icB c xs = true ∧ u = .nilIface) ∨ (icB c xs = false ∧ ∃ tp p, u = .iface tp p)) ∧ Below w.heap.size w w' := by
  have hb0 := (Below.refl w.heap.size w).alloc (Nat.le_refl _) (.cells #[.int .i64 c, f] 42)
  have HB0 := hid hb0
  have HV := hid (kn.implVC c xs f B (w.alloc (.cells #[.int .i64 c, f] 42)) (ha.al _) (by simp; omega) hq (stb.carry hT.s hb0))
  have HAl := hid (fun W (h : ro.Infs W B f xs) (hb : B ≤ W.heap.size) => implAllR xs f B W h hb hq)
  have HT := hid hT
  have HA := hid (ha.al (.cells #[.int .i64 c, f] 42))
  have k1 : (w.alloc (.cells #[.int .i64 c, f] 42)).cell? ⟨w.heap.size, 1, none⟩ = some f := World.cell?_alloc_at _ _ _ _ rfl
  obtain ⟨ao, cap, hv⟩ := ro.infs_val ha
  clear ha hT hb0 hq
  obtain ⟨n, hn⟩ : ∃ n, n = xs.length := ⟨_, rfl⟩
  rw [← hn] at hv
  clear hn
  subst hv
  cases h1 : cx.chB c xs
  · have HF : Hid (icB c xs = false) := hid (by simp [icB, h1])
    rw [h1] at HV
    clear h1
    go_enter Tryd.func35, Tryd.ntmps35
    go_wp2_with fail
    refine HV.out.mono ?_
    rintro e w1 ⟨rfl, b1⟩
    have B1 := hid (HB0.out.trans (b1.mono HB0.out.size))
    obtain ⟨tp, pp, hvv⟩ := (carry HT.out B1.out).e0
    have hc0 : w1.cell? ⟨0, 0, none⟩ = some (.iface tp pp) := by rw [World.var?_cell gCh hvv 0]; rfl
    clear b1 hvv
    go_wp2
    go_ret
    exact ⟨_, rfl, .inr ⟨HF.out, _, _, rfl⟩, B1.out⟩
  · rw [h1] at HV
    obtain ⟨q, hqq⟩ : ∃ q, q = cabB xs := ⟨_, rfl⟩
    rw [← hqq] at HAl
    have HF : Hid (icB c xs = q) := hid (by simp [icB, h1, hqq])
    clear h1 hqq
    go_enter Tryd.func35, Tryd.ntmps35
    go_wp2_with fail
    refine HV.out.mono ?_
    rintro e w1 ⟨rfl, b1⟩
    have B1 := hid (HB0.out.trans (b1.mono HB0.out.size))
    have k2 := (b1.cell (p := ⟨w.heap.size, 1, none⟩) (by simp)).trans k1
    have HA1 := hid (HA.out.below b1)
    have hs1 := B1.out.size
    clear b1
    go_wp2_with fail
    refine (HAl.out _ HA1.out (by omega)).mono ?_
    rintro e w2 ⟨rfl, b2⟩
    have B2 := hid (B1.out.trans (b2.mono hs1))
    obtain ⟨tp, pp, hvv⟩ := (carry HT.out B2.out).e1
    have hc0 : w2.cell? ⟨1, 0, none⟩ = some (.iface tp pp) := by rw [World.var?_cell gCa hvv 0]; rfl
    clear b2 hvv
    cases q
    · go_wp2
      go_ret
      exact ⟨_, rfl, .inr ⟨HF.out, _, _, rfl⟩, B2.out⟩
    · go_wp2
      go_ret
      exact ⟨_, rfl, .inl ⟨HF.out, rfl⟩, B2.out⟩

theorem implIC (c : Int) (xs : List ro.V) (f : Value) (B : Nat) (w : World) (ha : ro.Infs w B f xs) (hB : B ≤ w.heap.size) (hq : ro.Small xs) (hT : Tc w) :
    Calls Tryd.prog 18 #[.agg #[.int .i64 c, f]] w fun e w' => e = .returned (.bool (icB c xs)) ∧ Below w.heap.size w w' := by
  have hb0 := (Below.refl w.heap.size w).alloc (Nat.le_refl _) (.cells #[.int .i64 c, f] 42)
  have HB0 := hid hb0
  have HV := hid (implCE c xs f B (w.alloc (.cells #[.int .i64 c, f] 42)) (ha.al _) (by simp; omega) hq (carry hT hb0))
  obtain ⟨ao, cap, hv⟩ := ro.infs_val ha
  clear ha hT hb0 hq
  generalize xs.length = n at *
  subst hv
  go_enter Tryd.func18, Tryd.ntmps18
  go_wp2_with fail
  refine HV.out.mono ?_
  rintro e w1 ⟨u, rfl, hu, b1⟩
  have B1 := hid (HB0.out.trans (b1.mono HB0.out.size))
  clear b1
  rcases hu with ⟨h1, rfl⟩ | ⟨h1, tp, p, rfl⟩
  · have HF := hid h1
    clear h1
    go_wp2
    go_ret
    exact ⟨by rw [HF.out]; first | done | rfl, B1.out⟩
  · have HF := hid h1
    clear h1
    go_wp2
    go_ret
    exact ⟨by rw [HF.out]; first | done | rfl, B1.out⟩

def kk : List Int := [1, 2, 8, 9, 10, 11]
theorem has_kk (x : Int) : fn.hasB kk x = kB x := by
  unfold fn.hasB kk kB
  rw [Bool.eq_iff_iff]
  simp

set_option maxHeartbeats 4000000 in
theorem specCab (c : Int) (xs : List ro.V) (f : Value) (B p : Nat) (w : World) (hp : p < w.heap.size) (h1 : w.cell? ⟨p, 1, none⟩ = some f) (ha : ro.Infs w B f xs) (hB : B ≤ w.heap.size) (hq : ro.Small xs) :
    Calls Tryd.prog 33 #[.pointer (some ⟨p, 0, none⟩)] w fun e w' => e = .returned (.bool (cabB xs)) ∧ Below w.heap.size w w' := by
  have hb0 := (Below.refl w.heap.size w).alloc (Nat.le_refl _) (.cells #[.int .i64 1, .int .i64 2, .int .i64 8, .int .i64 9, .int .i64 10, .int .i64 11] 2)
  have HB0 := hid hb0
  have hkk := own_made w kk #[.int .i64 1, .int .i64 2, .int .i64 8, .int .i64 9, .int .i64 10, .int .i64 11] (by simp [kk]) (by simp [kk])
  have HH := hid (fun (x : Int) => fn.specHas kk x _ _ _ hkk.ints (by simp [kk]))
  have k1 := (hb0.cell (p := ⟨p, 1, none⟩) hp).trans h1
  have HA1 := ha.al (.cells #[.int .i64 1, .int .i64 2, .int .i64 8, .int .i64 9, .int .i64 10, .int .i64 11] 2)
  have hlen := hq.len
  have HSh := hid hq.short
  have hall := hid (fun k (h : k < xs.length) (hb : rowC (xs.getD k ro.iz) = false) => show cabB xs = false from by
    rw [cabB, List.all_eq_false]
    exact ⟨_, mem_row xs k h, by rw [hb]; simp⟩)
  have hgood := hid (fun (h : ∀ k, k < xs.length → rowC (xs.getD k ro.iz) = true) => show cabB xs = true from by
    rw [cabB, List.all_eq_true]
    intro x hx
    obtain ⟨j, hj, rfl⟩ := List.getElem_of_mem hx
    have := h j hj
    rwa [show xs.getD j ro.iz = xs[j] from by simp [List.getD, List.getElem?_eq_getElem hj]] at this)
  clear ha hb0 hkk h1 hq
  rcases HA1 with ⟨rfl, ao, cap, rfl⟩ | ⟨hp0, b, off, cap, F, rfl, hbb, hc⟩
  · have HG := hid (hgood.out (fun k h => by simp at h))
    go_enter Tryd.func33, Tryd.ntmps33
    go_wp2
    refine wp_loop_rounds 1 ?_
    rw [rounds_succ]
    go_wp2
    go_ret
    exact ⟨by rw [HG.out]; first | done | rfl, HB0.out⟩
  · obtain ⟨n, hnn⟩ : ∃ n, n = xs.length := ⟨_, rfl⟩
    rw [← hnn] at hp0 hc hlen HSh hall hgood k1
    have HC := hid hc
    clear hnn hc
    go_enter Tryd.func33, Tryd.ntmps33
    go_wp2
    go_loop [4] (fun i => ∃ k : Nat, k ≤ n ∧ i = .int .i64 k ∧ Hid (∀ j, j < k → rowC (xs.getD j ro.iz) = true)) (fun i => n - (intOf i).toNat)
    case atStart => exact ⟨0, Nat.zero_le _, rfl, hid fun j hj => by omega⟩
    case round =>
      obtain ⟨k, hk, rfl, HG⟩ := hrel
      by_cases hlt : k < n
      · obtain ⟨hat, hin⟩ := HC.out k hlt
        have c2 := hat.c2
        have hsh := HSh.out k hlt
        have HBad := hid (fun h => hall.out k hlt h)
        have HNext := hid (fun (h : rowC (xs.getD k ro.iz) = true) => show ∀ j, j < k + 1 → rowC (xs.getD j ro.iz) = true from fun j hj => by
          rcases Nat.lt_or_ge j k with h' | h'
          · exact HG.out j h'
          · obtain rfl : j = k := by omega
            exact h)
        clear hat
        have hlen2 := hlen
        obtain ⟨ps, hps⟩ : ∃ ps, ps = (xs.getD k ro.iz).ps := ⟨_, rfl⟩
        have hrc : rowC (xs.getD k ro.iz) = ps.all kB := by rw [rowC, hps]
        rw [hrc] at HBad HNext
        rw [← hps] at hin hsh
        clear hps hrc
        generalize F k = fk at *
        rcases hin with ⟨rfl, ao, c', rfl⟩ | ⟨hpp, b', off', c', rfl, hbb', hc'⟩
        · have HN1 := hid (HNext.out rfl)
          go_wp2
          refine wp_loop_rounds 1 ?_
          rw [rounds_succ]
          go_wp2
          go_round
          case rel => exact ⟨k + 1, by omega, by go_num, HN1⟩
          case measure => simp [intOf]; omega
        · obtain ⟨m, hmm⟩ : ∃ m, m = ps.length := ⟨_, rfl⟩
          rw [← hmm] at hpp hc' hsh c2
          have HM := hid hmm
          have HC' := hid hc'
          clear hmm hc'
          go_wp2
          go_loop [5] (fun i => ∃ q : Nat, q ≤ m ∧ i = .int .i64 q ∧ Hid (∀ j, j < q → kB (ps.getD j 0) = true)) (fun i => m - (intOf i).toNat)
          case atStart => exact ⟨0, Nat.zero_le _, rfl, hid fun j hj => by omega⟩
          case round =>
            obtain ⟨q, hq, rfl, HQ⟩ := hrel
            by_cases hlq : q < m
            · have h2 := HC'.out q hlq
              have HHx := hid (HH.out (ps.getD q 0))
              rw [has_kk] at HHx
              cases hkb : kB (ps.getD q 0)
              · have HF := hid (HBad.out (st.all_bad q (by rw [← HM.out]; exact hlq) hkb))
                rw [hkb] at HHx
                clear hkb
                generalize ps.getD q 0 = x at *
                go_wp2_with fail
                refine HHx.out.mono ?_
                rintro e w1 ⟨rfl, rfl⟩
                go_wp2
                go_ret
                exact ⟨by rw [HF.out]; first | done | rfl, HB0.out⟩
              · have HQ2 : Hid (∀ j, j < q + 1 → kB (ps.getD j 0) = true) := hid (fun j hj => by
                  rcases Nat.lt_or_ge j q with h' | h'
                  · exact HQ.out j h'
                  · obtain rfl : j = q := by omega
                    exact hkb)
                rw [hkb] at HHx
                clear hkb
                generalize ps.getD q 0 = x at *
                go_wp2_with fail
                refine HHx.out.mono ?_
                rintro e w1 ⟨rfl, rfl⟩
                go_wp2
                go_round
                case rel => exact ⟨q + 1, by omega, by go_num, HQ2⟩
                case measure => simp [intOf]; omega
            · obtain rfl : q = m := by omega
              have HN1 := hid (HNext.out (st.all_good (fun j hj => HQ.out j (by rw [HM.out]; exact hj))))
              go_wp2
              go_round
              case rel => exact ⟨k + 1, by omega, by go_num, HN1⟩
              case measure => simp [intOf]; omega
      · obtain rfl : k = n := by omega
        have HF := hid (hgood.out HG.out)
        go_wp2
        go_ret
        exact ⟨by rw [HF.out]; first | done | rfl, HB0.out⟩

theorem specIC (c : Int) (xs : List ro.V) (f : Value) (B : Nat) (w : World) (ha : ro.Infs w B f xs) (hB : B ≤ w.heap.size) (hq : ro.Small xs) :
    Calls Tryd.prog 16 #[.agg #[.int .i64 c, f]] w fun e w' => e = .returned (.bool (icB c xs)) ∧ Below w.heap.size w w' := by
  have hb0 := (Below.refl w.heap.size w).alloc (Nat.le_refl _) (.cells #[.int .i64 c, f] 42)
  have HB0 := hid hb0
  have k0 : (w.alloc (.cells #[.int .i64 c, f] 42)).cell? ⟨w.heap.size, 0, none⟩ = some (.int .i64 c) := World.cell?_alloc_at _ _ _ _ rfl
  have k1 : (w.alloc (.cells #[.int .i64 c, f] 42)).cell? ⟨w.heap.size, 1, none⟩ = some f := World.cell?_alloc_at _ _ _ _ rfl
  have HV := hid (kn.specOk15 c xs f B w.heap.size (w.alloc (.cells #[.int .i64 c, f] 42)) (by simp) k0 k1 (ha.al _) (by simp; omega) hq)
  have HCb := hid (fun W (hp : w.heap.size < W.heap.size) (h1 : W.cell? ⟨w.heap.size, 1, none⟩ = some f) (h : ro.Infs W B f xs) (hb : B ≤ W.heap.size) => specCab c xs f B w.heap.size W hp h1 h hb hq)
  have HA := hid (ha.al (.cells #[.int .i64 c, f] 42))
  obtain ⟨ao, cap, hv⟩ := ro.infs_val ha
  clear ha hb0 hq k0
  obtain ⟨n, hn⟩ : ∃ n, n = xs.length := ⟨_, rfl⟩
  rw [← hn] at hv
  clear hn
  subst hv
  cases h1 : cx.chB c xs
  · have HF : Hid (icB c xs = false) := hid (by simp [icB, h1])
    rw [h1] at HV
    clear h1
    go_enter Tryd.func16, Tryd.ntmps16
    go_wp2_with fail
    refine HV.out.mono ?_
    rintro e w1 ⟨rfl, b1⟩
    have B1 := hid (HB0.out.trans (b1.mono HB0.out.size))
    clear b1
    go_wp2
    go_ret
    exact ⟨by rw [HF.out]; first | done | rfl, B1.out⟩
  · rw [h1] at HV
    have HF : Hid (icB c xs = cabB xs) := hid (by simp [icB, h1])
    clear h1
    generalize cabB xs = q at *
    go_enter Tryd.func16, Tryd.ntmps16
    go_wp2_with fail
    refine HV.out.mono ?_
    rintro e w1 ⟨rfl, b1⟩
    have B1 := hid (HB0.out.trans (b1.mono HB0.out.size))
    have k2 := (b1.cell (p := ⟨w.heap.size, 1, none⟩) (by simp)).trans k1
    have HA1 := hid (HA.out.below b1)
    have hs1 := B1.out.size
    have hlt1 : w.heap.size < w1.heap.size := by have := b1.size; simp at this; omega
    clear b1
    go_wp2_with fail
    refine (HCb.out _ hlt1 k2 HA1.out (by omega)).mono ?_
    rintro e w2 ⟨rfl, b2⟩
    have B2 := hid (B1.out.trans (b2.mono hs1))
    clear b2
    go_wp2
    go_ret
    exact ⟨by rw [HF.out]; first | done | rfl, B2.out⟩
end Go.Proofs.YtiacfejileeieaaDoor.ic
