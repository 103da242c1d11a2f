/-
  Sums over pieces: l16Sum of the model, at stitches' columns.
-/
import Derived.Test.YtiacfejileeieabDoorNd0
import Derived.Lib.QuietBelow
namespace Go.Proofs.YtiacfejileeieabDoor.pc
open Go.RowKit Go.Sort Go.Proofs.YtiacfejileeieabDoor.sl Go.Proofs.YtiacfejileeieabDoor.st
set_option linter.unusedVariables false
set_option linter.unusedSimpArgs false
set_option maxRecDepth 100000

set_option maxHeartbeats 8000000 in
theorem specSumC : ∀ (N : Nat) (xs : List V) (v : Value) (B g : Nat) (w : World), xs.length = N → OpsC w B v xs → B ≤ w.heap.size → xs.length ≤ 24 → arP g xs = true →
    Calls Tryd.prog 25 #[v, .bool false] w fun e w' => e = .returned (.int .i64 (sumP tk xs)) ∧ Below w.heap.size w w' := by
  intro N
  induction N using Nat.strongRecOn with
  | _ N ih =>
  intro xs v B g w hN ha hB hlen har
  have HIH := hid ih
  clear ih
  rcases ha with ⟨rfl, ao, cap, rfl, hao⟩ | ⟨hp, b, off, cap, rfl, hcap, hcm, hb, hc⟩
  · have HS : Hid (sumP tk [] = 0) := hid (sumP_nil tk)
    clear har
    go_enter Tryd.func25, Tryd.ntmps25
    go_wp2
    refine wp_loop_rounds 1 ?_
    rw [rounds_succ]
    go_wp2
    go_ret
    exact ⟨by rw [HS.out]; first | done | rfl, Below.refl _ _⟩
  · have hsb := sum_b har
    have HAt := hid (fun k (h : arP g (xs.drop k) = true) (hk : k < xs.length) => arP_at h hk)
    have HSt := hid (fun k (hk : k < xs.length) => sumP_at tk hk)
    have HIn := hid (fun W (bw : Below w.heap.size w W) k (hk : k < xs.length) => insV_ops (w := W) (B := B) (xs := xs) (b := b) (off := off) (cap := cap) hb hcap hcm (fun j hj => (hc j hj).below bw) k hk)
    have HIl := hid (fun k (hk : k < xs.length) => inside_lt xs k hk)
    have HNl := hid (fun k (hk : k < xs.length) => nx_le xs k hk)
    have HNe : Hid (sumP tk (xs.drop xs.length) = 0) := hid (by rw [List.drop_length, sumP_nil])
    have HSb := hid (fun k (h : arP g (xs.drop k) = true) => sum_b h)
    have h00 : sumP tk (xs.drop 0) = sumP tk xs := by rw [List.drop_zero]
    have har0 : arP g (xs.drop 0) = true := by rw [List.drop_zero]; exact har
    obtain ⟨T, hT⟩ : ∃ T, T = sumP tk xs := ⟨_, rfl⟩
    rw [← hT] at hsb h00 ⊢
    have H00 := hid h00
    have HA0 := hid har0
    obtain ⟨n, hnn⟩ : ∃ n, n = xs.length := ⟨_, rfl⟩
    rw [← hnn] at hp hlen hsb HAt HSt HIn HIl HNl HNe hcap ⊢
    have HN := hid hnn
    have HC := hid (fun j (h : j < n) => hc j (by rw [← hnn]; exact h))
    have HNN := hid hN
    clear hnn hc hT h00 har0 har hN
    go_enter Tryd.func25, Tryd.ntmps25
    go_wp2
    go_loopw [5, 6] (fun t i wr => ∃ (k : Nat) (s : Int), k ≤ n ∧ i = .int .i64 k ∧ t = .int .i64 s ∧ Hid (s = T - sumP tk (xs.drop k)) ∧ 0 ≤ s ∧ s ≤ 262144 * (n : Int) ∧ Hid (arP g (xs.drop k) = true) ∧ Below w.heap.size w wr) (fun _ i _ => n - (intOf i).toNat)
    case atStart => exact ⟨0, 0, Nat.zero_le _, rfl, rfl, hid (by rw [H00.out]; omega), by omega, by omega, HA0, Below.refl _ _⟩
    case round =>
      obtain ⟨k, s, hk, rfl, rfl, hs, hs0, hs1, hark, hbel⟩ := hrel
      have HB := hid hbel
      have hsz := hbel.size
      clear hbel
      by_cases hlt : k < n
      · obtain ⟨hv, ha2, hain, hanx⟩ := HAt.out k hark.out hlt
        have hvp := vld_parts hv
        have hsk := HSt.out k hlt
        have hsn := HSb.out (nx xs k) hanx
        have hsI := sum_b hain
        have hil := HIl.out k hlt
        have hnl := HNl.out k hlt
        have hnx := nx_in xs k
        have HOp := hid (fun W (bw : Below w.heap.size w W) => HIn.out W bw k hlt)
        have HAnx := hid hanx
        have HRec := hid (fun X (o : OpsC X B (insV xs b off cap k) (inside xs k)) (hb : B ≤ X.heap.size) => HIH.out (inside xs k).length (by rw [← HNN.out, ← HN.out]; exact hil) (inside xs k) (insV xs b off cap k) B (g + 1) X rfl o hb (by omega) hain)
        have hvi : insV xs b off cap k = .slice (some ⟨b, if cap = k + 1 then off else off + (k + 1) * 3, none⟩) (inside xs k).length (cap - (k + 1)) := by rw [insV, inside_len]
        rw [hvi] at HOp HRec
        have HA := (HC.out k hlt).below HB.out
        have c0 := HA.c0
        have c1 := HA.c1
        have c2 := HA.c2
        have HS := hs
        have HSk := hid hsk
        have hrl : (inside xs k).length ≤ 24 := by omega
        obtain ⟨z, hz⟩ : ∃ z, z = xs.getD k oz := ⟨_, rfl⟩
        rw [← hz] at hvp ha2 c0 c1 c2 HSk
        clear hz hv hsk hain hanx hark HA hvi
        obtain ⟨y, hy⟩ : ∃ y, y = sumP tk (inside xs k) := ⟨_, rfl⟩
        rw [← hy] at hsI HRec HSk
        clear hy
        obtain ⟨u, hu⟩ : ∃ u, u = sumP tk (xs.drop (nx xs k)) := ⟨_, rfl⟩
        rw [← hu] at hsn HSk
        have HU := hid hu
        obtain ⟨r, hr⟩ : ∃ r, r = sumP tk (xs.drop k) := ⟨_, rfl⟩
        rw [← hr] at HS HSk
        clear hr hu
        generalize inside xs k = ys at *
        obtain ⟨z0, z1, z2⟩ := z
        simp only at hvp ha2 c0 c1 c2 HSk
        have hbE := (Below.refl wr.heap.size wr).alloc (Nat.le_refl _) (.cells #[.int .i64 z0, .int .i64 z1, .int .i64 z2] 51)
        have HBE := hid (HB.out.trans (hbE.mono hsz))
        cases hg : grp ⟨z0, z1, z2⟩
        · obtain ⟨hkn, hz2⟩ := hvp.2.2.2.1 hg
          have hkb := tk_bound hkn
          have hk12 := knd_iff.1 hkn
          have hys : ys.length = 0 := by omega
          have HTa := hid (fun W => specTaken z0 W)
          have HK2 := HSk.out
          rw [hg] at HK2
          simp only [Bool.false_eq_true, if_false] at HK2
          have hm0 := Int.mul_nonneg hvp.2.1 hkb.1
          have hm1 := Int.mul_le_mul hvp.2.2.1 hkb.2 hkb.1 (by omega : (0:Int) ≤ 16)
          obtain ⟨tz, htz⟩ : ∃ t, t = tk z0 := ⟨_, rfl⟩
          rw [← htz] at HTa HK2 hm0 hm1 hkb
          obtain ⟨pr, hpr⟩ : ∃ p, p = z1 * tz := ⟨_, rfl⟩
          rw [← hpr] at HK2 hm0 hm1
          have hw1 : IntKind.i64.wrap (z1 * tz) = pr := by rw [← hpr]; exact IntWalk.i64_in _ (by omega)
          have hsT := HS.out
          have hw2 : IntKind.i64.wrap (s + pr) = s + pr := IntWalk.i64_in _ (by omega)
          have e12 : (z0 == 12) = false := by simp; omega
          have HNs : Hid (s + pr = T - u) := hid (by omega)
          have hnx1 : nx xs k = k + 1 := by omega
          have hb1 : s + pr ≤ 262144 * (n : Int) := by omega
          have hb0 : 0 ≤ s + pr := by omega
          have HX1 := hid hnx1
          have mixed : Tryd.prog.follows .mixedOrders = true := by kernel_rfl
          have q0 := fun d os => cell_regrown (w := wr.alloc (.cells #[.int .i64 z0, .int .i64 z1, .int .i64 z2] 51)) (a := ⟨wr.heap.size, 0, none⟩) (v := .int .i64 z0) (by go_simp) d os
          have q1 := fun d os => cell_regrown (w := wr.alloc (.cells #[.int .i64 z0, .int .i64 z1, .int .i64 z2] 51)) (a := ⟨wr.heap.size, 1, none⟩) (v := .int .i64 z1) (by go_simp) d os
          have HGr := hid (fun d os => HBE.out.trans ((below_regrown (wr.alloc (.cells #[.int .i64 z0, .int .i64 z1, .int .i64 z2] 51)) d os).mono HBE.out.size))
          clear hys hz2 hkn hk12 hpr htz hsT HK2 hm0 hm1 HRec HOp hbE hg hvp hsI hil hnl hnx hrl ha2 hnx1 HIH HIn HAt HSt HIl HSk
          go_wp2_with fail
          refine wp_region_quiet_below mixed (by kernel_rfl) ?_
          repeat (go_big_quiet_step (first | (go_at_call 50; exact Calls.regrown_of (HTa.out _))))
          refine wpQuiet_nil ?_
          intro _ hw'
          obtain ⟨⟨nq, osq⟩, hw''⟩ := hw'
          subst hw''
          have HB2 := hid (HGr.out nq osq)
          clear q0 q1 HTa HGr
          generalize grow (redrawn (wr.alloc (.cells #[.int .i64 z0, .int .i64 z1, .int .i64 z2] 51)) nq) osq = W2 at *
          go_wp2
          go_roundw
          case rel => exact ⟨k + 1, _, by omega, by go_num, rfl, hid (by rw [HNs.out, ← HX1.out, HU.out]), hb0, hb1, hid (by rw [← HX1.out]; exact HAnx.out), HB2.out⟩
          case measure => simp [intOf]; omega
        · have hz12 := hvp.2.2.2.2 hg
          have HK2 := HSk.out
          rw [hg] at HK2
          simp only [if_true] at HK2
          have hm0 := Int.mul_nonneg hvp.2.1 hsI.1
          have hm1 := Int.mul_le_mul hvp.2.2.1 hsI.2 hsI.1 (by omega : (0:Int) ≤ 16)
          obtain ⟨m, hm⟩ : ∃ m, m = ys.length := ⟨_, rfl⟩
          rw [← hm] at ha2 HOp HRec hnx hrl hil hm1
          obtain ⟨pr, hpr⟩ : ∃ p, p = z1 * y := ⟨_, rfl⟩
          rw [← hpr] at HK2 hm0 hm1
          have hw1 : IntKind.i64.wrap (z1 * y) = pr := by rw [← hpr]; exact IntWalk.i64_in _ (by omega)
          have hsT := HS.out
          have hw2 : IntKind.i64.wrap (s + pr) = s + pr := IntWalk.i64_in _ (by omega)
          have HNs : Hid (s + pr = T - u) := hid (by omega)
          have hb1 : s + pr ≤ 262144 * (n : Int) := by omega
          have hb0 : 0 ≤ s + pr := by omega
          have hnm : k + 1 + m ≤ n := by omega
          have i1 : IntKind.i64.wrap ((k : Int) + 1) = (k : Int) + 1 := IntWalk.i64_in _ (by omega)
          have i2 : IntKind.i64.wrap ((k : Int) + 1 + (m : Int)) = (k : Int) + 1 + (m : Int) := IntWalk.i64_in _ (by omega)
          have HX1 := hid hnx
          subst hz12 ha2
          have hVV : (Value.slice (some ⟨b, if cap = k + 1 then off else off + (k + 1) * 3, none⟩) m (cap - (k + 1))) = .slice (if cap = k + 1 then some ⟨b, off, none⟩ else some ⟨b, off + (k + 1) * 3, none⟩) m (cap - (k + 1)) := by
            by_cases h : cap = k + 1
            · rw [if_pos h, if_pos h]
            · rw [if_neg h, if_neg h]
          rw [hVV] at HOp HRec
          clear hVV
          have mixed : Tryd.prog.follows .mixedOrders = true := by kernel_rfl
          have q0 := fun d os => cell_regrown (w := wr.alloc (.cells #[.int .i64 12, .int .i64 z1, .int .i64 (m : Int)] 51)) (a := ⟨wr.heap.size, 0, none⟩) (v := .int .i64 12) (by go_simp) d os
          have q1 := fun d os => cell_regrown (w := wr.alloc (.cells #[.int .i64 12, .int .i64 z1, .int .i64 (m : Int)] 51)) (a := ⟨wr.heap.size, 1, none⟩) (v := .int .i64 z1) (by go_simp) d os
          have q2 := fun d os => cell_regrown (w := wr.alloc (.cells #[.int .i64 12, .int .i64 z1, .int .i64 (m : Int)] 51)) (a := ⟨wr.heap.size, 2, none⟩) (v := .int .i64 (m : Int)) (by go_simp) d os
          have HGr := hid (fun d os => HBE.out.trans ((below_regrown (wr.alloc (.cells #[.int .i64 12, .int .i64 z1, .int .i64 (m : Int)] 51)) d os).mono HBE.out.size))
          clear hpr hsT HK2 hm0 hm1 hbE hg hvp hsI hil hnl hnx hrl HIH HIn HAt HSt HIl HSk hm HS
          clear HNe HNl HC HN HNN H00 HA0 HSb hsb hp hs hk hs0 hs1 hsn r
          have j0 : (0 : Int) ≤ (k : Int) + 1 := by omega
          have j1 : (k : Int) + 1 ≤ (k : Int) + 1 + (m : Int) := by omega
          have j2 : (k : Int) + 1 + (m : Int) ≤ (cap : Int) := by omega
          go_wp2_with fail
          clear c0 c1 c2 hcap hcm hb hlt hsz
          refine wp_region_quiet_below mixed (by kernel_rfl) ?_
          repeat (go_big_quiet_step (first | (go_at_call 25; exact Calls.regrown_of (HRec.out _ (HOp.out _ (HGr.out _ _)) (Nat.le_trans hB (HGr.out _ _).size)))))
          refine wpQuiet_nil ?_
          intro _ hw'
          obtain ⟨⟨nq, osq⟩, hw''⟩ := hw'
          subst hw''
          have HB2 := hid (HGr.out nq osq)
          have d2 := q2 nq osq
          clear q0 q1 q2 HRec HOp HGr
          generalize grow (redrawn (wr.alloc (.cells #[.int .i64 12, .int .i64 z1, .int .i64 (m : Int)] 51)) nq) osq = W2 at *
          go_wp2
          go_roundw
          case rel => exact ⟨k + 1 + m, _, hnm, by go_num, rfl, hid (by rw [HNs.out, ← HX1.out, HU.out]), hb0, hb1, hid (by rw [← HX1.out]; exact HAnx.out), HB2.out⟩
          case measure => simp [intOf]; omega
      · obtain rfl : k = n := by omega
        have hsT : s = T := by have := hs.out; rw [HNe.out] at this; omega
        have HST := hid hsT
        clear hs hsT
        go_wp2
        go_ret
        exact ⟨by rw [HST.out]; first | done | rfl, HB.out⟩
end Go.Proofs.YtiacfejileeieabDoor.pc
