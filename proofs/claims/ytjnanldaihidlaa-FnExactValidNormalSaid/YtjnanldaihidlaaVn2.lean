/-
  ValidNormal: both sides.
-/
import Derived.Test.YtjnanldaihidlaaVn
namespace Go.Proofs.Ytjnanldaihidlaa.vn
open Go.RowKit Go.Proofs.Ytjnanldaihidlaa.sl Go.Proofs.Ytjnanldaihidlaa.pm Go.Proofs.Ytjnanldaihidlaa.fn Go.Proofs.Ytjnanldaihidlaa.br Go.Proofs.Ytjnanldaihidlaa.ss Go.Proofs.Ytjnanldaihidlaa.nb Go.Proofs.Ytjnanldaihidlaa.ai
set_option linter.unusedVariables false

theorem head_eq (s p : Int) (rows : List (List Int)) : headB s p rows = (decide (0 ≤ s ∧ s ≤ 12) && szB p rows.length) := rfl
theorem row_len {s : Int} {r : List Int} (h : ¬ (r.length : Int) = s) : rowB s r = false := by simp [rowB, h]
theorem row_perm {s : Int} {r : List Int} (h : permB r = false) : rowB s r = false := by simp [rowB, h]
theorem row_id {s : Int} {r : List Int} (h : idB r = true) : rowB s r = false := by simp [rowB, h]
theorem row_ht {s : Int} {r : List Int} (h : htB r = true) : rowB s r = false := by simp [rowB, h]
theorem row_ok {s : Int} {r : List Int} (h1 : (r.length : Int) = s) (h2 : permB r = true) (h3 : idB r = false) (h4 : htB r = false) : rowB s r = true := by simp [rowB, h1, h2, h3, h4]
theorem pair_zero (rows : List (List Int)) : pairB rows 0 = true := rfl
theorem pair_pos (rows : List (List Int)) (k : Nat) (h : 0 < k) : pairB rows k = lwB (rows.getD (k - 1) []) (rows.getD k []) := by
  rw [pairB, decide_eq_false (by omega)]; rfl
theorem step_ok {s : Int} {rows : List (List Int)} {k : Nat} (h : rowB s (rows.getD k []) = true) (h2 : pairB rows k = true) : stepB s rows k = true := by rw [stepB, h, h2]; rfl

set_option maxRecDepth 100000 in
set_option maxHeartbeats 4000000 in
theorem implVN (s p : Int) (rows : List (List Int)) (f : Value) (B : Nat) (w : World) (ha : RowsC w B f rows) (hB : B ≤ w.heap.size) (hq : Small rows) :
    Calls Try.prog 59 #[.agg #[.int .i64 s, .int .i64 p, f]] w fun e w' => e = .returned (.bool (nvB s p rows)) ∧ Below w.heap.size w w' := by
  obtain ⟨ao, cap, hv⟩ := rows_val ha.rows
  obtain ⟨n, hnn⟩ : ∃ n, n = rows.length := ⟨_, rfl⟩
  have hn := hq.len
  rw [← hnn] at hv hn
  have HN := hid hnn
  subst hv
  have HR : Hid (RowsC (w.alloc (.cells #[.int .i64 s, .int .i64 p, .slice ao n cap] 72)) B (.slice ao n cap) rows) := hid (ha.chg (br.chg_alloc 0 0 w (.cells #[.int .i64 s, .int .i64 p, .slice ao n cap] 72)) (.inr (Nat.zero_le _)))
  have HSh := hid hq.short
  have HB0 := hid ((Below.refl w.heap.size w).alloc (Nat.le_refl _) (.cells #[.int .i64 s, .int .i64 p, .slice ao n cap] 72))
  have HZ := hid (fun W => hasSize s p ao n cap W)
  have HHd := hid (head_eq s p rows)
  rw [← hnn] at HHd
  clear ha hq hnn
  by_cases hs : 0 ≤ s ∧ s ≤ 12
  · have hsd : decide (0 ≤ s ∧ s ≤ 12) = true := decide_eq_true hs
    have HW := hid (fun W => within64 s 0 12 W)
    rw [hsd] at HW HHd
    have hs1 := hs.1
    have hs2 := hs.2
    clear hsd hs
    cases hz : szB p n
    · rw [hz] at HZ HHd
      have HF := hid (nv_head (s := s) (p := p) (rows := rows) HHd.out)
      clear hz
      go_enter Try.func59, Try.ntmps59
      go_wp2_with (first | (go_at_call 91; refine (HW.out _).mono ?_; rintro e w' ⟨rfl, rfl⟩) | (go_at_call 124; refine (HZ.out _).mono ?_; rintro e w1 ⟨rfl, b1⟩; have HB1 := hid (HB0.out.trans (b1.mono (by simp))); clear b1))
      go_ret
      exact ⟨by rw [HF.out]; rfl, HB1.out⟩
    · rw [hz] at HZ HHd
      have hh : headB s p rows = true := HHd.out
      clear hz HHd
      by_cases h2 : s < 2
      · have HF := hid (nv_small hh h2)
        rw [← HN.out] at HF
        clear hh
        have key : ∀ q : Bool, Hid (nvB s p rows = q) → Hid (q = (decide (p = 0) && decide (n = 0))) := fun q h => hid (h.out.symm.trans HF.out)
        by_cases hp : p = 0
        · subst hp
          by_cases hn0 : n = 0
          · have HF2 : Hid (nvB s 0 rows = true) := hid (by rw [HF.out]; simp [hn0])
            have hd : ((n : Int) == 0) = true := by simp [hn0]
            subst hn0
            clear key
            go_enter Try.func59, Try.ntmps59
            go_wp2_with (first | (go_at_call 91; refine (HW.out _).mono ?_; rintro e w' ⟨rfl, rfl⟩) | (go_at_call 124; refine (HZ.out _).mono ?_; rintro e w1 ⟨rfl, b1⟩; have HB1 := hid (HB0.out.trans (b1.mono (by simp))); obtain ⟨hc, _⟩ := bcell b1; have k0 := (hc w.heap.size 0 (by simp)).trans (World.cell?_alloc_at _ _ _ _ rfl); have k1 := (hc w.heap.size 1 (by simp)).trans (World.cell?_alloc_at _ _ _ _ rfl); have k2 := (hc w.heap.size 2 (by simp)).trans (World.cell?_alloc_at _ _ _ _ rfl); clear b1 hc))
            go_ret
            exact ⟨by rw [HF2.out]; rfl, HB1.out⟩
          · have HF2 : Hid (nvB s 0 rows = false) := hid (by rw [HF.out]; simp [hn0])
            have hd : ((n : Int) == 0) = false := by simp; omega
            clear key
            go_enter Try.func59, Try.ntmps59
            go_wp2_with (first | (go_at_call 91; refine (HW.out _).mono ?_; rintro e w' ⟨rfl, rfl⟩) | (go_at_call 124; refine (HZ.out _).mono ?_; rintro e w1 ⟨rfl, b1⟩; have HB1 := hid (HB0.out.trans (b1.mono (by simp))); obtain ⟨hc, _⟩ := bcell b1; have k0 := (hc w.heap.size 0 (by simp)).trans (World.cell?_alloc_at _ _ _ _ rfl); have k1 := (hc w.heap.size 1 (by simp)).trans (World.cell?_alloc_at _ _ _ _ rfl); have k2 := (hc w.heap.size 2 (by simp)).trans (World.cell?_alloc_at _ _ _ _ rfl); clear b1 hc))
            go_ret
            exact ⟨by rw [HF2.out]; rfl, HB1.out⟩
        · have HF2 : Hid (nvB s p rows = false) := hid (by rw [HF.out]; simp [hp])
          have hd : (p == 0) = false := by simpa using hp
          clear key hp
          go_enter Try.func59, Try.ntmps59
          go_wp2_with (first | (go_at_call 91; refine (HW.out _).mono ?_; rintro e w' ⟨rfl, rfl⟩) | (go_at_call 124; refine (HZ.out _).mono ?_; rintro e w1 ⟨rfl, b1⟩; have HB1 := hid (HB0.out.trans (b1.mono (by simp))); obtain ⟨hc, _⟩ := bcell b1; have k0 := (hc w.heap.size 0 (by simp)).trans (World.cell?_alloc_at _ _ _ _ rfl); have k1 := (hc w.heap.size 1 (by simp)).trans (World.cell?_alloc_at _ _ _ _ rfl); have k2 := (hc w.heap.size 2 (by simp)).trans (World.cell?_alloc_at _ _ _ _ rfl); clear b1 hc))
          go_ret
          exact ⟨by rw [HF2.out]; rfl, HB1.out⟩
      · have HF := hid (nv_big hh h2)
        have h2d : decide (s < 2) = false := decide_eq_false h2
        have HBad := hid (fun k => @all_bad s rows k)
        have HGood := hid (@all_good s rows)
        rw [← HN.out] at HBad HGood
        clear hh h2
        go_enter Try.func59, Try.ntmps59
        go_wp2_with (first | (go_at_call 91; refine (HW.out _).mono ?_; rintro e w' ⟨rfl, rfl⟩) | (go_at_call 124; refine (HZ.out _).mono ?_; rintro e w1 ⟨rfl, b1⟩; have HB1 := hid (HB0.out.trans (b1.mono (by simp))); have HBx := hid b1; obtain ⟨hc, _⟩ := bcell b1; have k0 := (hc w.heap.size 0 (by simp)).trans (World.cell?_alloc_at _ _ _ _ rfl); have k1 := (hc w.heap.size 1 (by simp)).trans (World.cell?_alloc_at _ _ _ _ rfl); have k2 := (hc w.heap.size 2 (by simp)).trans (World.cell?_alloc_at _ _ _ _ rfl); clear b1 hc))
        have hz1 : w.heap.size + 1 ≤ w1.heap.size := by have := HBx.out.size; simp at this; omega
        have HR1 := hid (HR.out.chg (Chg.ofBelow (lo := 0) HBx.out) (.inr (Nat.zero_le _)))
        have HK : Hid (w1.cell? ⟨w.heap.size, 0, none⟩ = some (.int .i64 s) ∧ w1.cell? ⟨w.heap.size, 2, none⟩ = some (.slice ao n cap)) := hid ⟨k0, k2⟩
        clear k0 k1 k2 HBx HR HZ HW
        go_loopw [29] (fun i wr => ∃ k : Nat, k ≤ n ∧ i = .int .i64 k ∧ (∀ j, j < k → stepB s rows j = true) ∧ Below w1.heap.size w1 wr) (fun i _ => n - (intOf i).toNat)
        case atStart => exact ⟨0, Nat.zero_le _, rfl, fun j hj => by omega, Below.refl _ _⟩
        case round =>
          obtain ⟨k, hk, rfl, hg, hbel⟩ := hrel
          have HG := hid hg
          have HBr := hid hbel
          have hzr := hbel.size
          have k0 : wr.cell? ⟨w.heap.size, 0, none⟩ = some (.int .i64 s) := (hbel.cell (p := ⟨w.heap.size, 0, none⟩) (by show w.heap.size < _; omega)).trans HK.out.1
          have HBw := hid (HB1.out.trans (hbel.mono (by omega)))
          have HRr := hid (HR1.out.chg (Chg.ofBelow (lo := 0) hbel) (.inr (Nat.zero_le _)))
          clear hg hbel
          by_cases hlt : k < n
          · have hx : ∃ b off x, ao = some ⟨b, off, none⟩ ∧ b < B ∧ wr.cell? ⟨b, off + k, none⟩ = some x ∧ Ints wr B x (rows.getD k []) ∧ (0 < k → ∃ y, wr.cell? ⟨b, off + (k - 1), none⟩ = some y ∧ Ints wr B y (rows.getD (k - 1) [])) := by
              rcases HRr.out with ⟨h, _⟩ | ⟨_, b, off, c, V, he, hb, hc⟩
              · have := HN.out; rw [h] at this; simp at this; omega
              · simp only [Value.slice.injEq] at he
                have h1 := hc k (by rw [← HN.out]; exact hlt)
                have h2 := hc (k - 1) (by rw [← HN.out]; omega)
                exact ⟨b, off, V k, he.1, hb, h1.1, h1.2.1, fun _ => ⟨V (k - 1), h2.1, h2.2.1⟩⟩
            obtain ⟨b, off, x, rfl, hbB, hx1, hx2, hx3⟩ := hx
            have HX2 := hid hx2
            have HX3 := hid hx3
            have hsh := HSh.out k (by rw [← HN.out]; exact hlt)
            obtain ⟨ax, cx, hxv⟩ := br.ints_val hx2
            have HBd := hid (HBad.out k hlt)
            have HRow := hid (fun h => step_row (s := s) (rows := rows) (k := k) h)
            clear hx2 hx3
            generalize hr : rows.getD k [] = row at *
            have HRo := hid hr
            obtain ⟨l, hl⟩ : ∃ l, l = row.length := ⟨_, rfl⟩
            rw [← hl] at hxv hsh
            have HLn := hid hl
            have HLr := hid (fun h => row_len (s := s) (r := row) h)
            rw [← hl] at HLr
            clear hr hl
            subst hxv
            by_cases hls : (l : Int) = s
            · have hls2 : ((l : Int) == s) = true := by simpa using hls
              have hls3 : ((l : Int) != s) = false := by simpa using hls
              have HLs := hid hls
              clear hls
              have HV := hid (implOk row _ B wr HX2.out (by omega) (by rw [← HLn.out]; exact hsh))
              cases hpm : permB row
              · rw [hpm] at HV
                have HF2 := hid (HBd.out (HRow.out (row_perm hpm)))
                clear hpm
                go_wp2_with (go_at_call 95; refine HV.out.mono ?_; rintro e w3 ⟨rfl, b3⟩; have HB3 := hid (HBw.out.trans (b3.mono (by omega))); clear b3)
                go_ret
                exact ⟨by rw [HF.out, HF2.out]; rfl, HB3.out⟩
              · rw [hpm] at HV
                have HPm := hid hpm
                clear hpm
                go_wp2_with fail
                refine HV.out.mono ?_
                rintro e w3 ⟨rfl, b3⟩
                have hz3 := b3.size
                have HBw3 := hid (HBw.out.trans (b3.mono (by omega)))
                have HQ3 := hid b3
                have HBr3 := hid (HBr.out.trans (b3.mono hzr))
                have HX3a := hid (HX2.out.chg (Chg.ofBelow (lo := 0) b3) (.inr (Nat.zero_le _)))
                clear b3 HV
                have l12 : row.length ≤ 12 := by rw [← HLn.out]; have := HLs.out; omega
                cases hid1 : idB row
                case' true =>
                  have HI := hid (isId row true hid1 _ B w3 HX3a.out (by omega) l12)
                  have HF2 := hid (HBd.out (HRow.out (row_id hid1)))
                  clear hid1
                  go_wp2_with (go_at_call 125; refine HI.out.mono ?_; rintro e w4 ⟨rfl, b4⟩; have HB4 := hid (HBw3.out.trans (b4.mono (by omega))); clear b4)
                  go_ret
                  exact ⟨by rw [HF.out, HF2.out]; rfl, HB4.out⟩
                have HI := hid (isId row false hid1 _ B w3 HX3a.out (by omega) l12)
                have HId := hid hid1
                clear hid1
                go_wp2_with fail
                refine HI.out.mono ?_
                rintro e w4 ⟨rfl, b4⟩
                have hz4 := b4.size
                have HBw4 := hid (HBw3.out.trans (b4.mono (by omega)))
                have HQ4 := hid (HQ3.out.trans (b4.mono hz3))
                have HBr4 := hid (HBr3.out.trans (b4.mono (by omega)))
                have HX4a := hid (HX3a.out.chg (Chg.ofBelow (lo := 0) b4) (.inr (Nat.zero_le _)))
                clear b4 HI
                cases ht1 : htB row
                case' true =>
                  have HT := hid (isHt row true ht1 _ B w4 HX4a.out (by omega) l12)
                  have HF2 := hid (HBd.out (HRow.out (row_ht ht1)))
                  clear ht1
                  go_wp2_with (go_at_call 126; refine HT.out.mono ?_; rintro e w5 ⟨rfl, b5⟩; have HB5 := hid (HBw4.out.trans (b5.mono (by omega))); clear b5)
                  go_ret
                  exact ⟨by rw [HF.out, HF2.out]; rfl, HB5.out⟩
                have HT := hid (isHt row false ht1 _ B w4 HX4a.out (by omega) l12)
                have HHt := hid ht1
                clear ht1
                go_wp2_with fail
                refine HT.out.mono ?_
                rintro e w5 ⟨rfl, b5⟩
                have hz5 := b5.size
                have HBw5 := hid (HBw4.out.trans (b5.mono (by omega)))
                have HQ5 := hid (HQ4.out.trans (b5.mono (by omega)))
                have HBr5 := hid (HBr4.out.trans (b5.mono (by omega)))
                have HX5a := hid (HX4a.out.chg (Chg.ofBelow (lo := 0) b5) (.inr (Nat.zero_le _)))
                clear b5 HT
                have HRk := hid (row_ok (s := s) (by rw [← HLn.out]; exact HLs.out) HPm.out HId.out HHt.out)
                by_cases hk0 : k = 0
                · subst hk0
                  have HSt : Hid (stepB s rows 0 = true) := hid (step_ok (by rw [HRo.out]; exact HRk.out) (pair_zero rows))
                  clear HX3 HX5a
                  go_wp2
                  go_roundw
                  case rel => exact ⟨1, by omega, by go_num, (fun j hj => by
                    have h0 : j = 0 := by omega
                    subst h0
                    exact HSt.out), HBr5.out⟩
                  case measure => simp [intOf]; omega
                · obtain ⟨y, hy1, hy2⟩ := HX3.out (by omega)
                  obtain ⟨m, rfl⟩ : ∃ m, k = m + 1 := ⟨k - 1, by omega⟩
                  rw [Nat.add_sub_cancel] at hy1 hy2
                  have hP := row_parts (step_yes (HG.out m (by omega)))
                  have hy3 : w5.cell? ⟨b, off + m, none⟩ = some y := (HQ5.out.cell (p := ⟨b, off + m, none⟩) (by show b < _; omega)).trans hy1
                  have kk2 : w5.cell? ⟨w.heap.size, 2, none⟩ = some (.slice (some ⟨b, off, none⟩) n cap) := (HBr5.out.cell (p := ⟨w.heap.size, 2, none⟩) (by show w.heap.size < _; omega)).trans HK.out.2
                  have hlp : (rows.getD m []).length = row.length := by have := hP.1; have := HLs.out; have := HLn.out; omega
                  have HL := hid (implIsLeft (rows.getD m []) row y _ B B w5 (hy2.chg (Chg.ofBelow (lo := 0) HQ5.out) (.inr (Nat.zero_le _))) HX5a.out (by omega) (by omega) (by omega) (by omega) (perm_places hP.2.1) hlp)
                  have HPr : Hid (pairB rows (m + 1) = lwB (rows.getD m []) row) := hid (by rw [pair_pos rows (m + 1) (by omega), HRo.out]; rfl)
                  have HStep := hid (fun h => step_pair (s := s) (rows := rows) (k := m + 1) h)
                  obtain ⟨ay, cy, hyv⟩ := br.ints_val hy2
                  generalize (rows.getD m []).length = ly at *
                  subst hyv
                  clear HX3 HX5a hy1 hy2 hP hlp
                  cases hlw : lwB (rows.getD m []) row
                  · rw [hlw] at HL HPr
                    have HF2 := hid (HBd.out (HStep.out HPr.out))
                    clear hlw
                    go_wp2_with (go_at_call 127; refine HL.out.mono ?_; rintro e w6 ⟨rfl, b6⟩; have HB6 := hid (HBw5.out.trans (b6.mono (by omega))); clear b6)
                    go_ret
                    exact ⟨by rw [HF.out, HF2.out]; rfl, HB6.out⟩
                  · rw [hlw] at HL HPr
                    have HSt : Hid (stepB s rows (m + 1) = true) := hid (step_ok (by rw [HRo.out]; exact HRk.out) HPr.out)
                    clear hlw
                    go_wp2_with (go_at_call 127; refine HL.out.mono ?_; rintro e w6 ⟨rfl, b6⟩; have HB6 := hid (HBr5.out.trans (b6.mono (by omega))); clear b6)
                    go_roundw
                    case rel => exact ⟨m + 1 + 1, by omega, by go_num, fun j hj => by
                      rcases Nat.lt_or_ge j (m + 1) with h | h
                      · exact HG.out j h
                      · obtain rfl : j = m + 1 := by omega
                        exact HSt.out, HB6.out⟩
                    case measure => simp [intOf]; omega
            · have hls2 : ((l : Int) == s) = false := by simpa using hls
              have hls3 : ((l : Int) != s) = true := by simpa using hls
              have HF2 := hid (HBd.out (HRow.out (HLr.out hls)))
              clear hls
              go_wp2
              go_ret
              exact ⟨by rw [HF.out, HF2.out]; rfl, HBw.out⟩
          · obtain rfl : k = n := by omega
            have HF2 := hid (HGood.out HG.out)
            go_wp2
            go_ret
            exact ⟨by rw [HF.out, HF2.out]; rfl, HBw.out⟩
  · have hsd : decide (0 ≤ s ∧ s ≤ 12) = false := decide_eq_false hs
    have HW := hid (fun W => within64 s 0 12 W)
    rw [hsd] at HW HHd
    have HF := hid (nv_head (s := s) (p := p) (rows := rows) HHd.out)
    clear hsd hs
    go_enter Try.func59, Try.ntmps59
    go_wp2_with (go_at_call 91; refine (HW.out _).mono ?_; rintro e w' ⟨rfl, rfl⟩)
    go_ret
    exact ⟨by rw [HF.out]; rfl, HB0.out⟩
end Go.Proofs.Ytjnanldaihidlaa.vn
