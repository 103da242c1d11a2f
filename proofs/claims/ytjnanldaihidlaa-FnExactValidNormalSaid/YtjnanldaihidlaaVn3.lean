/-
  ValidNormal: the model.
-/
import Derived.Test.YtjnanldaihidlaaVn2
namespace Go.Proofs.Ytjnanldaihidlaa.vn
open Go.RowKit Go.Proofs.Ytjnanldaihidlaa.sl Go.Proofs.Ytjnanldaihidlaa.pm Go.Proofs.Ytjnanldaihidlaa.fn Go.Proofs.Ytjnanldaihidlaa.br Go.Proofs.Ytjnanldaihidlaa.ss Go.Proofs.Ytjnanldaihidlaa.nb Go.Proofs.Ytjnanldaihidlaa.ai
set_option linter.unusedVariables false

theorem is_id (r : List Int) (l : Nat) (h : l = r.length) : sameB r (ids l) = idB r := by subst h; rfl
theorem is_ht (r : List Int) (l : Nat) (h : l = r.length) : sameB r (halfL l) = htB r := by subst h; rfl
theorem head_1 {s p : Int} {rows : List (List Int)} (h : ¬ (0 ≤ s ∧ s ≤ 12)) : nvB s p rows = false := nv_head (by rw [headB, decide_eq_false h]; rfl)
theorem head_2 {s p : Int} {rows : List (List Int)} (h : ¬ (-100 ≤ p ∧ p ≤ 100)) : nvB s p rows = false := nv_head (by simp [headB, h])
theorem head_3 {s p : Int} {rows : List (List Int)} (h : ¬ rows.length ≤ 100) : nvB s p rows = false := nv_head (by simp [headB, h])
theorem head_4 {s p : Int} {rows : List (List Int)} (h1 : 0 ≤ s ∧ s ≤ 12) (h2 : -100 ≤ p ∧ p ≤ 100) (h3 : rows.length ≤ 100) : headB s p rows = true := by simp [headB, h1, h2, h3]

set_option maxRecDepth 100000 in
set_option maxHeartbeats 4000000 in
theorem specOkN (s p : Int) (rows : List (List Int)) (g : Nat) (f : Value) (B : Nat) (w : World) (ha : RowsC w B f rows) (hB : B ≤ w.heap.size) (hg : g < w.heap.size) (c0 : w.cell? ⟨g, 0, none⟩ = some (.int .i64 s)) (c1 : w.cell? ⟨g, 1, none⟩ = some (.int .i64 p)) (c2 : w.cell? ⟨g, 2, none⟩ = some f) (hq : Small rows) :
    Calls Try.prog 123 #[.pointer (some ⟨g, 0, none⟩)] w fun e w' => e = .returned (.bool (nvB s p rows)) ∧ Below w.heap.size w w' := by
  obtain ⟨ao, cap, hv⟩ := rows_val ha.rows
  obtain ⟨n, hnn⟩ : ∃ n, n = rows.length := ⟨_, rfl⟩
  have hn := hq.len
  rw [← hnn] at hv hn
  have HN := hid hnn
  subst hv
  have HR := hid ha
  have HSh := hid hq.short
  have H3 := hid (@head_3 s p rows)
  have H4 := hid (@head_4 s p rows)
  rw [← hnn] at H3 H4
  have HCs := hid (And.intro c0 (And.intro c1 c2))
  clear ha hq hnn
  by_cases hs : 0 ≤ s ∧ s ≤ 12
  · have HI1 := hid (fun W => specIn s 0 12 W)
    rw [decide_eq_true hs] at HI1
    have hs1 := hs.1
    have hs2 := hs.2
    by_cases hp : -100 ≤ p ∧ p ≤ 100
    · have HI2 := hid (fun W => specIn p (-100) 100 W)
      rw [decide_eq_true hp] at HI2
      by_cases h100 : n ≤ 100
      · have hh := H4.out hs hp h100
        have hd100 : decide ((100 : Int) < (n : Int)) = false := by simp; omega
        clear hs hp h100 H3 H4
        by_cases h2 : s < 2
        · have HF := hid (nv_small hh h2)
          rw [← HN.out] at HF
          by_cases hp0 : p = 0
          · by_cases hn0 : n = 0
            · have HF2 : Hid (nvB s p rows = true) := hid (by rw [HF.out]; simp [hn0, hp0])
              subst hn0 hp0
              clear hh
              go_enter Try.func123, Try.ntmps123
              go_wp2_with (go_at_call 111; first | (with_reducible refine (HI1.out _).mono ?_; rintro e w' ⟨rfl, rfl⟩) | (with_reducible refine (HI2.out _).mono ?_; rintro e w' ⟨rfl, rfl⟩))
              refine wp_loop_rounds 1 ?_
              rw [rounds_succ]
              go_wp2
              go_ret
              exact ⟨by rw [HF2.out]; rfl, Below.refl _ _⟩
            · have HF2 : Hid (nvB s p rows = false) := hid (by rw [HF.out]; simp [hn0])
              have hd0 : decide ((0 : Int) < (n : Int)) = true := by simp; omega
              subst hp0
              clear hh
              go_enter Try.func123, Try.ntmps123
              go_wp2_with (go_at_call 111; first | (with_reducible refine (HI1.out _).mono ?_; rintro e w' ⟨rfl, rfl⟩) | (with_reducible refine (HI2.out _).mono ?_; rintro e w' ⟨rfl, rfl⟩))
              go_ret
              exact ⟨by rw [HF2.out]; rfl, Below.refl _ _⟩
          · have HF2 : Hid (nvB s p rows = false) := hid (by rw [HF.out]; simp [hp0])
            have hd0 : (p == 0) = false := by simpa using hp0
            have hd1 : (p != 0) = true := by simpa using hp0
            clear hh hp0
            go_enter Try.func123, Try.ntmps123
            go_wp2_with (go_at_call 111; first | (with_reducible refine (HI1.out _).mono ?_; rintro e w' ⟨rfl, rfl⟩) | (with_reducible refine (HI2.out _).mono ?_; rintro e w' ⟨rfl, rfl⟩))
            go_ret
            exact ⟨by rw [HF2.out]; rfl, Below.refl _ _⟩
        · have HF := hid (nv_big hh h2)
          have h2d : decide (s < 2) = false := decide_eq_false h2
          have HBad := hid (fun k => @all_bad s rows k)
          have HGood := hid (@all_good s rows)
          rw [← HN.out] at HBad HGood
          clear hh h2
          go_enter Try.func123, Try.ntmps123
          go_wp2_with (go_at_call 111; first | (with_reducible refine (HI1.out _).mono ?_; rintro e w' ⟨rfl, rfl⟩) | (with_reducible refine (HI2.out _).mono ?_; rintro e w' ⟨rfl, rfl⟩))
          clear c0 c1 c2 HI1 HI2
          go_loopw [3] (fun i wr => ∃ k : Nat, k ≤ n ∧ i = .int .i64 k ∧ (∀ j, j < k → stepB s rows j = true) ∧ Below w.heap.size w wr) (fun i _ => n - (intOf i).toNat)
          case atStart => exact ⟨0, Nat.zero_le _, rfl, fun j hj => by omega, Below.refl _ _⟩
          case round =>
            obtain ⟨k, hk, rfl, hgd, hbel⟩ := hrel
            have HG := hid hgd
            have HBw := hid hbel
            have hzr := hbel.size
            have k0 : wr.cell? ⟨g, 0, none⟩ = some (.int .i64 s) := (hbel.cell (p := ⟨g, 0, none⟩) hg).trans HCs.out.1
            have k2 : wr.cell? ⟨g, 2, none⟩ = some (.slice ao n cap) := (hbel.cell (p := ⟨g, 2, none⟩) hg).trans HCs.out.2.2
            have HRr := hid (HR.out.chg (Chg.ofBelow (lo := 0) hbel) (.inr (Nat.zero_le _)))
            clear hgd hbel
            by_cases hlt : k < n
            · have hx : ∃ b off x, ao = some ⟨b, off, none⟩ ∧ b < B ∧ wr.cell? ⟨b, off + k, none⟩ = some x ∧ Ints wr B x (rows.getD k []) ∧ CapOk x ∧ (0 < k → ∃ y, wr.cell? ⟨b, off + (k - 1), none⟩ = some y ∧ Ints wr B y (rows.getD (k - 1) [])) := by
                rcases HRr.out with ⟨h, _⟩ | ⟨_, b, off, c, V, he, hb, hc⟩
                · have := HN.out; rw [h] at this; simp at this; omega
                · simp only [Value.slice.injEq] at he
                  have h1 := hc k (by rw [← HN.out]; exact hlt)
                  have h2 := hc (k - 1) (by rw [← HN.out]; omega)
                  exact ⟨b, off, V k, he.1, hb, h1.1, h1.2.1, h1.2.2, fun _ => ⟨V (k - 1), h2.1, h2.2.1⟩⟩
              obtain ⟨b, off, x, rfl, hbB, hx1, hx2, hx4, hx3⟩ := hx
              have HX2 := hid hx2
              have HX3 := hid hx3
              have HX4 := hid hx4
              have hsh := HSh.out k (by rw [← HN.out]; exact hlt)
              obtain ⟨ax, cx, hxv⟩ := br.ints_val hx2
              have HBd := hid (HBad.out k hlt)
              have HRow := hid (fun h => step_row (s := s) (rows := rows) (k := k) h)
              clear hx2 hx3 hx4
              generalize hr : rows.getD k [] = row at *
              have HRo := hid hr
              obtain ⟨l, hl⟩ : ∃ l, l = row.length := ⟨_, rfl⟩
              rw [← hl] at hxv hsh
              have HLn := hid hl
              have HLr := hid (fun h => row_len (s := s) (r := row) h)
              rw [← hl] at HLr
              clear hr hl
              subst hxv
              by_cases hls : (l : Int) = s
              · have HLs := hid hls
                have hls2 : ((l : Int) == s) = true := by simpa using hls
                have hls3 : ((l : Int) != s) = false := by simpa using hls
                clear hls
                have HV := hid (specPerm4 row _ B wr HX2.out (by rw [← HLn.out]; exact hsh) HX4.out)
                cases hpm : permB row
                · rw [hpm] at HV
                  have HF2 := hid (HBd.out (HRow.out (row_perm hpm)))
                  clear hpm
                  go_wp2_with (go_at_call 164; refine HV.out.mono ?_; rintro e w3 ⟨rfl, b3⟩; have HB3 := hid (HBw.out.trans (b3.mono (by omega))); clear b3)
                  go_ret
                  exact ⟨by rw [HF.out, HF2.out]; rfl, HB3.out⟩
                · rw [hpm] at HV
                  have HPm := hid hpm
                  clear hpm
                  go_wp2_with (go_at_call 164; refine HV.out.mono ?_; rintro e w3 ⟨rfl, b3⟩; have hz3 := b3.size; have HQ3 := hid b3; have k03 := (b3.cell (p := ⟨g, 0, none⟩) (by show g < _; omega)).trans k0; clear b3)
                  have HBw3 := hid (HBw.out.trans (HQ3.out.mono (by omega)))
                  have HX3a := hid (HX2.out.chg (Chg.ofBelow (lo := 0) HQ3.out) (.inr (Nat.zero_le _)))
                  have hl12 : l ≤ 12 := by have := HLs.out; omega
                  have HIt := hid (specIdent l w3 (by omega))
                  rw [HLs.out] at HIt
                  refine HIt.out.mono ?_
                  rintro e w4 ⟨v4, rfl, o4, b4⟩
                  have hz4 := b4.size
                  have HQ4 := hid (HQ3.out.trans (b4.mono hz3))
                  have HX4a := hid (HX3a.out.chg (Chg.ofBelow (lo := 0) b4) (.inr (Nat.zero_le _)))
                  have k04 := (b4.cell (p := ⟨g, 0, none⟩) (by show g < _; omega)).trans k03
                  have HO4 := hid o4
                  clear o4 b4 HIt HV
                  have HIs := hid (fun r hr => specIsQ row (ids l) r hr _ v4 B w4.heap.size w4 HX4a.out HO4.out.ints (by rw [← HLn.out]; omega) (by rw [ids_len]; omega))
                  cases hid1 : idB row
                  case' true =>
                    have HI := hid (HIs.out true ((is_id row l HLn.out).trans hid1))
                    have HF2 := hid (HBd.out (HRow.out (row_id hid1)))
                    have HB4 := hid (HBw.out.trans (HQ4.out.mono (by omega)))
                    clear hid1 HIs
                    go_wp2_with (go_at_call 165; refine HI.out.mono ?_; rintro e w5 ⟨rfl, q5, rfl⟩)
                    go_ret
                    exact ⟨by rw [HF.out, HF2.out]; rfl, bdrewN HB4.out _⟩
                  have HI := hid (HIs.out false ((is_id row l HLn.out).trans hid1))
                  have HId := hid hid1
                  clear hid1 HIs
                  go_wp2_with (go_at_call 165; refine HI.out.mono ?_; rintro e w5 ⟨rfl, q5, rfl⟩; have k05 : (w4.drewN q5).cell? ⟨g, 0, none⟩ = some (.int .i64 s) := k04)
                  have HHf := hid (specHalf l (w4.drewN q5) (by omega))
                  rw [HLs.out] at HHf
                  refine HHf.out.mono ?_
                  rintro e w6 ⟨v6, rfl, o6, b6⟩
                  have hz6 : w4.heap.size ≤ w6.heap.size := b6.size
                  have HQ6 : Hid (Below wr.heap.size wr w6) := hid ((bdrewN HQ4.out q5).trans (b6.mono (by show wr.heap.size ≤ w4.heap.size; omega)))
                  have HX6a : Hid (Ints w6 B (.slice ax l cx) row) := hid (HX2.out.chg (Chg.ofBelow (lo := 0) HQ6.out) (.inr (Nat.zero_le _)))
                  have HO6 := hid o6
                  clear o6 b6 HHf HI HO4
                  have HIs2 := hid (fun r hr => specIsQ row (halfL l) r hr _ v6 B w6.heap.size w6 HX6a.out HO6.out.ints (by rw [← HLn.out]; omega) (by rw [halfL_len]; omega))
                  cases ht1 : htB row
                  case' true =>
                    have HT := hid (HIs2.out true ((is_ht row l HLn.out).trans ht1))
                    have HF2 := hid (HBd.out (HRow.out (row_ht ht1)))
                    have HB6 := hid (HBw.out.trans (HQ6.out.mono (by omega)))
                    clear ht1 HIs2
                    go_wp2_with (go_at_call 165; refine HT.out.mono ?_; rintro e w7 ⟨rfl, q7, rfl⟩)
                    go_ret
                    exact ⟨by rw [HF.out, HF2.out]; rfl, bdrewN HB6.out _⟩
                  have HT := hid (HIs2.out false ((is_ht row l HLn.out).trans ht1))
                  have HHt := hid ht1
                  clear ht1 HIs2
                  have HRk := hid (row_ok (s := s) (by rw [← HLn.out]; exact HLs.out) HPm.out HId.out HHt.out)
                  have HB6 := hid (HBw.out.trans (HQ6.out.mono (by omega)))
                  by_cases hk0 : k = 0
                  · subst hk0
                    have HSt : Hid (stepB s rows 0 = true) := hid (step_ok (by rw [HRo.out]; exact HRk.out) (pair_zero rows))
                    clear HX3
                    go_wp2_with (go_at_call 165; refine HT.out.mono ?_; rintro e w7 ⟨rfl, q7, rfl⟩)
                    go_roundw
                    case rel => exact ⟨1, by omega, by go_num, (fun j hj => by
                      have h0 : j = 0 := by omega
                      subst h0
                      exact HSt.out), bdrewN HB6.out _⟩
                    case measure => simp [intOf]; omega
                  · obtain ⟨y, hy1, hy2⟩ := HX3.out (by omega)
                    obtain ⟨m, rfl⟩ : ∃ m, k = m + 1 := ⟨k - 1, by omega⟩
                    rw [Nat.add_sub_cancel] at hy1 hy2
                    have hP := row_parts (step_yes (HG.out m (by omega)))
                    have HY3 : Hid (w6.cell? ⟨b, off + m, none⟩ = some y) := hid ((HQ6.out.cell (p := ⟨b, off + m, none⟩) (by show b < _; omega)).trans hy1)
                    have HK2 : Hid (w6.cell? ⟨g, 2, none⟩ = some (.slice (some ⟨b, off, none⟩) n cap)) := hid ((HQ6.out.cell (p := ⟨g, 2, none⟩) (by show g < _; omega)).trans k2)
                    have hlp : (rows.getD m []).length = row.length := by have := hP.1; have := HLs.out; have := HLn.out; omega
                    have HYi : Ints w6 B y (rows.getD m []) := hy2.chg (Chg.ofBelow (lo := 0) HQ6.out) (.inr (Nat.zero_le _))
                    have HEx := hid (fun q => specExtra (rows.getD m []) row y (.slice ax l cx) B B (w6.drewN q) HYi HX6a.out (by show B ≤ w6.heap.size; omega) (by show B ≤ w6.heap.size; omega) (by omega) (by omega) (perm_places hP.2.1))
                    have HLw := hid (ex_lw (p := rows.getD m []) (q := row) (by rw [bothB, hP.2.1, HPm.out, decide_eq_true hlp]; rfl))
                    have HPr : Hid (pairB rows (m + 1) = lwB (rows.getD m []) row) := hid (by rw [pair_pos rows (m + 1) (by omega), HRo.out]; rfl)
                    have HStep := hid (fun h => step_pair (s := s) (rows := rows) (k := m + 1) h)
                    obtain ⟨ay, cy, hyv⟩ := br.ints_val hy2
                    generalize (rows.getD m []).length = ly at *
                    subst hyv
                    clear HX3 hy1 hy2 hP hlp HYi
                    generalize exL (rows.getD m []) row = z at *
                    by_cases hz : z = 0
                    · have HSt : Hid (stepB s rows (m + 1) = true) := hid (step_ok (by rw [HRo.out]; exact HRk.out) (by rw [HPr.out, ← HLw.out]; simpa using hz))
                      subst hz
                      go_wp2_with (first | (go_at_call 165; refine HT.out.mono ?_; rintro e w7 ⟨rfl, q7, rfl⟩; have kk2 : (w6.drewN q7).cell? ⟨g, 2, none⟩ = some (.slice (some ⟨b, off, none⟩) n cap) := HK2.out; have kky : (w6.drewN q7).cell? ⟨b, off + m, none⟩ = some (.slice ay ly cy) := HY3.out) | (go_at_call 168; refine (HEx.out _).mono ?_; rintro e w8 ⟨rfl, b8⟩; have HB8 := hid ((bdrewN HB6.out _).trans (b8.mono (by show w.heap.size ≤ w6.heap.size; omega))); clear b8))
                      go_roundw
                      case rel => exact ⟨m + 1 + 1, by omega, by go_num, (fun j hj => by
                        rcases Nat.lt_or_ge j (m + 1) with h | h
                        · exact HG.out j h
                        · have h0 : j = m + 1 := by omega
                          subst h0
                          exact HSt.out), HB8.out⟩
                      case measure => simp [intOf]; omega
                    · have HF2 := hid (HBd.out (HStep.out (by rw [HPr.out, ← HLw.out]; simpa using hz)))
                      have hd0 : (z == 0) = false := by simpa using hz
                      have hd1 : (z != 0) = true := by simpa using hz
                      clear hz
                      go_wp2_with (first | (go_at_call 165; refine HT.out.mono ?_; rintro e w7 ⟨rfl, q7, rfl⟩; have kk2 : (w6.drewN q7).cell? ⟨g, 2, none⟩ = some (.slice (some ⟨b, off, none⟩) n cap) := HK2.out; have kky : (w6.drewN q7).cell? ⟨b, off + m, none⟩ = some (.slice ay ly cy) := HY3.out) | (go_at_call 168; refine (HEx.out _).mono ?_; rintro e w8 ⟨rfl, b8⟩; have HB8 := hid ((bdrewN HB6.out _).trans (b8.mono (by show w.heap.size ≤ w6.heap.size; omega))); clear b8))
                      go_ret
                      exact ⟨by rw [HF.out, HF2.out]; rfl, HB8.out⟩
              · have hls2 : ((l : Int) == s) = false := by simpa using hls
                have hls3 : ((l : Int) != s) = true := by simpa using hls
                have HF2 := hid (HBd.out (HRow.out (HLr.out hls)))
                clear hls
                go_wp2
                go_ret
                exact ⟨by rw [HF.out, HF2.out]; rfl, HBw.out⟩
            · obtain rfl : k = n := by omega
              have HF2 := hid (HGood.out HG.out)
              go_wp2
              go_ret
              exact ⟨by rw [HF.out, HF2.out]; rfl, HBw.out⟩
      · have HF := hid (H3.out h100)
        have hd100 : decide ((100 : Int) < (n : Int)) = true := by simp; omega
        clear hs hp h100 H3 H4
        go_enter Try.func123, Try.ntmps123
        go_wp2_with (go_at_call 111; first | (with_reducible refine (HI1.out _).mono ?_; rintro e w' ⟨rfl, rfl⟩) | (with_reducible refine (HI2.out _).mono ?_; rintro e w' ⟨rfl, rfl⟩))
        go_ret
        exact ⟨by rw [HF.out]; rfl, Below.refl _ _⟩
    · have HF := hid (head_2 (s := s) (rows := rows) hp)
      have HI2 := hid (fun W => specIn p (-100) 100 W)
      rw [decide_eq_false hp] at HI2
      clear hs hp H3 H4
      go_enter Try.func123, Try.ntmps123
      go_wp2_with (go_at_call 111; first | (with_reducible refine (HI1.out _).mono ?_; rintro e w' ⟨rfl, rfl⟩) | (with_reducible refine (HI2.out _).mono ?_; rintro e w' ⟨rfl, rfl⟩))
      go_ret
      exact ⟨by rw [HF.out]; rfl, Below.refl _ _⟩
  · have HF := hid (head_1 (p := p) (rows := rows) hs)
    have HI1 := hid (fun W => specIn s 0 12 W)
    rw [decide_eq_false hs] at HI1
    clear hs H3 H4
    go_enter Try.func123, Try.ntmps123
    go_wp2_with (go_at_call 111; refine (HI1.out _).mono ?_; rintro e w' ⟨rfl, rfl⟩)
    go_ret
    exact ⟨by rw [HF.out]; rfl, Below.refl _ _⟩

theorem specVN (s p : Int) (rows : List (List Int)) (f : Value) (B : Nat) (w : World) (ha : RowsC w B f rows) (hB : B ≤ w.heap.size) (hq : Small rows) :
    Calls Try.prog 58 #[.agg #[.int .i64 s, .int .i64 p, f]] w fun e w' => e = .returned (.bool (nvB s p rows)) ∧ Below w.heap.size w w' := by
  have HO := hid (specOkN s p rows w.heap.size f B (w.alloc (.cells #[.int .i64 s, .int .i64 p, f] 72)) (ha.chg (br.chg_alloc 0 0 w _) (.inr (Nat.zero_le _))) (by simp; omega) (by simp) (World.cell?_alloc_at _ _ _ _ rfl) (World.cell?_alloc_at _ _ _ _ rfl) (World.cell?_alloc_at _ _ _ _ rfl) hq)
  obtain ⟨ao, cap, hv⟩ := rows_val ha.rows
  clear ha hq
  generalize nvB s p rows = r at *
  generalize rows.length = n at *
  subst hv
  go_enter Try.func58, Try.ntmps58
  go_wp2_with fail
  refine HO.out.mono ?_
  rintro e w1 ⟨rfl, b1⟩
  have HB := hid (((Below.refl w.heap.size w).alloc (Nat.le_refl _) (.cells #[.int .i64 s, .int .i64 p, .slice ao n cap] 72)).trans (b1.mono (by simp)))
  clear b1
  go_wp2
  go_ret
  exact ⟨rfl, HB.out⟩
end Go.Proofs.Ytjnanldaihidlaa.vn
