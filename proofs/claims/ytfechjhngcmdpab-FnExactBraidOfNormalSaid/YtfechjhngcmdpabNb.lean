/-
  Normal forms in memory: contracts of the laws' helpers toNormalBraid, eqNormalBraid, szNormalBraid; SameNormal of both sides.
-/
import Derived.Test.YtfechjhngcmdpabSs2
namespace Go.Proofs.Ytfechjhngcmdpab.nb
open Go.RowKit Go.Proofs.Ytfechjhngcmdpab.sl Go.Proofs.Ytfechjhngcmdpab.br Go.Proofs.Ytfechjhngcmdpab.ss
set_option linter.unusedVariables false

/-- Rows that a law looks at. -/
structure Small (rows : List (List Int)) : Prop where
  len : rows.length ≤ 1048576
  short : Short rows 1099511627776
theorem small_of {left : Int} {rows : List (List Int)} (h0 : 0 ≤ left) (h1 : left ≤ 1048576) (h : 0 ≤ szR left rows) : Small rows := by
  obtain ⟨_, h2, h3⟩ := szR_bound h0 h
  exact ⟨by omega, fun j hj => by have := h3 j hj; omega⟩

theorem szN (s p : Int) (rows : List (List Int)) (f : Value) (B : Nat) (left : Int) (w : World) (ha : ss.Rows w B f rows) (hn : rows.length ≤ 9223372036854775807) (hs : Short rows 9223372036854775807) (h0 : 0 ≤ left) (h1 : left ≤ 1048576) :
    Calls Try.prog 16 #[.agg #[.int .i64 s, .int .i64 p, f], .int .i64 left] w fun e w' => e = .returned (.int .i64 (szR left rows)) ∧ Below w.heap.size w w' := by
  have HS := hid (fun w ha => szSS rows f B left w ha hn hs h0 h1)
  have HA := hid ha
  obtain ⟨ao, cap, hv⟩ := rows_val ha
  have hb := szR_pos (rows := rows) h0
  clear ha hs hn
  generalize szR left rows = q at *
  generalize rows.length = n at *
  subst hv
  rcases hb with rfl | hb
  · go_enter Try.func16, Try.ntmps16
    go_wp2_with fail
    refine (HS.out _ (HA.out.al _)).mono ?_
    rintro e w1 ⟨rfl, rfl⟩
    go_wp2
    go_ret
    exact ⟨rfl, (Below.refl w.heap.size w).alloc (Nat.le_refl _) _⟩
  · go_enter Try.func16, Try.ntmps16
    go_wp2_with fail
    refine (HS.out _ (HA.out.al _)).mono ?_
    rintro e w1 ⟨rfl, rfl⟩
    go_wp2
    go_ret
    exact ⟨rfl, (Below.refl w.heap.size w).alloc (Nat.le_refl _) _⟩

theorem rown_other {w : World} {lo hi : Nat} {v : Value} {rows : List (List Int)} (h : ROwn w lo hi v rows) (b o : Nat) (u : Value) (hb : b < lo ∨ hi ≤ b) : ROwn (w.setCell ⟨b, o, none⟩ u) lo hi v rows :=
  h.chg (chg_set w b o u) (by omega)

theorem toN (s p : Int) (rows : List (List Int)) (f : Value) (B : Nat) (w : World) (ha : ss.Rows w B f rows) (hB : B ≤ w.heap.size) (hq : Small rows) :
    Calls Try.prog 18 #[.agg #[.int .i64 s, .int .i64 p, f]] w fun e w' => ∃ f', e = .returned (.agg #[.int .i64 s, .int .i64 p, f']) ∧ ROwn w' w.heap.size w'.heap.size f' rows ∧ Below w.heap.size w w' := by
  obtain ⟨ao, cap, hv⟩ := rows_val ha
  obtain ⟨n, hnn⟩ : ∃ n, n = rows.length := ⟨_, rfl⟩
  rw [← hnn] at hv
  subst hv
  have HN := hid hnn
  clear hnn
  have HA := hid ha
  clear ha
  go_enter Try.func18, Try.ntmps18
  go_wp2_with fail
  refine (toSS rows _ B _ (((HA.out.al _).al _).al _) (by simp; omega) hq.len hq.short).mono ?_
  rintro e w1 ⟨v', rfl, o1, b1⟩
  obtain ⟨hc, hf⟩ := bcell b1
  have hz := b1.size
  simp at hz
  obtain ⟨ao1, cap1, hv1⟩ := rown_val o1
  rw [← HN.out] at hv1
  subst hv1
  have O1 := hid o1
  have B1 := hid b1
  clear o1 b1
  go_wp2
  refine bodyPost_ret (v := .agg #[.int .i64 s, .int .i64 p, .slice ao1 n cap1]) (by simp [results, Try.results18, go_sem, hc]) rfl ⟨.slice ao1 n cap1, rfl, ?_, ?_⟩
  · have h1 := O1.out.lo (lo' := w.heap.size + 3) (by simp)
    have h2 := rown_other (rown_other (rown_other (rown_other h1 (w.heap.size + 1 + 1) 2 (.slice ao1 n cap1) (by omega)) (w.heap.size + 1) 0 (.int .i64 s) (by omega)) (w.heap.size + 1) 1 (.int .i64 p) (by omega)) (w.heap.size + 1) 2 (.slice ao1 n cap1) (by omega)
    have h3 := h2.lo (lo' := w.heap.size) (by omega)
    simpa using h3
  · have h1 := (((((Below.refl w.heap.size w).alloc (Nat.le_refl _) (.cells #[.int .i64 s, .int .i64 p, .slice ao n cap] 34)).alloc (by simp) (.cells #[.int .i64 0, .int .i64 0, .slice none 0 0] 40)).alloc (by simp; omega) (.cells #[.int .i64 s, .int .i64 p, .slice none 0 0] 40))).trans (B1.out.mono (by simp; omega))
    exact (((h1.setCell (by simp; omega) _).setCell (by simp) _).setCell (by simp) _).setCell (by simp) _

/-- Both are equal. -/
def sameN (s p t q : Int) (a b : List (List Int)) : Bool := decide (s = t) && (decide (p = q) && sameR a b)
theorem sameN_self (s p : Int) (a : List (List Int)) : sameN s p s p a a = true := by simp [sameN, sameR_self]

theorem eqN (s p t q : Int) (a b : List (List Int)) (f g : Value) (B C : Nat) (w : World) (ha : ss.Rows w B f a) (hb : ss.Rows w C g b) (qa : Small a) (qb : Small b) :
    Calls Try.prog 21 #[.agg #[.int .i64 s, .int .i64 p, f], .agg #[.int .i64 t, .int .i64 q, g]] w fun e w' => e = .returned (.bool (sameN s p t q a b)) ∧ Below w.heap.size w w' := by
  have HB : Hid (Below w.heap.size w ((w.alloc (.cells #[.int .i64 s, .int .i64 p, f] 40)).alloc (.cells #[.int .i64 t, .int .i64 q, g] 40))) := hid (((Below.refl w.heap.size w).alloc (Nat.le_refl _) _).alloc (by simp) _)
  have HE := hid (eqSS a b f g B C _ ((ha.al (.cells #[.int .i64 s, .int .i64 p, f] 40)).al (.cells #[.int .i64 t, .int .i64 q, g] 40)) ((hb.al (.cells #[.int .i64 s, .int .i64 p, f] 40)).al (.cells #[.int .i64 t, .int .i64 q, g] 40)) (by have := qa.len; omega) (by have := qb.len; omega) qa.short qb.short)
  obtain ⟨ao, cap, hv⟩ := rows_val ha
  obtain ⟨ao', cap', hu⟩ := rows_val hb
  clear ha hb qa qb
  by_cases h : s = t
  · by_cases h2 : p = q
    · subst h h2
      have HF : Hid (sameN s p s p a b = sameR a b) := hid (by simp [sameN])
      generalize a.length = n at *
      generalize b.length = m at *
      subst hv hu
      generalize sameR a b = r at *
      cases r
      all_goals
        go_enter Try.func21, Try.ntmps21
        go_wp2_with fail
        refine HE.out.mono ?_
        rintro e w1 ⟨rfl, q1, rfl⟩
        go_wp2
        go_ret
        exact ⟨by rw [HF.out]; rfl, bdrewN HB.out _⟩
    · subst h
      have HF : Hid (sameN s p s q a b = false) := hid (by simp [sameN, h2])
      have hd1 : (p == q) = false := by simpa using h2
      have hd2 : (p != q) = true := by simpa using h2
      clear h2 HE
      generalize a.length = n at *
      generalize b.length = m at *
      subst hv hu
      go_enter Try.func21, Try.ntmps21
      go_wp2
      go_ret
      exact ⟨by rw [HF.out]; rfl, HB.out⟩
  · have HF : Hid (sameN s p t q a b = false) := hid (by simp [sameN, h])
    have hd1 : (s == t) = false := by simpa using h
    have hd2 : (s != t) = true := by simpa using h
    clear h HE
    generalize a.length = n at *
    generalize b.length = m at *
    subst hv hu
    go_enter Try.func21, Try.ntmps21
    go_wp2
    go_ret
    exact ⟨by rw [HF.out]; rfl, HB.out⟩

theorem eqNS (s p : Int) (a : List (List Int)) (f g : Value) (B C : Nat) (w : World) (ha : ss.Rows w B f a) (hb : ss.Rows w C g a) (qa : Small a) :
    Calls Try.prog 21 #[.agg #[.int .i64 s, .int .i64 p, f], .agg #[.int .i64 s, .int .i64 p, g]] w fun e w' => e = .returned (.bool true) ∧ Below w.heap.size w w' :=
  (eqN s p s p a a f g B C w ha hb qa qa).mono fun _ _ h => ⟨by rw [h.1, sameN_self], h.2⟩
theorem rval {w : World} {lo hi : Nat} {v : Value} {rows : List (List Int)} (h : ROwn w lo hi v rows) : ∃ ao ln cp, v = .slice ao ln cp := by
  obtain ⟨ao, cp, hv⟩ := rown_val h
  exact ⟨ao, _, cp, hv⟩
end Go.Proofs.Ytfechjhngcmdpab.nb
