/-
  LoopsOn of program and model.
-/
import Derived.Test.YtfechjhngcmdpaaVmj
import Derived.Test.YtfechjhngcmdpaaVma
namespace Go.Proofs.Ytfechjhngcmdpaa.mc
open Go.RowKit Go.Sort Go.Proofs.Ytfechjhngcmdpaa.sl Go.Proofs.Ytfechjhngcmdpaa.br Go.Proofs.Ytfechjhngcmdpaa.fn Go.Proofs.Ytfechjhngcmdpaa.ss
set_option linter.unusedVariables false
set_option linter.unusedSimpArgs false

/-- The boxes of a machine and a needle. -/
structure FD (w W : World) (a p b t : Int) (f0 f1 f2 f3 f4 : Value) : Prop where
  bx : Bx w W w.heap.size a p f0 f1 f2 f3 f4
  sz : w.heap.size + 2 ≤ W.heap.size
  d0 : W.cell? ⟨w.heap.size + 1, 0, none⟩ = some (.int .i64 b)
  d1 : W.cell? ⟨w.heap.size + 1, 1, none⟩ = some (.int .i64 t)
theorem FD.below {w W W' : World} {a p b t : Int} {f0 f1 f2 f3 f4 : Value} (h : FD w W a p b t f0 f1 f2 f3 f4) (k : Below W.heap.size W W') : FD w W' a p b t f0 f1 f2 f3 f4 := by
  have hs := h.sz
  have c : ∀ (g i : Nat), g < W.heap.size → W'.cell? ⟨g, i, none⟩ = W.cell? ⟨g, i, none⟩ := fun g i hg => k.cell (p := ⟨g, i, none⟩) hg
  exact ⟨h.bx.below k, Nat.le_trans hs k.size, (c _ _ (by omega)).trans h.d0, (c _ _ (by omega)).trans h.d1⟩
theorem fd_new (w : World) (a p b t : Int) (f0 f1 f2 f3 f4 : Value) :
    FD w ((w.alloc (.cells #[.int .i64 a, .int .i64 p, f0, f1, f2, f3, f4] 37)).alloc (.cells #[.int .i64 b, .int .i64 t] 31)) a p b t f0 f1 f2 f3 f4 := by
  have x0 := bx_new w 37 a p f0 f1 f2 f3 f4
  have e1 : (w.alloc (.cells #[.int .i64 a, .int .i64 p, f0, f1, f2, f3, f4] 37)).heap.size = w.heap.size + 1 := by simp
  generalize w.alloc (.cells #[.int .i64 a, .int .i64 p, f0, f1, f2, f3, f4] 37) = V1 at *
  have b1 := (Below.refl V1.heap.size V1).alloc (Nat.le_refl _) (.cells #[.int .i64 b, .int .i64 t] 31)
  exact ⟨x0.below b1, by simp [e1], World.cell?_alloc_at _ _ _ _ e1.symm, World.cell?_alloc_at _ _ _ _ e1.symm⟩

set_option maxRecDepth 100000 in
set_option maxHeartbeats 2000000 in
theorem implLo (a p : Int) (m : Mch) (b t : Int) (f0 f1 f2 f3 f4 : Value) (B : Nat) (w : World) (ha : MInC w B f0 f1 f2 f3 f4 m) (hB : B ≤ w.heap.size) (hq : Small m) :
    Calls Try.prog 19 #[.agg #[.int .i64 a, .int .i64 p, f0, f1, f2, f3, f4], .agg #[.int .i64 b, .int .i64 t]] w fun e w' => ∃ v', e = .returned v' ∧ Own w' w.heap.size w'.heap.size v' (onL a p m b t) ∧ Below w.heap.size w w' := by
  have HV := hid (fun W (h : Below w.heap.size w W) => implHas a p m b t f0 f1 f2 f3 f4 B W (ha.below h) (Nat.le_trans hB h.size) hq)
  have HA := hid (fun W (h : Below w.heap.size w W) => ha.below h)
  have HQ := hid hq
  have HPa := hid (fun h => @hasN_parts a p b t m h)
  obtain ⟨u, hu⟩ : ∃ u, u = hasN a p m b t := ⟨_, rfl⟩
  obtain ⟨xs, hxs⟩ : ∃ xs, xs = onL a p m b t := ⟨_, rfl⟩
  rw [← hxs]
  unfold onL at hxs
  rw [← hu] at hxs HPa HV
  have HX1 := hid hxs
  obtain ⟨⟨a0, k0, rfl⟩, ⟨a1, k1, rfl⟩, ⟨a2, k2, rfl⟩, ⟨a3, k3, rfl⟩, ⟨a4, k4, rfl⟩⟩ := ha.vals
  have HL0 := hid (rfl : m.fr.length = m.fr.length)
  clear ha hq hxs hu
  obtain ⟨n0, e0⟩ : ∃ n, n = m.fr.length := ⟨_, rfl⟩
  obtain ⟨n1, e1⟩ : ∃ n, n = m.bk.length := ⟨_, rfl⟩
  have HN0 := hid e0
  have HN1 := hid e1
  rw [← e0, ← e1] at HV HA ⊢
  clear e0 e1 HL0
  generalize m.cs.length = n2 at *
  generalize m.ls.length = n3 at *
  generalize m.dr.length = n4 at *
  have HX := hid (fd_new w a p b t (.slice a0 n0 k0) (.slice a1 n1 k1) (.slice a2 n2 k2) (.slice a3 n3 k3) (.slice a4 n4 k4))
  go_enter Try.func19, Try.ntmps19
  go_wp2_with fail
  generalize ((w.alloc (.cells #[.int .i64 a, .int .i64 p, .slice a0 n0 k0, .slice a1 n1 k1, .slice a2 n2 k2, .slice a3 n3 k3, .slice a4 n4 k4] 37)).alloc (.cells #[.int .i64 b, .int .i64 t] 31)) = W1 at *
  refine (HV.out W1 HX.out.bx.b0).mono ?_
  rintro e W2 ⟨rfl, b2⟩
  have HX2 := hid (HX.out.below b2)
  clear b2 HX HV
  cases u with
  | false =>
    obtain rfl : xs = [] := HX1.out
    go_wp2
    go_ret
    exact ⟨_, rfl, (Own.nil W2 w.heap.size), HX2.out.bx.b0⟩
  | true =>
    obtain ⟨hok, hb1, hb2, ht0, ht1, hta⟩ := HPa.out rfl
    obtain ⟨j, rfl⟩ := Int.eq_ofNat_of_zero_le ht0
    have hl0 : j < m.fr.length := by have := (stk_parts hok.fr).1; omega
    have hl1 : j < m.bk.length := by have := (stk_parts hok.bk).1; omega
    have hol := onW_len hok b j
    have E : xs = onW m b j := HX1.out
    rw [← E] at hol
    have hbb : b = 1 ∨ b = 2 := by omega
    have HLo := hid (fun (pb : Nat) (W : World) (h : Below w.heap.size w W) c2 c3 => loopsOnC pb m b j (.slice a0 n0 k0) (.slice a1 n1 k1) (.slice a2 n2 k2) (.slice a3 n3 k3) (.slice a4 n4 k4) B W (HA.out W h) HQ.out c2 c3 hbb hl0 hl1)
    rw [← E] at HLo
    clear hok hb1 hb2 ht0 ht1 hta hl0 hl1 E HX1 HPa HA hbb HN0 HN1
    have y0 := HX2.out.bx.c0
    have y1 := HX2.out.bx.c1
    have y2 := HX2.out.bx.c2
    have y3 := HX2.out.bx.c3
    have y4 := HX2.out.bx.c4
    have y5 := HX2.out.bx.c5
    have y6 := HX2.out.bx.c6
    have b4 := (Below.refl W2.heap.size W2).alloc (Nat.le_refl _) (.cells #[.int .i64 a, .int .i64 p, .slice a0 n0 k0, .slice a1 n1 k1, .slice a2 n2 k2, .slice a3 n3 k3, .slice a4 n4 k4] 68)
    have HX4 := hid (HX2.out.below b4)
    have s2 : (W2.alloc (.cells #[.int .i64 a, .int .i64 p, .slice a0 n0 k0, .slice a1 n1 k1, .slice a2 n2 k2, .slice a3 n3 k3, .slice a4 n4 k4] 68)).cell? ⟨W2.heap.size, 2, none⟩ = some (.slice a0 n0 k0) := World.cell?_alloc_at _ _ _ _ rfl
    have s3 : (W2.alloc (.cells #[.int .i64 a, .int .i64 p, .slice a0 n0 k0, .slice a1 n1 k1, .slice a2 n2 k2, .slice a3 n3 k3, .slice a4 n4 k4] 68)).cell? ⟨W2.heap.size, 3, none⟩ = some (.slice a1 n1 k1) := World.cell?_alloc_at _ _ _ _ rfl
    have HS2 := hid s2
    have HS3 := hid s3
    have d0 := HX4.out.d0
    have d1 := HX4.out.d1
    clear b4 s2 s3
    go_wp2_with fail
    generalize W2.alloc (.cells #[.int .i64 a, .int .i64 p, .slice a0 n0 k0, .slice a1 n1 k1, .slice a2 n2 k2, .slice a3 n3 k3, .slice a4 n4 k4] 68) = W4 at *
    clear y0 y1 y2 y3 y4 y5 y6 d0 d1
    refine (HLo.out _ W4 HX4.out.bx.b0 HS2.out HS3.out).mono ?_
    rintro e W5 ⟨V, rfl, iV, nV, b5⟩
    have HX5 := hid (HX4.out.below b5)
    have HIV := hid iV
    have HNV := hid nV
    have hz5 := HX5.out.bx.b0.size
    clear iV nV b5 HS2 HS3 HX4
    go_wp2_with fail
    refine (clone xs V _ W5 HIV.out HNV.out (by omega)).mono ?_
    rintro e W6 ⟨v', rfl, o6, b6⟩
    have HO := hid (o6.lo hz5)
    have HB6 := hid (HX5.out.bx.b0.trans (b6.mono hz5))
    clear o6 b6
    go_wp2
    go_ret
    exact ⟨_, rfl, HO.out, HB6.out⟩

theorem specBedC (pb k : Nat) (b : Int) (f : Value) (W : World) (hb : (b = 1 ∧ k = 2) ∨ (b = 2 ∧ k = 3)) (c2 : W.cell? ⟨pb, k, none⟩ = some f) :
    Calls Try.prog 90 #[.pointer (some ⟨pb, 0, none⟩), .int .i64 b] W fun e w' => e = .returned f ∧ w' = W := by
  rcases hb with ⟨rfl, rfl⟩ | ⟨rfl, rfl⟩
  · go_enter Try.func90, Try.ntmps90
    go_wp2
    go_ret
    exact ⟨rfl, rfl⟩
  · go_enter Try.func90, Try.ntmps90
    go_wp2
    go_ret
    exact ⟨rfl, rfl⟩
set_option maxRecDepth 100000 in
set_option maxHeartbeats 2000000 in
theorem specOnB (pb k : Nat) (b : Int) (j : Nat) (g off n cap : Nat) (V : Value) (w : World) (hb : (b = 1 ∧ k = 2) ∨ (b = 2 ∧ k = 3)) (c2 : w.cell? ⟨pb, k, none⟩ = some (.slice (some ⟨g, off, none⟩) n cap)) (cV : w.cell? ⟨g, off + j, none⟩ = some V) (hj : j < n) (hn : n ≤ 1048576) :
    Calls Try.prog 55 #[.pointer (some ⟨pb, 0, none⟩), .agg #[.int .i64 b, .int .i64 j]] w fun e w' => e = .returned V ∧ Below w.heap.size w w' := by
  have hN := specBedC pb k b (.slice (some ⟨g, off, none⟩) n cap)
  have b1 := (Below.refl w.heap.size w).alloc (Nat.le_refl _) (.cells #[.int .i64 b, .int .i64 j] 31)
  have d0 : (w.alloc (.cells #[.int .i64 b, .int .i64 j] 31)).cell? ⟨w.heap.size, 0, none⟩ = some (.int .i64 b) := World.cell?_alloc_at _ _ _ _ rfl
  have d1 : (w.alloc (.cells #[.int .i64 b, .int .i64 j] 31)).cell? ⟨w.heap.size, 1, none⟩ = some (.int .i64 j) := World.cell?_alloc_at _ _ _ _ rfl
  have y2 := (b1.cell (p := ⟨pb, k, none⟩) (World.block_lt_of_cell? w _ c2)).trans c2
  have yV := (b1.cell (p := ⟨g, off + j, none⟩) (World.block_lt_of_cell? w _ cV)).trans cV
  have HB := hid b1
  have HN : Hid (∀ W, W.cell? ⟨pb, k, none⟩ = some (.slice (some ⟨g, off, none⟩) n cap) → Calls Try.prog 90 #[.pointer (some ⟨pb, 0, none⟩), .int .i64 b] W fun e w' => e = .returned (.slice (some ⟨g, off, none⟩) n cap) ∧ w' = W) := hid fun W h => hN W hb h
  have hjn : (j : Int) < (n : Int) := by omega
  clear hN b1 c2 cV hb
  go_enter Try.func55, Try.ntmps55
  go_wp2
  generalize w.alloc (.cells #[.int .i64 b, .int .i64 j] 31) = W1 at *
  go_quiet ((go_at_call 90; exact Calls.quiet_of_same (HN.out _ (by exact y2))))
  go_wp2
  go_ret
  exact ⟨rfl, bdrewN HB.out _⟩

theorem specOnC (pb : Nat) (m : Mch) (b : Int) (j : Nat) (f0 f1 f2 f3 f4 : Value) (B : Nat) (w : World) (ha : MInC w B f0 f1 f2 f3 f4 m) (hq : Small m) (c2 : w.cell? ⟨pb, 2, none⟩ = some f0) (c3 : w.cell? ⟨pb, 3, none⟩ = some f1) (hb : b = 1 ∨ b = 2) (h0 : j < m.fr.length) (h1 : j < m.bk.length) :
    Calls Try.prog 55 #[.pointer (some ⟨pb, 0, none⟩), .agg #[.int .i64 b, .int .i64 j]] w fun e w' => ∃ V, e = .returned V ∧ Ints w' B V (onW m b j) ∧ NilOk V ∧ Below w.heap.size w w' := by
  obtain ⟨lo, hi, hB, hh, p1, p2, p3, p4, e0, e1, e2, e3, e4, o0, o1, o2, o3, o4⟩ := ha
  rcases hb with rfl | rfl
  · obtain ⟨g, off, cap, V, rfl, hg, cV, iV, nV, _⟩ := row_at o0 j h0
    refine (specOnB pb 2 1 j g off _ cap V w (.inl ⟨rfl, rfl⟩) c2 cV h0 hq.s0.1).mono ?_
    rintro e w' ⟨rfl, b⟩
    exact ⟨V, rfl, by simpa [onW] using (iV.mono (by omega)).chg (Chg.ofBelow (lo := 0) b) (.inr (Nat.zero_le _)), nV, b⟩
  · obtain ⟨g, off, cap, V, rfl, hg, cV, iV, nV, _⟩ := row_at o1 j h1
    refine (specOnB pb 3 2 j g off _ cap V w (.inr ⟨rfl, rfl⟩) c3 cV h1 hq.s1.1).mono ?_
    rintro e w' ⟨rfl, b⟩
    exact ⟨V, rfl, by simpa [onW] using (iV.mono (by omega)).chg (Chg.ofBelow (lo := 0) b) (.inr (Nat.zero_le _)), nV, b⟩
theorem ownC (xs : List Int) (v : Value) (B : Nat) (w : World) (ha : Ints w B v xs) (hnil : NilOk v) (hn : xs.length ≤ 1099511627776) :
    Calls Try.prog 54 #[v] w fun e w' => ∃ v', e = .returned v' ∧ Own w' w.heap.size w'.heap.size v' xs ∧ Below w.heap.size w w' := by
  have ha2 : Ints (w.alloc (.cells #[] 2)) B v xs := ha.chg (Chg.ofBelow (lo := 0) ((Below.refl w.heap.size w).alloc (Nat.le_refl _) _)) (.inr (Nat.zero_le _))
  go_enter Try.func54, Try.ntmps54
  go_wp2_with (at_builtin; refine wp_appendAll rfl _ _ rfl w.heap.size _ _ [] (Own.built w #[] rfl) rfl v xs B ha2 hnil rfl (by simp) (by simp; omega) ?_; intro v' w1 o1 c1)
  go_ret
  refine ⟨v', rfl, by simpa using o1, ?_⟩
  exact ((Below.refl w.heap.size w).alloc (Nat.le_refl _) (.cells #[] 2)).trans (c1.below (B := w.heap.size) (by omega) (by simp))

set_option maxRecDepth 100000 in
set_option maxHeartbeats 2000000 in
theorem specLo (a p : Int) (m : Mch) (b t : Int) (f0 f1 f2 f3 f4 : Value) (B : Nat) (w : World) (ha : MInC w B f0 f1 f2 f3 f4 m) (hB : B ≤ w.heap.size) (hq : Small m) :
    Calls Try.prog 18 #[.agg #[.int .i64 a, .int .i64 p, f0, f1, f2, f3, f4], .agg #[.int .i64 b, .int .i64 t]] w fun e w' => ∃ v', e = .returned v' ∧ Own w' w.heap.size w'.heap.size v' (onL a p m b t) ∧ Below w.heap.size w w' := by
  have HV := hid (fun W (h : Below w.heap.size w W) (hx : Bx w W w.heap.size a p f0 f1 f2 f3 f4) => specOkC a p m f0 f1 f2 f3 f4 B w.heap.size w W (ha.below h) hq hx)
  have HA := hid (fun W (h : Below w.heap.size w W) => ha.below h)
  have HQ := hid hq
  have HPa := hid (fun h => @hasN_parts a p b t m h)
  have HVn := hid (fun W => nd.specNeedle b t W)
  obtain ⟨h, hh⟩ : ∃ u, u = hasN a p m b t := ⟨_, rfl⟩
  obtain ⟨xs, hxs⟩ : ∃ xs, xs = onL a p m b t := ⟨_, rfl⟩
  rw [← hxs]
  unfold onL at hxs
  rw [← hh] at hxs HPa
  have HX1 := hid hxs
  unfold hasN at hh
  obtain ⟨u, hu⟩ : ∃ u, u = okM a p m := ⟨_, rfl⟩
  obtain ⟨v, hv⟩ : ∃ u, u = nd.validB b t := ⟨_, rfl⟩
  obtain ⟨z, hz⟩ : ∃ u, u = decide (t < a) := ⟨_, rfl⟩
  rw [← hu, ← hv, ← hz] at hh
  rw [← hu] at HV
  rw [← hv] at HVn
  have hz2 : decide (a ≤ t) = !z := by rw [hz]; by_cases h : t < a <;> simp [h] <;> omega
  have HH := hid hh
  obtain ⟨⟨a0, k0, rfl⟩, ⟨a1, k1, rfl⟩, ⟨a2, k2, rfl⟩, ⟨a3, k3, rfl⟩, ⟨a4, k4, rfl⟩⟩ := ha.vals
  clear ha hq hxs hu hv hz hh
  obtain ⟨n0, e0⟩ : ∃ n, n = m.fr.length := ⟨_, rfl⟩
  obtain ⟨n1, e1⟩ : ∃ n, n = m.bk.length := ⟨_, rfl⟩
  rw [← e0, ← e1] at HV HA ⊢
  clear e0 e1
  generalize m.cs.length = n2 at *
  generalize m.ls.length = n3 at *
  generalize m.dr.length = n4 at *
  have HX := hid (fd_new w a p b t (.slice a0 n0 k0) (.slice a1 n1 k1) (.slice a2 n2 k2) (.slice a3 n3 k3) (.slice a4 n4 k4))
  go_enter Try.func18, Try.ntmps18
  go_wp2_with fail
  generalize ((w.alloc (.cells #[.int .i64 a, .int .i64 p, .slice a0 n0 k0, .slice a1 n1 k1, .slice a2 n2 k2, .slice a3 n3 k3, .slice a4 n4 k4] 37)).alloc (.cells #[.int .i64 b, .int .i64 t] 31)) = W1 at *
  refine (HV.out W1 HX.out.bx.b0 HX.out.bx).mono ?_
  rintro e W2 ⟨rfl, b2⟩
  have HX2 := hid (HX.out.below b2)
  clear b2 HX HV
  cases u with
  | false =>
    obtain rfl : h = false := by rw [HH.out]; rfl
    obtain rfl : xs = [] := HX1.out
    go_wp2
    go_ret
    exact ⟨_, rfl, (Own.nil W2 w.heap.size), HX2.out.bx.b0⟩
  | true =>
    have d0 := HX2.out.d0
    have d1 := HX2.out.d1
    go_wp2_with fail
    clear d0 d1
    refine (HVn.out W2).mono ?_
    rintro e W3 ⟨rfl, b3⟩
    have HX3 := hid (HX2.out.below b3)
    clear b3 HX2 HVn
    have d0 := HX3.out.d0
    have d1 := HX3.out.d1
    have y0 := HX3.out.bx.c0
    cases v with
    | false =>
      obtain rfl : h = false := by rw [HH.out]; rfl
      obtain rfl : xs = [] := HX1.out
      go_wp2
      go_ret
      exact ⟨_, rfl, (Own.nil W3 w.heap.size), HX3.out.bx.b0⟩
    | true =>
      cases z with
      | false =>
        obtain rfl : h = false := by rw [HH.out]; rfl
        obtain rfl : xs = [] := HX1.out
        go_wp2
        go_ret
        exact ⟨_, rfl, (Own.nil W3 w.heap.size), HX3.out.bx.b0⟩
      | true =>
        obtain rfl : h = true := by rw [HH.out]; rfl
        obtain ⟨hok, hb1, hb2, ht0, ht1, hta⟩ := HPa.out rfl
        obtain ⟨j, rfl⟩ := Int.eq_ofNat_of_zero_le ht0
        have hl0 : j < m.fr.length := by have := (stk_parts hok.fr).1; omega
        have hl1 : j < m.bk.length := by have := (stk_parts hok.bk).1; omega
        have hol := onW_len hok b j
        have E : xs = onW m b j := HX1.out
        rw [← E] at hol
        have hbb : b = 1 ∨ b = 2 := by omega
        have HLo := hid (fun (pb : Nat) (W : World) (h : Below w.heap.size w W) c2 c3 => specOnC pb m b j (.slice a0 n0 k0) (.slice a1 n1 k1) (.slice a2 n2 k2) (.slice a3 n3 k3) (.slice a4 n4 k4) B W (HA.out W h) HQ.out c2 c3 hbb hl0 hl1)
        rw [← E] at HLo
        clear hok hb1 hb2 ht0 ht1 hta hl0 hl1 E HX1 HPa HA hbb HH
        go_wp2_with fail
        clear d0 d1 y0
        refine (HLo.out _ W3 HX3.out.bx.b0 HX3.out.bx.c2 HX3.out.bx.c3).mono ?_
        rintro e W5 ⟨V, rfl, iV, nV, b5⟩
        have HX5 := hid (HX3.out.below b5)
        have HIV := hid iV
        have HNV := hid nV
        have hz5 := HX5.out.bx.b0.size
        clear iV nV b5 HX3
        go_wp2_with fail
        refine (ownC xs V _ W5 HIV.out HNV.out (by omega)).mono ?_
        rintro e W6 ⟨v', rfl, o6, b6⟩
        have HO := hid (o6.lo hz5)
        have HB6 := hid (HX5.out.bx.b0.trans (b6.mono hz5))
        clear o6 b6
        go_wp2
        go_ret
        exact ⟨_, rfl, HO.out, HB6.out⟩
end Go.Proofs.Ytfechjhngcmdpaa.mc
