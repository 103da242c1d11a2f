/-
  hasNeedle and needleAt of the program.
-/
import Derived.Test.YtfechjhngcmdpaaVmp
namespace Go.Proofs.Ytfechjhngcmdpaa.mc
open Go.RowKit Go.Sort Go.Proofs.Ytfechjhngcmdpaa.sl Go.Proofs.Ytfechjhngcmdpaa.br Go.Proofs.Ytfechjhngcmdpaa.fn Go.Proofs.Ytfechjhngcmdpaa.ss
set_option linter.unusedVariables false
set_option linter.unusedSimpArgs false

def hasN (a p : Int) (m : Mch) (b t : Int) : Bool := okM a p m && (nd.validB b t && decide (t < a))
theorem hasN_parts {a p b t : Int} {m : Mch} (h : hasN a p m b t = true) : OkM a p m ∧ 1 ≤ b ∧ b ≤ 2 ∧ 0 ≤ t ∧ t ≤ 23 ∧ t < a := by
  simp only [hasN, Bool.and_eq_true, decide_eq_true_eq] at h
  have := valid_parts h.2.1
  exact ⟨okM_parts h.1, this.1, this.2.1, this.2.2.1, this.2.2.2, h.2.2⟩

set_option maxRecDepth 100000 in
set_option maxHeartbeats 2000000 in
theorem implHas (a p : Int) (m : Mch) (b t : Int) (f0 f1 f2 f3 f4 : Value) (B : Nat) (w : World) (ha : MInC w B f0 f1 f2 f3 f4 m) (hB : B ≤ w.heap.size) (hq : Small m) :
    Calls Try.prog 47 #[.agg #[.int .i64 a, .int .i64 p, f0, f1, f2, f3, f4], .agg #[.int .i64 b, .int .i64 t]] w fun e w' => e = .returned (.bool (hasN a p m b t)) ∧ Below w.heap.size w w' := by
  have HV := hid (fun W (h : Below w.heap.size w W) => implVM a p m f0 f1 f2 f3 f4 B W (ha.below h) (Nat.le_trans hB h.size) hq)
  obtain ⟨⟨a0, k0, rfl⟩, ⟨a1, k1, rfl⟩, ⟨a2, k2, rfl⟩, ⟨a3, k3, rfl⟩, ⟨a4, k4, rfl⟩⟩ := ha.vals
  have HVn := hid (fun W => nd.implValid b t W)
  obtain ⟨q, hqq⟩ : ∃ q, q = hasN a p m b t := ⟨_, rfl⟩
  rw [← hqq]
  unfold hasN at hqq
  have HQ := hid hqq
  clear ha hq hqq
  generalize okM a p m = u at *
  generalize nd.validB b t = v at *
  generalize m.fr.length = n0 at *
  generalize m.bk.length = n1 at *
  generalize m.cs.length = n2 at *
  generalize m.ls.length = n3 at *
  generalize m.dr.length = n4 at *
  have HX0 := bx_new w 37 a p (.slice a0 n0 k0) (.slice a1 n1 k1) (.slice a2 n2 k2) (.slice a3 n3 k3) (.slice a4 n4 k4)
  have b1 := (Below.refl (w.alloc (.cells #[.int .i64 a, .int .i64 p, .slice a0 n0 k0, .slice a1 n1 k1, .slice a2 n2 k2, .slice a3 n3 k3, .slice a4 n4 k4] 37)).heap.size _).alloc (Nat.le_refl _) (.cells #[.int .i64 b, .int .i64 t] 31)
  have HX := hid (HX0.below b1)
  have hsz : (w.alloc (.cells #[.int .i64 a, .int .i64 p, .slice a0 n0 k0, .slice a1 n1 k1, .slice a2 n2 k2, .slice a3 n3 k3, .slice a4 n4 k4] 37)).heap.size = w.heap.size + 1 := by simp
  have HD0 : Hid (((w.alloc (.cells #[.int .i64 a, .int .i64 p, .slice a0 n0 k0, .slice a1 n1 k1, .slice a2 n2 k2, .slice a3 n3 k3, .slice a4 n4 k4] 37)).alloc (.cells #[.int .i64 b, .int .i64 t] 31)).cell? ⟨w.heap.size + 1, 0, none⟩ = some (.int .i64 b)) := hid (World.cell?_alloc_at _ _ _ _ hsz.symm)
  have HD1 : Hid (((w.alloc (.cells #[.int .i64 a, .int .i64 p, .slice a0 n0 k0, .slice a1 n1 k1, .slice a2 n2 k2, .slice a3 n3 k3, .slice a4 n4 k4] 37)).alloc (.cells #[.int .i64 b, .int .i64 t] 31)).cell? ⟨w.heap.size + 1, 1, none⟩ = some (.int .i64 t)) := hid (World.cell?_alloc_at _ _ _ _ hsz.symm)
  have hlt : w.heap.size + 1 < ((w.alloc (.cells #[.int .i64 a, .int .i64 p, .slice a0 n0 k0, .slice a1 n1 k1, .slice a2 n2 k2, .slice a3 n3 k3, .slice a4 n4 k4] 37)).alloc (.cells #[.int .i64 b, .int .i64 t] 31)).heap.size := by simp
  clear b1 HX0 hsz
  go_enter Try.func47, Try.ntmps47
  go_wp2_with fail
  generalize ((w.alloc (.cells #[.int .i64 a, .int .i64 p, .slice a0 n0 k0, .slice a1 n1 k1, .slice a2 n2 k2, .slice a3 n3 k3, .slice a4 n4 k4] 37)).alloc (.cells #[.int .i64 b, .int .i64 t] 31)) = W1 at *
  refine (HV.out W1 HX.out.b0).mono ?_
  rintro e W2 ⟨rfl, b2⟩
  have HX2 := hid (HX.out.below b2)
  have HE0 := hid ((b2.cell (p := ⟨w.heap.size + 1, 0, none⟩) hlt).trans HD0.out)
  have HE1 := hid ((b2.cell (p := ⟨w.heap.size + 1, 1, none⟩) hlt).trans HD1.out)
  have hlt2 : w.heap.size + 1 < W2.heap.size := Nat.lt_of_lt_of_le hlt b2.size
  clear b2 HX HD0 HD1 hlt HV
  cases u with
  | false =>
    have HF : Hid (q = false) := hid (by rw [HQ.out]; rfl)
    go_wp2
    go_ret
    exact ⟨by rw [HF.out]; rfl, HX2.out.b0⟩
  | true =>
    have d0 := HE0.out
    have d1 := HE1.out
    go_wp2_with fail
    clear d0 d1
    refine (HVn.out W2).mono ?_
    rintro e W3 ⟨rfl, b3⟩
    have HX3 := hid (HX2.out.below b3)
    have d0 := (b3.cell (p := ⟨w.heap.size + 1, 0, none⟩) hlt2).trans HE0.out
    have d1 := (b3.cell (p := ⟨w.heap.size + 1, 1, none⟩) hlt2).trans HE1.out
    clear b3 HX2 HE0 HE1
    cases v with
    | false =>
      have HF : Hid (q = false) := hid (by rw [HQ.out]; rfl)
      go_wp2
      go_ret
      exact ⟨by rw [HF.out]; rfl, HX3.out.b0⟩
    | true =>
      have y0 := HX3.out.c0
      have HF : Hid (q = decide (t < a)) := hid (by rw [HQ.out]; rfl)
      obtain ⟨z, hz⟩ : ∃ z, decide (t < a) = z := ⟨_, rfl⟩
      rw [hz] at HF
      cases z with
      | false =>
        go_wp2
        go_ret
        exact ⟨by rw [HF.out]; first | rfl | simp, HX3.out.b0⟩
      | true =>
        go_wp2
        go_ret
        exact ⟨by rw [HF.out]; first | rfl | simp, HX3.out.b0⟩

/-! ### needleAt -/
def atT (p b x : Int) : Int := if b = 2 then x - p else x
def atOk (a p b x : Int) : Bool := inB 0 (a - 1) (atT p b x)
def atB (a p b x : Int) : Int := if atOk a p b x = true then b else 0
def atA (a p b x : Int) : Int := if atOk a p b x = true then atT p b x else 0

/-- What needleAt reads: the state's box, its own needle, its result. -/
structure NA (w W : World) (pb : Nat) (a p b x : Int) : Prop where
  sz : w.heap.size + 2 ≤ W.heap.size
  y0 : W.cell? ⟨pb, 0, none⟩ = some (.int .i64 a)
  y1 : W.cell? ⟨pb, 1, none⟩ = some (.int .i64 p)
  d0 : W.cell? ⟨w.heap.size + 1, 0, none⟩ = some (.int .i64 b)
  d1 : W.cell? ⟨w.heap.size + 1, 1, none⟩ = some (.int .i64 x)
  e0 : W.frozen? ⟨w.heap.size + 1, 0, none⟩ = false
  e1 : W.frozen? ⟨w.heap.size + 1, 1, none⟩ = false
  r0 : W.cell? ⟨w.heap.size, 0, none⟩ = some (.int .i64 0)
  r1 : W.cell? ⟨w.heap.size, 1, none⟩ = some (.int .i64 0)
  g0 : W.frozen? ⟨w.heap.size, 0, none⟩ = false
  g1 : W.frozen? ⟨w.heap.size, 1, none⟩ = false
  bel : Below w.heap.size w W
theorem NA.drewN {w W : World} {pb : Nat} {a p b x : Int} (h : NA w W pb a p b x) (n : Nat) : NA w (W.drewN n) pb a p b x :=
  ⟨h.sz, h.y0, h.y1, h.d0, h.d1, h.e0, h.e1, h.r0, h.r1, h.g0, h.g1, bdrewN h.bel n⟩
theorem NA.set {w W : World} {pb : Nat} {a p b x : Int} (h : NA w W pb a p b x) (hp : pb < w.heap.size) (y : Int) : NA w (W.setCell ⟨w.heap.size + 1, 1, none⟩ (.int .i64 y)) pb a p b y := by
  have n1 : ∀ (g i : Nat), g < w.heap.size + 1 → (W.setCell ⟨w.heap.size + 1, 1, none⟩ (.int .i64 y)).cell? ⟨g, i, none⟩ = W.cell? ⟨g, i, none⟩ := fun g i hg => World.cell?_setCell_other _ _ _ _ (by intro e; injection e with e1; omega)
  have n2 : ∀ a', (W.setCell ⟨w.heap.size + 1, 1, none⟩ (.int .i64 y)).frozen? a' = W.frozen? a' := fun a' => World.frozen?_setCell _ _ _ _
  exact ⟨by simpa using h.sz, (n1 _ _ (by omega)).trans h.y0, (n1 _ _ (by omega)).trans h.y1, (ss.other_at (by omega)).trans h.d0, ss.same_at h.d1, (n2 _).trans h.e0, (n2 _).trans h.e1, (n1 _ _ (by omega)).trans h.r0, (n1 _ _ (by omega)).trans h.r1, (n2 _).trans h.g0, (n2 _).trans h.g1, h.bel.setCell (by simp) _⟩
theorem na_new (w : World) (pb : Nat) (a p b x : Int) (h0 : w.cell? ⟨pb, 0, none⟩ = some (.int .i64 a)) (h1 : w.cell? ⟨pb, 1, none⟩ = some (.int .i64 p)) :
    NA w ((w.alloc (.cells #[.int .i64 0, .int .i64 0] 31)).alloc (.cells #[.int .i64 b, .int .i64 x] 31)) pb a p b x := by
  have b0 := (Below.refl w.heap.size w).alloc (Nat.le_refl _) (.cells #[.int .i64 0, .int .i64 0] 31)
  have b1 := (Below.refl (w.alloc (.cells #[.int .i64 0, .int .i64 0] 31)).heap.size (w.alloc (.cells #[.int .i64 0, .int .i64 0] 31))).alloc (Nat.le_refl _) (.cells #[.int .i64 b, .int .i64 x] 31)
  have e : (w.alloc (.cells #[.int .i64 0, .int .i64 0] 31)).heap.size = w.heap.size + 1 := by simp
  have bb := b0.trans (b1.mono b0.size)
  exact ⟨by simp, (bb.cell (p := ⟨pb, 0, none⟩) (World.block_lt_of_cell? w _ h0)).trans h0, (bb.cell (p := ⟨pb, 1, none⟩) (World.block_lt_of_cell? w _ h1)).trans h1,
    World.cell?_alloc_at _ _ _ _ e.symm, World.cell?_alloc_at _ _ _ _ e.symm, World.frozen?_alloc_at _ _ _ _ e.symm, World.frozen?_alloc_at _ _ _ _ e.symm,
    (b1.cell (p := ⟨w.heap.size, 0, none⟩) (by simp)).trans (World.cell?_alloc_at _ _ _ _ rfl), (b1.cell (p := ⟨w.heap.size, 1, none⟩) (by simp)).trans (World.cell?_alloc_at _ _ _ _ rfl),
    (b1.frozen (p := ⟨w.heap.size, 0, none⟩) (by simp)).trans (World.frozen?_alloc_at _ _ _ _ rfl), (b1.frozen (p := ⟨w.heap.size, 1, none⟩) (by simp)).trans (World.frozen?_alloc_at _ _ _ _ rfl), bb⟩

set_option maxRecDepth 100000 in
set_option maxHeartbeats 2000000 in
theorem needleAt1 (pb : Nat) (a p x : Int) (w : World) (h0 : w.cell? ⟨pb, 0, none⟩ = some (.int .i64 a)) (h1 : w.cell? ⟨pb, 1, none⟩ = some (.int .i64 p)) (ha : 1 ≤ a ∧ a ≤ 24) (hx : -100 ≤ x ∧ x ≤ 100) :
    Calls Try.prog 48 #[.pointer (some ⟨pb, 0, none⟩), .int .i64 1, .int .i64 x] w fun e w' => e = .returned (.tuple #[.agg #[.int .i64 (atB a p 1 x), .int .i64 (atA a p 1 x)], .bool (atOk a p 1 x)]) ∧ Below w.heap.size w w' := by
  obtain ⟨ha0, ha1⟩ := ha
  have hwa : IntKind.i64.wrap (a - 1) = a - 1 := IntWalk.i64_in _ (by omega)
  have HN := hid (na_new w pb a p 1 x h0 h1)
  obtain ⟨q, hq⟩ : ∃ q, inB 0 (a - 1) x = q := ⟨_, rfl⟩
  have HR : Hid (atOk a p 1 x = q) := hid (by rw [← hq]; rfl)
  have HI := hid (fun W => show Calls Try.prog 86 #[.int .i64 x, .int .i64 0, .int .i64 (a - 1)] W fun e w' => e = .returned (.bool q) ∧ w' = W from (nd.within64 _ _ _ W).mono fun _ _ h => ⟨by rw [h.1, ← hq]; rfl, h.2.symm⟩)
  have HA : Hid ((q = true → atB a p 1 x = 1 ∧ atA a p 1 x = x) ∧ (q = false → atB a p 1 x = 0 ∧ atA a p 1 x = 0)) := hid ⟨fun h => ⟨by simp [atB, HR.out, h], by simp [atA, HR.out, h, atT]⟩, fun h => ⟨by simp [atB, HR.out, h], by simp [atA, HR.out, h]⟩⟩
  rw [HR.out]
  clear hq h0 h1 HR
  cases q with
  | false =>
    rw [(HA.out.2 rfl).1, (HA.out.2 rfl).2]
    go_enter Try.func48, Try.ntmps48
    go_wp2
    generalize (w.alloc (.cells #[.int .i64 0, .int .i64 0] 31)).alloc (.cells #[.int .i64 1, .int .i64 x] 31) = W1 at *
    have y0 := HN.out.y0
    have d1 := HN.out.d1
    have r0 := HN.out.r0
    have r1 := HN.out.r1
    have g0 := HN.out.g0
    have g1 := HN.out.g1
    go_quiet ((go_at_call 86; exact Calls.quiet_of_same (HI.out _)))
    go_wp2
    refine bodyPost_ret (v := .tuple #[.agg #[.int .i64 0, .int .i64 0], .bool false]) (by simp [results, Try.results48, go_sem, r0, r1]) rfl ⟨rfl, ?_⟩
    exact ((bdrewN HN.out.bel _).setCell (by simp) _).setCell (by simp) _
  | true =>
    rw [(HA.out.1 rfl).1, (HA.out.1 rfl).2]
    go_enter Try.func48, Try.ntmps48
    go_wp2
    generalize (w.alloc (.cells #[.int .i64 0, .int .i64 0] 31)).alloc (.cells #[.int .i64 1, .int .i64 x] 31) = W1 at *
    have y0 := HN.out.y0
    have d0 := HN.out.d0
    have d1 := HN.out.d1
    have r0 := HN.out.r0
    have r1 := HN.out.r1
    have g0 := HN.out.g0
    have g1 := HN.out.g1
    go_quiet ((go_at_call 86; exact Calls.quiet_of_same (HI.out _)))
    go_wp2
    refine bodyPost_ret (v := .tuple #[.agg #[.int .i64 1, .int .i64 x], .bool true]) (by simp [results, Try.results48, go_sem, r0, r1]) rfl ⟨rfl, ?_⟩
    exact ((bdrewN HN.out.bel _).setCell (by simp) _).setCell (by simp) _

set_option maxRecDepth 100000 in
set_option maxHeartbeats 2000000 in
theorem needleAt2 (pb : Nat) (a p x : Int) (w : World) (h0 : w.cell? ⟨pb, 0, none⟩ = some (.int .i64 a)) (h1 : w.cell? ⟨pb, 1, none⟩ = some (.int .i64 p)) (ha : 1 ≤ a ∧ a ≤ 24) (hp : -3 ≤ p ∧ p ≤ 3) (hx : -100 ≤ x ∧ x ≤ 100) :
    Calls Try.prog 48 #[.pointer (some ⟨pb, 0, none⟩), .int .i64 2, .int .i64 x] w fun e w' => e = .returned (.tuple #[.agg #[.int .i64 (atB a p 2 x), .int .i64 (atA a p 2 x)], .bool (atOk a p 2 x)]) ∧ Below w.heap.size w w' := by
  have hpl : pb < w.heap.size := World.block_lt_of_cell? w _ h0
  obtain ⟨ha0, ha1⟩ := ha
  obtain ⟨hp0, hp1⟩ := hp
  obtain ⟨hx0, hx1⟩ := hx
  have hwa : IntKind.i64.wrap (a - 1) = a - 1 := IntWalk.i64_in _ (by omega)
  have hwx : IntKind.i64.wrap (x - p) = x - p := IntWalk.i64_in _ (by omega)
  have HN := hid (na_new w pb a p 2 x h0 h1)
  obtain ⟨q, hq⟩ : ∃ q, inB 0 (a - 1) (x - p) = q := ⟨_, rfl⟩
  have HR : Hid (atOk a p 2 x = q) := hid (by rw [← hq]; simp [atOk, atT])
  have HI := hid (fun W => show Calls Try.prog 86 #[.int .i64 (x - p), .int .i64 0, .int .i64 (a - 1)] W fun e w' => e = .returned (.bool q) ∧ w' = W from (nd.within64 _ _ _ W).mono fun _ _ h => ⟨by rw [h.1, ← hq]; rfl, h.2.symm⟩)
  have HA : Hid ((q = true → atB a p 2 x = 2 ∧ atA a p 2 x = x - p) ∧ (q = false → atB a p 2 x = 0 ∧ atA a p 2 x = 0)) := hid ⟨fun h => ⟨by simp [atB, HR.out, h], by simp [atA, HR.out, h, atT]⟩, fun h => ⟨by simp [atB, HR.out, h], by simp [atA, HR.out, h]⟩⟩
  rw [HR.out]
  clear hq h0 h1 HR
  cases q with
  | false =>
    rw [(HA.out.2 rfl).1, (HA.out.2 rfl).2]
    go_enter Try.func48, Try.ntmps48
    go_wp2
    generalize (w.alloc (.cells #[.int .i64 0, .int .i64 0] 31)).alloc (.cells #[.int .i64 2, .int .i64 x] 31) = W1 at *
    have y1 := HN.out.y1
    have d1 := HN.out.d1
    have e1 := HN.out.e1
    go_region
    have HN2 : Hid (NA w (W1.setCell ⟨w.heap.size + 1, 1, none⟩ (.int .i64 (x - p))).drew pb a p 2 (x - p)) := hid ((HN.out.set hpl (x - p)).drewN 1)
    clear y1 d1 e1
    generalize (W1.setCell ⟨w.heap.size + 1, 1, none⟩ (.int .i64 (x - p))).drew = W2 at *
    have y0 := HN2.out.y0
    have d0 := HN2.out.d0
    have d1 := HN2.out.d1
    have r0 := HN2.out.r0
    have r1 := HN2.out.r1
    have g0 := HN2.out.g0
    have g1 := HN2.out.g1
    go_wp2
    go_quiet ((go_at_call 86; exact Calls.quiet_of_same (HI.out _)))
    go_wp2
    refine bodyPost_ret (v := .tuple #[.agg #[.int .i64 0, .int .i64 0], .bool false]) (by simp [results, Try.results48, go_sem, r0, r1]) rfl ⟨rfl, ?_⟩
    exact ((bdrewN HN2.out.bel _).setCell (by simp) _).setCell (by simp) _
  | true =>
    rw [(HA.out.1 rfl).1, (HA.out.1 rfl).2]
    go_enter Try.func48, Try.ntmps48
    go_wp2
    generalize (w.alloc (.cells #[.int .i64 0, .int .i64 0] 31)).alloc (.cells #[.int .i64 2, .int .i64 x] 31) = W1 at *
    have y1 := HN.out.y1
    have d1 := HN.out.d1
    have e1 := HN.out.e1
    go_region
    have HN2 : Hid (NA w (W1.setCell ⟨w.heap.size + 1, 1, none⟩ (.int .i64 (x - p))).drew pb a p 2 (x - p)) := hid ((HN.out.set hpl (x - p)).drewN 1)
    clear y1 d1 e1
    generalize (W1.setCell ⟨w.heap.size + 1, 1, none⟩ (.int .i64 (x - p))).drew = W2 at *
    have y0 := HN2.out.y0
    have d0 := HN2.out.d0
    have d1 := HN2.out.d1
    have r0 := HN2.out.r0
    have r1 := HN2.out.r1
    have g0 := HN2.out.g0
    have g1 := HN2.out.g1
    go_wp2
    go_quiet ((go_at_call 86; exact Calls.quiet_of_same (HI.out _)))
    go_wp2
    refine bodyPost_ret (v := .tuple #[.agg #[.int .i64 2, .int .i64 (x - p)], .bool true]) (by simp [results, Try.results48, go_sem, r0, r1]) rfl ⟨rfl, ?_⟩
    exact ((bdrewN HN2.out.bel _).setCell (by simp) _).setCell (by simp) _

theorem needleAtC (pb : Nat) (a p b x : Int) (w : World) (h0 : w.cell? ⟨pb, 0, none⟩ = some (.int .i64 a)) (h1 : w.cell? ⟨pb, 1, none⟩ = some (.int .i64 p)) (ha : 1 ≤ a ∧ a ≤ 24) (hp : -3 ≤ p ∧ p ≤ 3) (hb : b = 1 ∨ b = 2) (hx : -100 ≤ x ∧ x ≤ 100) :
    Calls Try.prog 48 #[.pointer (some ⟨pb, 0, none⟩), .int .i64 b, .int .i64 x] w fun e w' => e = .returned (.tuple #[.agg #[.int .i64 (atB a p b x), .int .i64 (atA a p b x)], .bool (atOk a p b x)]) ∧ Below w.heap.size w w' := by
  rcases hb with rfl | rfl
  · exact needleAt1 pb a p x w h0 h1 ha hx
  · exact needleAt2 pb a p x w h0 h1 ha hp hx
end Go.Proofs.Ytfechjhngcmdpaa.mc
