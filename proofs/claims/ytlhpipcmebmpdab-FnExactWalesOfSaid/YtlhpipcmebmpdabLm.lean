/-
  In one file: Vmf, Vmg, Vmj, Vmk, Lv, Lx, Ly, Lz.
-/
import Derived.Test.YtlhpipcmebmpdabVmp
import Derived.Deep.RegionWith
import Derived.Test.YtlhpipcmebmpdabRed
import Derived.BigQuiet
import Derived.Test.YtlhpipcmebmpdabVma
import Derived.RangeFuncBox
import Derived.RangeFuncNested
import Derived.RangeFuncBound
import Derived.RangeFuncCalls
import Derived.RangeFuncLeaves
import Derived.Shelf.Abstract
import Derived.Shelf.RegionOpen
import Derived.OwnWalkIn
import Derived.TacticsInMore
import Derived.LoopNIn
import Derived.LoopIn
import Derived.RegionIn
import Derived.Maps.AppendAt
import Derived.Laws.OwnMore
/- hasNeedle and needleAt of the program. -/
namespace Go.Proofs.Ytlhpipcmebmpdab.mc
open Go.RowKit Go.Sort Go.Proofs.Ytlhpipcmebmpdab.sl Go.Proofs.Ytlhpipcmebmpdab.br Go.Proofs.Ytlhpipcmebmpdab.fn Go.Proofs.Ytlhpipcmebmpdab.ss
set_option linter.unusedVariables false
set_option linter.unusedSimpArgs false

def hasN (a p : Int) (m : Mch) (b t : Int) : Bool := okM a p m && (nd.validB b t && decide (t < a))
theorem hasN_parts {a p b t : Int} {m : Mch} (h : hasN a p m b t = true) : OkM a p m ∧ 1 ≤ b ∧ b ≤ 2 ∧ 0 ≤ t ∧ t ≤ 23 ∧ t < a := by
  simp only [hasN, Bool.and_eq_true, decide_eq_true_eq] at h
  have := valid_parts h.2.1
  exact ⟨okM_parts h.1, this.1, this.2.1, this.2.2.1, this.2.2.2, h.2.2⟩


/-! ### needleAt -/
def atT (p b x : Int) : Int := if b = 2 then x - p else x
def atOk (a p b x : Int) : Bool := inB 0 (a - 1) (atT p b x)
def atB (a p b x : Int) : Int := if atOk a p b x = true then b else 0
def atA (a p b x : Int) : Int := if atOk a p b x = true then atT p b x else 0

/-- What needleAt reads: the state's box, its own needle, its result. -/
structure NA (w W : World) (pb : Nat) (a p b x : Int) : Prop where
  sz : w.heap.size + 2 ≤ W.heap.size
  y0 : W.cell? ⟨pb, 0, none⟩ = some (.int .i64 a)
  y1 : W.cell? ⟨pb, 1, none⟩ = some (.int .i64 p)
  d0 : W.cell? ⟨w.heap.size + 1, 0, none⟩ = some (.int .i64 b)
  d1 : W.cell? ⟨w.heap.size + 1, 1, none⟩ = some (.int .i64 x)
  e0 : W.frozen? ⟨w.heap.size + 1, 0, none⟩ = false
  e1 : W.frozen? ⟨w.heap.size + 1, 1, none⟩ = false
  r0 : W.cell? ⟨w.heap.size, 0, none⟩ = some (.int .i64 0)
  r1 : W.cell? ⟨w.heap.size, 1, none⟩ = some (.int .i64 0)
  g0 : W.frozen? ⟨w.heap.size, 0, none⟩ = false
  g1 : W.frozen? ⟨w.heap.size, 1, none⟩ = false
  bel : Below w.heap.size w W
theorem NA.drewN {w W : World} {pb : Nat} {a p b x : Int} (h : NA w W pb a p b x) (n : Nat) : NA w (W.drewN n) pb a p b x :=
  ⟨h.sz, h.y0, h.y1, h.d0, h.d1, h.e0, h.e1, h.r0, h.r1, h.g0, h.g1, bdrewN h.bel n⟩
theorem NA.set {w W : World} {pb : Nat} {a p b x : Int} (h : NA w W pb a p b x) (hp : pb < w.heap.size) (y : Int) : NA w (W.setCell ⟨w.heap.size + 1, 1, none⟩ (.int .i64 y)) pb a p b y := by
  have n1 : ∀ (g i : Nat), g < w.heap.size + 1 → (W.setCell ⟨w.heap.size + 1, 1, none⟩ (.int .i64 y)).cell? ⟨g, i, none⟩ = W.cell? ⟨g, i, none⟩ := fun g i hg => World.cell?_setCell_other _ _ _ _ (by intro e; injection e with e1; omega)
  have n2 : ∀ a', (W.setCell ⟨w.heap.size + 1, 1, none⟩ (.int .i64 y)).frozen? a' = W.frozen? a' := fun a' => World.frozen?_setCell _ _ _ _
  exact ⟨by simpa using h.sz, (n1 _ _ (by omega)).trans h.y0, (n1 _ _ (by omega)).trans h.y1, (ss.other_at (by omega)).trans h.d0, ss.same_at h.d1, (n2 _).trans h.e0, (n2 _).trans h.e1, (n1 _ _ (by omega)).trans h.r0, (n1 _ _ (by omega)).trans h.r1, (n2 _).trans h.g0, (n2 _).trans h.g1, h.bel.setCell (by simp) _⟩
theorem na_new (w : World) (pb : Nat) (a p b x : Int) (h0 : w.cell? ⟨pb, 0, none⟩ = some (.int .i64 a)) (h1 : w.cell? ⟨pb, 1, none⟩ = some (.int .i64 p)) :
    NA w ((w.alloc (.cells #[.int .i64 0, .int .i64 0] 119)).alloc (.cells #[.int .i64 b, .int .i64 x] 119)) pb a p b x := by
  have b0 := (Below.refl w.heap.size w).alloc (Nat.le_refl _) (.cells #[.int .i64 0, .int .i64 0] 119)
  have b1 := (Below.refl (w.alloc (.cells #[.int .i64 0, .int .i64 0] 119)).heap.size (w.alloc (.cells #[.int .i64 0, .int .i64 0] 119))).alloc (Nat.le_refl _) (.cells #[.int .i64 b, .int .i64 x] 119)
  have e : (w.alloc (.cells #[.int .i64 0, .int .i64 0] 119)).heap.size = w.heap.size + 1 := by simp
  have bb := b0.trans (b1.mono b0.size)
  exact ⟨by simp, (bb.cell (p := ⟨pb, 0, none⟩) (World.block_lt_of_cell? w _ h0)).trans h0, (bb.cell (p := ⟨pb, 1, none⟩) (World.block_lt_of_cell? w _ h1)).trans h1,
    World.cell?_alloc_at _ _ _ _ e.symm, World.cell?_alloc_at _ _ _ _ e.symm, World.frozen?_alloc_at _ _ _ _ e.symm, World.frozen?_alloc_at _ _ _ _ e.symm,
    (b1.cell (p := ⟨w.heap.size, 0, none⟩) (by simp)).trans (World.cell?_alloc_at _ _ _ _ rfl), (b1.cell (p := ⟨w.heap.size, 1, none⟩) (by simp)).trans (World.cell?_alloc_at _ _ _ _ rfl),
    (b1.frozen (p := ⟨w.heap.size, 0, none⟩) (by simp)).trans (World.frozen?_alloc_at _ _ _ _ rfl), (b1.frozen (p := ⟨w.heap.size, 1, none⟩) (by simp)).trans (World.frozen?_alloc_at _ _ _ _ rfl), bb⟩

set_option maxRecDepth 100000 in
set_option maxHeartbeats 2000000 in
theorem needleAt1 (pb : Nat) (a p x : Int) (w : World) (h0 : w.cell? ⟨pb, 0, none⟩ = some (.int .i64 a)) (h1 : w.cell? ⟨pb, 1, none⟩ = some (.int .i64 p)) (ha : 1 ≤ a ∧ a ≤ 24) (hx : -100 ≤ x ∧ x ≤ 100) :
    Calls Try.prog 104 #[.pointer (some ⟨pb, 0, none⟩), .int .i64 1, .int .i64 x] w fun e w' => e = .returned (.tuple #[.agg #[.int .i64 (atB a p 1 x), .int .i64 (atA a p 1 x)], .bool (atOk a p 1 x)]) ∧ Below w.heap.size w w' := by
  obtain ⟨ha0, ha1⟩ := ha
  have hwa : IntKind.i64.wrap (a - 1) = a - 1 := IntWalk.i64_in _ (by omega)
  have HN := hid (na_new w pb a p 1 x h0 h1)
  obtain ⟨q, hq⟩ : ∃ q, inB 0 (a - 1) x = q := ⟨_, rfl⟩
  have HR : Hid (atOk a p 1 x = q) := hid (by rw [← hq]; rfl)
  have HI := hid (fun W => show Calls Try.prog 66 #[.int .i64 x, .int .i64 0, .int .i64 (a - 1)] W fun e w' => e = .returned (.bool q) ∧ w' = W from (nd.within64 _ _ _ W).mono fun _ _ h => ⟨by rw [h.1, ← hq]; rfl, h.2.symm⟩)
  have HA : Hid ((q = true → atB a p 1 x = 1 ∧ atA a p 1 x = x) ∧ (q = false → atB a p 1 x = 0 ∧ atA a p 1 x = 0)) := hid ⟨fun h => ⟨by simp [atB, HR.out, h], by simp [atA, HR.out, h, atT]⟩, fun h => ⟨by simp [atB, HR.out, h], by simp [atA, HR.out, h]⟩⟩
  rw [HR.out]
  clear hq h0 h1 HR
  cases q with
  | false =>
    rw [(HA.out.2 rfl).1, (HA.out.2 rfl).2]
    go_enter Try.func104, Try.ntmps104
    go_wp2
    generalize (w.alloc (.cells #[.int .i64 0, .int .i64 0] 119)).alloc (.cells #[.int .i64 1, .int .i64 x] 119) = W1 at *
    have y0 := HN.out.y0
    have d1 := HN.out.d1
    have r0 := HN.out.r0
    have r1 := HN.out.r1
    have g0 := HN.out.g0
    have g1 := HN.out.g1
    go_quiet ((go_at_call 66; exact Calls.quiet_of_same (HI.out _)))
    go_wp2
    refine bodyPost_ret (v := .tuple #[.agg #[.int .i64 0, .int .i64 0], .bool false]) (by simp [results, Try.results104, go_sem, r0, r1]) rfl ⟨rfl, ?_⟩
    exact ((bdrewN HN.out.bel _).setCell (by simp) _).setCell (by simp) _
  | true =>
    rw [(HA.out.1 rfl).1, (HA.out.1 rfl).2]
    go_enter Try.func104, Try.ntmps104
    go_wp2
    generalize (w.alloc (.cells #[.int .i64 0, .int .i64 0] 119)).alloc (.cells #[.int .i64 1, .int .i64 x] 119) = W1 at *
    have y0 := HN.out.y0
    have d0 := HN.out.d0
    have d1 := HN.out.d1
    have r0 := HN.out.r0
    have r1 := HN.out.r1
    have g0 := HN.out.g0
    have g1 := HN.out.g1
    go_quiet ((go_at_call 66; exact Calls.quiet_of_same (HI.out _)))
    go_wp2
    refine bodyPost_ret (v := .tuple #[.agg #[.int .i64 1, .int .i64 x], .bool true]) (by simp [results, Try.results104, go_sem, r0, r1]) rfl ⟨rfl, ?_⟩
    exact ((bdrewN HN.out.bel _).setCell (by simp) _).setCell (by simp) _

set_option maxRecDepth 100000 in
set_option maxHeartbeats 2000000 in
theorem needleAt2 (pb : Nat) (a p x : Int) (w : World) (h0 : w.cell? ⟨pb, 0, none⟩ = some (.int .i64 a)) (h1 : w.cell? ⟨pb, 1, none⟩ = some (.int .i64 p)) (ha : 1 ≤ a ∧ a ≤ 24) (hp : -3 ≤ p ∧ p ≤ 3) (hx : -100 ≤ x ∧ x ≤ 100) :
    Calls Try.prog 104 #[.pointer (some ⟨pb, 0, none⟩), .int .i64 2, .int .i64 x] w fun e w' => e = .returned (.tuple #[.agg #[.int .i64 (atB a p 2 x), .int .i64 (atA a p 2 x)], .bool (atOk a p 2 x)]) ∧ Below w.heap.size w w' := by
  have hpl : pb < w.heap.size := World.block_lt_of_cell? w _ h0
  obtain ⟨ha0, ha1⟩ := ha
  obtain ⟨hp0, hp1⟩ := hp
  obtain ⟨hx0, hx1⟩ := hx
  have hwa : IntKind.i64.wrap (a - 1) = a - 1 := IntWalk.i64_in _ (by omega)
  have hwx : IntKind.i64.wrap (x - p) = x - p := IntWalk.i64_in _ (by omega)
  have HN := hid (na_new w pb a p 2 x h0 h1)
  obtain ⟨q, hq⟩ : ∃ q, inB 0 (a - 1) (x - p) = q := ⟨_, rfl⟩
  have HR : Hid (atOk a p 2 x = q) := hid (by rw [← hq]; simp [atOk, atT])
  have HI := hid (fun W => show Calls Try.prog 66 #[.int .i64 (x - p), .int .i64 0, .int .i64 (a - 1)] W fun e w' => e = .returned (.bool q) ∧ w' = W from (nd.within64 _ _ _ W).mono fun _ _ h => ⟨by rw [h.1, ← hq]; rfl, h.2.symm⟩)
  have HA : Hid ((q = true → atB a p 2 x = 2 ∧ atA a p 2 x = x - p) ∧ (q = false → atB a p 2 x = 0 ∧ atA a p 2 x = 0)) := hid ⟨fun h => ⟨by simp [atB, HR.out, h], by simp [atA, HR.out, h, atT]⟩, fun h => ⟨by simp [atB, HR.out, h], by simp [atA, HR.out, h]⟩⟩
  rw [HR.out]
  clear hq h0 h1 HR
  cases q with
  | false =>
    rw [(HA.out.2 rfl).1, (HA.out.2 rfl).2]
    go_enter Try.func104, Try.ntmps104
    go_wp2
    generalize (w.alloc (.cells #[.int .i64 0, .int .i64 0] 119)).alloc (.cells #[.int .i64 2, .int .i64 x] 119) = W1 at *
    have y1 := HN.out.y1
    have d1 := HN.out.d1
    have e1 := HN.out.e1
    go_region
    have HN2 : Hid (NA w (W1.setCell ⟨w.heap.size + 1, 1, none⟩ (.int .i64 (x - p))).drew pb a p 2 (x - p)) := hid ((HN.out.set hpl (x - p)).drewN 1)
    clear y1 d1 e1
    generalize (W1.setCell ⟨w.heap.size + 1, 1, none⟩ (.int .i64 (x - p))).drew = W2 at *
    have y0 := HN2.out.y0
    have d0 := HN2.out.d0
    have d1 := HN2.out.d1
    have r0 := HN2.out.r0
    have r1 := HN2.out.r1
    have g0 := HN2.out.g0
    have g1 := HN2.out.g1
    go_wp2
    go_quiet ((go_at_call 66; exact Calls.quiet_of_same (HI.out _)))
    go_wp2
    refine bodyPost_ret (v := .tuple #[.agg #[.int .i64 0, .int .i64 0], .bool false]) (by simp [results, Try.results104, go_sem, r0, r1]) rfl ⟨rfl, ?_⟩
    exact ((bdrewN HN2.out.bel _).setCell (by simp) _).setCell (by simp) _
  | true =>
    rw [(HA.out.1 rfl).1, (HA.out.1 rfl).2]
    go_enter Try.func104, Try.ntmps104
    go_wp2
    generalize (w.alloc (.cells #[.int .i64 0, .int .i64 0] 119)).alloc (.cells #[.int .i64 2, .int .i64 x] 119) = W1 at *
    have y1 := HN.out.y1
    have d1 := HN.out.d1
    have e1 := HN.out.e1
    go_region
    have HN2 : Hid (NA w (W1.setCell ⟨w.heap.size + 1, 1, none⟩ (.int .i64 (x - p))).drew pb a p 2 (x - p)) := hid ((HN.out.set hpl (x - p)).drewN 1)
    clear y1 d1 e1
    generalize (W1.setCell ⟨w.heap.size + 1, 1, none⟩ (.int .i64 (x - p))).drew = W2 at *
    have y0 := HN2.out.y0
    have d0 := HN2.out.d0
    have d1 := HN2.out.d1
    have r0 := HN2.out.r0
    have r1 := HN2.out.r1
    have g0 := HN2.out.g0
    have g1 := HN2.out.g1
    go_wp2
    go_quiet ((go_at_call 66; exact Calls.quiet_of_same (HI.out _)))
    go_wp2
    refine bodyPost_ret (v := .tuple #[.agg #[.int .i64 2, .int .i64 (x - p)], .bool true]) (by simp [results, Try.results104, go_sem, r0, r1]) rfl ⟨rfl, ?_⟩
    exact ((bdrewN HN2.out.bel _).setCell (by simp) _).setCell (by simp) _

theorem needleAtC (pb : Nat) (a p b x : Int) (w : World) (h0 : w.cell? ⟨pb, 0, none⟩ = some (.int .i64 a)) (h1 : w.cell? ⟨pb, 1, none⟩ = some (.int .i64 p)) (ha : 1 ≤ a ∧ a ≤ 24) (hp : -3 ≤ p ∧ p ≤ 3) (hb : b = 1 ∨ b = 2) (hx : -100 ≤ x ∧ x ≤ 100) :
    Calls Try.prog 104 #[.pointer (some ⟨pb, 0, none⟩), .int .i64 b, .int .i64 x] w fun e w' => e = .returned (.tuple #[.agg #[.int .i64 (atB a p b x), .int .i64 (atA a p b x)], .bool (atOk a p b x)]) ∧ Below w.heap.size w w' := by
  rcases hb with rfl | rfl
  · exact needleAt1 pb a p x w h0 h1 ha hx
  · exact needleAt2 pb a p x w h0 h1 ha hp hx
end Go.Proofs.Ytlhpipcmebmpdab.mc

/- FacingOf of the program. -/
namespace Go.Proofs.Ytlhpipcmebmpdab.mc
open Go.RowKit Go.Sort Go.Proofs.Ytlhpipcmebmpdab.sl Go.Proofs.Ytlhpipcmebmpdab.br Go.Proofs.Ytlhpipcmebmpdab.fn Go.Proofs.Ytlhpipcmebmpdab.ss
set_option linter.unusedVariables false
set_option linter.unusedSimpArgs false

def othB (b : Int) : Int := if b = 1 then 2 else 1
def facG (a p : Int) (m : Mch) (b t : Int) : Bool := hasN a p m b t && atOk a p (othB b) (plw p b t)
def facB (a p : Int) (m : Mch) (b t : Int) : Int := if hasN a p m b t = true then atB a p (othB b) (plw p b t) else 0
def facA (a p : Int) (m : Mch) (b t : Int) : Int := if hasN a p m b t = true then atA a p (othB b) (plw p b t) else 0

/-- The program's boxes: the machine, the needle, the answer. -/
structure FB (w W : World) (a p b t : Int) (f0 f1 f2 f3 f4 : Value) : Prop where
  bx : Bx w W w.heap.size a p f0 f1 f2 f3 f4
  sz : w.heap.size + 3 ≤ W.heap.size
  d0 : W.cell? ⟨w.heap.size + 1, 0, none⟩ = some (.int .i64 b)
  d1 : W.cell? ⟨w.heap.size + 1, 1, none⟩ = some (.int .i64 t)
  r0 : W.cell? ⟨w.heap.size + 1 + 1, 0, none⟩ = some (.int .i64 0)
  r1 : W.cell? ⟨w.heap.size + 1 + 1, 1, none⟩ = some (.int .i64 0)
  g0 : W.frozen? ⟨w.heap.size + 1 + 1, 0, none⟩ = false
  g1 : W.frozen? ⟨w.heap.size + 1 + 1, 1, none⟩ = false
theorem FB.below {w W W' : World} {a p b t : Int} {f0 f1 f2 f3 f4 : Value} (h : FB w W a p b t f0 f1 f2 f3 f4) (k : Below W.heap.size W W') : FB w W' a p b t f0 f1 f2 f3 f4 := by
  have hs := h.sz
  have c : ∀ (g i : Nat), g < W.heap.size → W'.cell? ⟨g, i, none⟩ = W.cell? ⟨g, i, none⟩ := fun g i hg => k.cell (p := ⟨g, i, none⟩) hg
  have f : ∀ (g i : Nat), g < W.heap.size → W'.frozen? ⟨g, i, none⟩ = W.frozen? ⟨g, i, none⟩ := fun g i hg => k.frozen (p := ⟨g, i, none⟩) hg
  exact ⟨h.bx.below k, Nat.le_trans hs k.size, (c _ _ (by omega)).trans h.d0, (c _ _ (by omega)).trans h.d1, (c _ _ (by omega)).trans h.r0, (c _ _ (by omega)).trans h.r1, (f _ _ (by omega)).trans h.g0, (f _ _ (by omega)).trans h.g1⟩
theorem fb_new (w : World) (a p b t : Int) (f0 f1 f2 f3 f4 : Value) :
    FB w (((w.alloc (.cells #[.int .i64 a, .int .i64 p, f0, f1, f2, f3, f4] 34)).alloc (.cells #[.int .i64 b, .int .i64 t] 119)).alloc (.cells #[.int .i64 0, .int .i64 0] 119)) a p b t f0 f1 f2 f3 f4 := by
  have x0 := bx_new w 34 a p f0 f1 f2 f3 f4
  have e1 : (w.alloc (.cells #[.int .i64 a, .int .i64 p, f0, f1, f2, f3, f4] 34)).heap.size = w.heap.size + 1 := by simp
  generalize w.alloc (.cells #[.int .i64 a, .int .i64 p, f0, f1, f2, f3, f4] 34) = V1 at *
  have b1 := (Below.refl V1.heap.size V1).alloc (Nat.le_refl _) (.cells #[.int .i64 b, .int .i64 t] 119)
  have e2 : (V1.alloc (.cells #[.int .i64 b, .int .i64 t] 119)).heap.size = w.heap.size + 1 + 1 := by simp [e1]
  have d0 : (V1.alloc (.cells #[.int .i64 b, .int .i64 t] 119)).cell? ⟨w.heap.size + 1, 0, none⟩ = some (.int .i64 b) := World.cell?_alloc_at _ _ _ _ e1.symm
  have d1 : (V1.alloc (.cells #[.int .i64 b, .int .i64 t] 119)).cell? ⟨w.heap.size + 1, 1, none⟩ = some (.int .i64 t) := World.cell?_alloc_at _ _ _ _ e1.symm
  have x1 := x0.below b1
  generalize V1.alloc (.cells #[.int .i64 b, .int .i64 t] 119) = V2 at *
  have b2 := (Below.refl V2.heap.size V2).alloc (Nat.le_refl _) (.cells #[.int .i64 0, .int .i64 0] 119)
  exact ⟨x1.below b2, by simp [e2], (b2.cell (p := ⟨w.heap.size + 1, 0, none⟩) (by show w.heap.size + 1 < V2.heap.size; omega)).trans d0, (b2.cell (p := ⟨w.heap.size + 1, 1, none⟩) (by show w.heap.size + 1 < V2.heap.size; omega)).trans d1,
    World.cell?_alloc_at _ _ _ _ e2.symm, World.cell?_alloc_at _ _ _ _ e2.symm, World.frozen?_alloc_at _ _ _ _ e2.symm, World.frozen?_alloc_at _ _ _ _ e2.symm⟩

end Go.Proofs.Ytlhpipcmebmpdab.mc

/- LoopsOn of the program: the loops on a needle. -/
namespace Go.Proofs.Ytlhpipcmebmpdab.mc
open Go.RowKit Go.Sort Go.Proofs.Ytlhpipcmebmpdab.sl Go.Proofs.Ytlhpipcmebmpdab.br Go.Proofs.Ytlhpipcmebmpdab.fn Go.Proofs.Ytlhpipcmebmpdab.ss
set_option linter.unusedVariables false
set_option linter.unusedSimpArgs false

/-- The loops on a needle. -/
def onW (m : Mch) (b t : Int) : List Int := if b = 1 then m.fr.getD t.toNat [] else m.bk.getD t.toNat []
def onL (a p : Int) (m : Mch) (b t : Int) : List Int := if hasN a p m b t = true then onW m b t else []
theorem row_short {W : Int} {rows : List (List Int)} (h : stkB W rows = true) (j : Nat) : (rows.getD j []).length ≤ 4 := by
  by_cases hj : j < rows.length
  · exact (stk_parts h).2 j hj
  · rw [show rows.getD j [] = [] from by simp [List.getD, List.getElem?_eq_none (Nat.le_of_not_lt hj)]]; simp
theorem onW_len {a p : Int} {m : Mch} (h : OkM a p m) (b t : Int) : (onW m b t).length ≤ 4 := by
  unfold onW
  split
  · exact row_short h.fr _
  · exact row_short h.bk _
theorem onL_len (a p : Int) (m : Mch) (b t : Int) : (onL a p m b t).length ≤ 20000 := by
  unfold onL
  split
  · rename_i h
    have := onW_len (hasN_parts h).1 b t
    omega
  · simp

/-- A row's value. -/
theorem row_at {w : World} {lo hi : Nat} {v : Value} {rows : List (List Int)} (h : ss.ROwn w lo hi v rows) (j : Nat) (hj : j < rows.length) :
    ∃ (g off cap : Nat) (V : Value), v = .slice (some ⟨g, off, none⟩) rows.length cap ∧ g < hi ∧ w.cell? ⟨g, off + j, none⟩ = some V ∧ Ints w hi V (rows.getD j []) ∧ NilOk V ∧ w.heap.size = w.heap.size := by
  rcases h.2 with ⟨h0, _⟩ | ⟨hp, g, off, cap, V, L, H, hv, h1, h2, h3⟩
  · subst h0; simp at hj
  · obtain ⟨a1, a2, a3, a4, a5, a6⟩ := h3 j hj
    exact ⟨g, off, cap, V j, hv, h2, a1, a2.ints.mono a4, nilok_own a2, rfl⟩

theorem needlesC (pb : Nat) (b : Int) (W : World) (hb : b = 1 ∨ b = 2) :
    Calls Try.prog 105 #[.pointer (some ⟨pb, 0, none⟩), .int .i64 b] W fun e w' => e = .returned (.pointer (some ⟨pb, if b = 1 then 2 else 3, none⟩)) ∧ W = w' := by
  rcases hb with rfl | rfl
  · go_enter Try.func105, Try.ntmps105
    go_wp2
    go_ret
    exact ⟨rfl, rfl⟩
  · go_enter Try.func105, Try.ntmps105
    go_wp2
    go_ret
    exact ⟨rfl, rfl⟩

set_option maxRecDepth 100000 in
set_option maxHeartbeats 2000000 in
theorem loopsOnB (pb k : Nat) (b : Int) (j : Nat) (g off n cap : Nat) (V : Value) (w : World) (hb : (b = 1 ∧ k = 2) ∨ (b = 2 ∧ k = 3)) (c2 : w.cell? ⟨pb, k, none⟩ = some (.slice (some ⟨g, off, none⟩) n cap)) (cV : w.cell? ⟨g, off + j, none⟩ = some V) (hj : j < n) (hn : n ≤ 1048576) :
    Calls Try.prog 91 #[.pointer (some ⟨pb, 0, none⟩), .agg #[.int .i64 b, .int .i64 j]] w fun e w' => e = .returned V ∧ Below w.heap.size w w' := by
  have hN := needlesC pb b
  have b1 := (Below.refl w.heap.size w).alloc (Nat.le_refl _) (.cells #[.int .i64 b, .int .i64 j] 119)
  have d0 : (w.alloc (.cells #[.int .i64 b, .int .i64 j] 119)).cell? ⟨w.heap.size, 0, none⟩ = some (.int .i64 b) := World.cell?_alloc_at _ _ _ _ rfl
  have d1 : (w.alloc (.cells #[.int .i64 b, .int .i64 j] 119)).cell? ⟨w.heap.size, 1, none⟩ = some (.int .i64 j) := World.cell?_alloc_at _ _ _ _ rfl
  have y2 := (b1.cell (p := ⟨pb, k, none⟩) (World.block_lt_of_cell? w _ c2)).trans c2
  have yV := (b1.cell (p := ⟨g, off + j, none⟩) (World.block_lt_of_cell? w _ cV)).trans cV
  have HB := hid b1
  have HN : Hid (∀ W, Calls Try.prog 105 #[.pointer (some ⟨pb, 0, none⟩), .int .i64 b] W fun e w' => e = .returned (.pointer (some ⟨pb, k, none⟩)) ∧ w' = W) := hid fun W => (hN W (by omega)).mono fun _ _ h => ⟨by rw [h.1]; rcases hb with ⟨rfl, rfl⟩ | ⟨rfl, rfl⟩ <;> rfl, h.2.symm⟩
  have hjn : (j : Int) < (n : Int) := by omega
  clear hN b1 c2 cV hb
  go_enter Try.func91, Try.ntmps91
  go_wp2
  generalize w.alloc (.cells #[.int .i64 b, .int .i64 j] 119) = W1 at *
  go_quiet ((go_at_call 105; exact Calls.quiet_of_same (HN.out _)))
  go_wp2
  go_ret
  exact ⟨rfl, bdrewN HB.out _⟩

theorem loopsOnC (pb : Nat) (m : Mch) (b : Int) (j : Nat) (f0 f1 f2 f3 f4 : Value) (B : Nat) (w : World) (ha : MInC w B f0 f1 f2 f3 f4 m) (hq : Small m) (c2 : w.cell? ⟨pb, 2, none⟩ = some f0) (c3 : w.cell? ⟨pb, 3, none⟩ = some f1) (hb : b = 1 ∨ b = 2) (h0 : j < m.fr.length) (h1 : j < m.bk.length) :
    Calls Try.prog 91 #[.pointer (some ⟨pb, 0, none⟩), .agg #[.int .i64 b, .int .i64 j]] w fun e w' => ∃ V, e = .returned V ∧ Ints w' B V (onW m b j) ∧ NilOk V ∧ Below w.heap.size w w' := by
  obtain ⟨lo, hi, hB, hh, p1, p2, p3, p4, e0, e1, e2, e3, e4, o0, o1, o2, o3, o4⟩ := ha
  rcases hb with rfl | rfl
  · obtain ⟨g, off, cap, V, rfl, hg, cV, iV, nV, _⟩ := row_at o0 j h0
    refine (loopsOnB pb 2 1 j g off _ cap V w (.inl ⟨rfl, rfl⟩) c2 cV h0 hq.s0.1).mono ?_
    rintro e w' ⟨rfl, b⟩
    exact ⟨V, rfl, by simpa [onW] using (iV.mono (by omega)).chg (Chg.ofBelow (lo := 0) b) (.inr (Nat.zero_le _)), nV, b⟩
  · obtain ⟨g, off, cap, V, rfl, hg, cV, iV, nV, _⟩ := row_at o1 j h1
    refine (loopsOnB pb 3 2 j g off _ cap V w (.inr ⟨rfl, rfl⟩) c3 cV h1 hq.s1.1).mono ?_
    rintro e w' ⟨rfl, b⟩
    exact ⟨V, rfl, by simpa [onW] using (iV.mono (by omega)).chg (Chg.ofBelow (lo := 0) b) (.inr (Nat.zero_le _)), nV, b⟩
end Go.Proofs.Ytlhpipcmebmpdab.mc

/- LoopsOn of program and model. -/
namespace Go.Proofs.Ytlhpipcmebmpdab.mc
open Go.RowKit Go.Sort Go.Proofs.Ytlhpipcmebmpdab.sl Go.Proofs.Ytlhpipcmebmpdab.br Go.Proofs.Ytlhpipcmebmpdab.fn Go.Proofs.Ytlhpipcmebmpdab.ss
set_option linter.unusedVariables false
set_option linter.unusedSimpArgs false

/-- The boxes of a machine and a needle. -/
structure FD (w W : World) (a p b t : Int) (f0 f1 f2 f3 f4 : Value) : Prop where
  bx : Bx w W w.heap.size a p f0 f1 f2 f3 f4
  sz : w.heap.size + 2 ≤ W.heap.size
  d0 : W.cell? ⟨w.heap.size + 1, 0, none⟩ = some (.int .i64 b)
  d1 : W.cell? ⟨w.heap.size + 1, 1, none⟩ = some (.int .i64 t)
theorem FD.below {w W W' : World} {a p b t : Int} {f0 f1 f2 f3 f4 : Value} (h : FD w W a p b t f0 f1 f2 f3 f4) (k : Below W.heap.size W W') : FD w W' a p b t f0 f1 f2 f3 f4 := by
  have hs := h.sz
  have c : ∀ (g i : Nat), g < W.heap.size → W'.cell? ⟨g, i, none⟩ = W.cell? ⟨g, i, none⟩ := fun g i hg => k.cell (p := ⟨g, i, none⟩) hg
  exact ⟨h.bx.below k, Nat.le_trans hs k.size, (c _ _ (by omega)).trans h.d0, (c _ _ (by omega)).trans h.d1⟩
theorem fd_new (w : World) (a p b t : Int) (f0 f1 f2 f3 f4 : Value) :
    FD w ((w.alloc (.cells #[.int .i64 a, .int .i64 p, f0, f1, f2, f3, f4] 34)).alloc (.cells #[.int .i64 b, .int .i64 t] 119)) a p b t f0 f1 f2 f3 f4 := by
  have x0 := bx_new w 34 a p f0 f1 f2 f3 f4
  have e1 : (w.alloc (.cells #[.int .i64 a, .int .i64 p, f0, f1, f2, f3, f4] 34)).heap.size = w.heap.size + 1 := by simp
  generalize w.alloc (.cells #[.int .i64 a, .int .i64 p, f0, f1, f2, f3, f4] 34) = V1 at *
  have b1 := (Below.refl V1.heap.size V1).alloc (Nat.le_refl _) (.cells #[.int .i64 b, .int .i64 t] 119)
  exact ⟨x0.below b1, by simp [e1], World.cell?_alloc_at _ _ _ _ e1.symm, World.cell?_alloc_at _ _ _ _ e1.symm⟩



end Go.Proofs.Ytlhpipcmebmpdab.mc

/- The needles in order: the program's iterator. -/
namespace Go.Proofs.Ytlhpipcmebmpdab.mc
open Go.RowKit Go.Sort Go.Proofs.Ytlhpipcmebmpdab.sl Go.Proofs.Ytlhpipcmebmpdab.br Go.Proofs.Ytlhpipcmebmpdab.fn Go.Proofs.Ytlhpipcmebmpdab.ss
set_option linter.unusedVariables false
set_option linter.unusedSimpArgs false
attribute [local go_sem] Oper.semAt_some

/-- A needle of a bed. -/
def Nd (a : Int) : Type := { q : Int × Nat // (q.1 = 1 ∨ q.1 = 2) ∧ (q.2 : Int) < a }
def stepB (a p b x : Int) : List (Int × Nat) := if atOk a p b x = true then [(b, (atT p b x).toNat)] else []
def plc (a p : Int) (i : Nat) : List (Int × Nat) := stepB a p 1 ((i : Int) - 3) ++ stepB a p 2 ((i : Int) - 3)
def seqP (a p : Int) (n : Nat) : List (Int × Nat) := (List.range n).flatMap (plc a p)
theorem seqP_zero (a p : Int) : seqP a p 0 = [] := rfl
theorem seqP_succ (a p : Int) (n : Nat) : seqP a p (n + 1) = seqP a p n ++ plc a p n := by simp [seqP, List.range_succ]
theorem stepB_len (a p b x : Int) : (stepB a p b x).length ≤ 1 := by unfold stepB; split <;> simp
theorem seqP_len (a p : Int) (n : Nat) : (seqP a p n).length ≤ 2 * n := by
  induction n with
  | zero => simp [seqP_zero]
  | succ n ih =>
    have h1 := stepB_len a p 1 ((n : Int) - 3)
    have h2 := stepB_len a p 2 ((n : Int) - 3)
    rw [seqP_succ, plc, List.length_append, List.length_append]
    omega
/-- What was handed on at a place ahead of the bed d. -/
def part (a p : Int) (i d : Nat) : List (Int × Nat) := if d = 1 then [] else if d = 2 then stepB a p 1 ((i : Int) - 3) else plc a p i
theorem part_len (a p : Int) (i d : Nat) (h1 : 1 ≤ d) (hd : d ≤ 2) : (part a p i d).length ≤ 1 := by
  unfold part
  by_cases h : d = 1
  · rw [if_pos h]; simp
  · rw [if_neg h, if_pos (by omega)]; exact stepB_len _ _ _ _
theorem part_one (a p : Int) (i : Nat) : part a p i 1 = [] := rfl
theorem part_two (a p : Int) (i : Nat) : part a p i 2 = part a p i 1 ++ stepB a p 1 ((i : Int) - 3) := by simp [part]
theorem part_three (a p : Int) (i : Nat) : part a p i 3 = part a p i 2 ++ stepB a p 2 ((i : Int) - 3) := by simp [part, plc]
theorem atOk_parts {a p b x : Int} (h : atOk a p b x = true) : 0 ≤ atT p b x ∧ atT p b x < a ∧ atB a p b x = b ∧ atA a p b x = atT p b x := by
  have h1 : 0 ≤ atT p b x ∧ atT p b x ≤ a - 1 := by simpa [atOk, inB] using h
  exact ⟨h1.1, by omega, by simp [atB, h], by simp [atA, h]⟩

def encN {a : Int} (q : Nd a) : Array Value := #[.agg #[.int .i64 q.val.1, .int .i64 (q.val.2 : Int)]]

/-- Nothing below n changes, nor the block b. -/
structure KQ (n b : Nat) (w w' : World) : Prop where
  bl : Below n w w'
  at' : w'.heap[b]? = w.heap[b]?
theorem KQ.refl (n b : Nat) (w : World) : KQ n b w w := ⟨Below.refl _ _, rfl⟩
theorem KQ.trans {n b : Nat} {x y z : World} (h : KQ n b x y) (k : KQ n b y z) : KQ n b x z := ⟨h.bl.trans k.bl, k.at'.trans h.at'⟩
theorem KQ.ofBelow {n b : Nat} {w w' : World} (h : Below w.heap.size w w') (hn : n ≤ w.heap.size) (hb : b < w.heap.size) : KQ n b w w' := ⟨h.mono hn, h.block b hb⟩
theorem kq_put {n b : Nat} {w : World} (hn : n ≤ w.heap.size) (hb : b < w.heap.size) (W : World) (l : Nat) (o o' : Obj) (hl : w.heap.size ≤ l) (h : W.heap[l]? = some o) (h1 : o.isCells = false) (h2 : o.isWalk = false) : KQ n b W (W.putObj l o') :=
  ⟨belowK_b hn W l o o' hl h h1 h2, (grownBy_putObj' W l o').block b (by have := (Array.getElem?_eq_some_iff.1 h).1; omega) (by simp; omega)⟩
theorem grown_of {w w' : World} (h : Below w.heap.size w w') : w.grownBy w' none := ⟨h.os, h.tape, h.output, h.size, fun k hk _ => h.block k hk⟩

set_option maxRecDepth 100000 in
set_option maxHeartbeats 4000000 in
theorem needles1K (n : Nat) (hn : 1 ≤ n) (a p : Int) (ha : 1 ≤ a ∧ a ≤ 24) (hp : -3 ≤ p ∧ p ≤ 3) (N : Nat) (hN : (N : Int) = a + 6) (w0 : World) (l pb Bs n₀ : Nat) (hpb : pb < n₀) (hn0 : n₀ ≤ w0.heap.size) (hBs : Bs < w0.heap.size)
    (cB : w0.cell? ⟨Bs, 0, none⟩ = some (.pointer (some ⟨pb, 0, none⟩))) (c0 : w0.cell? ⟨pb, 0, none⟩ = some (.int .i64 a)) (c1 : w0.cell? ⟨pb, 1, none⟩ = some (.int .i64 p))
    (J Jx : List (Nd a) → World → Prop) (BJ : Nat) (hJa : AbidesFrom BJ J)
    (hY : ∀ pre x W, J pre W → pre.length < 2 * N → YieldAt Fence.wide (n - 1) Try.prog l (encN x) W fun e W' =>
      (e = .returned (.bool true) ∧ J (pre ++ [x]) W' ∧ KQ n₀ Bs W W') ∨ (e = .returned (.bool false) ∧ Jx (pre ++ [x]) W'))
    (W : World) (hW : KQ n₀ Bs w0 W) (h0 : J [] W) :
    CallsIn Fence.wide n Try.prog 103 #[.func (.yield l) #[] #[], .pointer (some ⟨Bs, 0, none⟩)] W fun e W' => (∃ v, e = .returned v) ∧
      ((∃ ys : List (Nd a), ys.map (fun i => i.val) = seqP a p N ∧ J ys W') ∨ (∃ pre : List (Nd a), True ∧ Jx pre W')) := by
  have hro : Fence.wide.round = none := rfl
  have HCB := hid cB
  have HC0 := hid c0
  have HC1 := hid c1
  have HW := hid hW
  have ha0 := ha.1
  have ha1 := ha.2
  have hwa : IntKind.i64.wrap (a + 3) = a + 3 := IntWalk.i64_in _ (by omega)
  have hN1 : N ≤ 30 := by omega
  clear cB c0 c1 hW
  refine callsIn_of_wp Try.func103 rfl trivial ?_ hro
  simp only [Try.ntmps103, List.size_toArray, List.length_cons, List.length_nil, Nat.reduceAdd, Nat.reduceSub, Array.replicate_succ, Array.replicate_zero, List.push_toArray, List.append_toArray, List.nil_append, List.cons_append]
  gi_wp2
  gi_loopw [3] (fun i wr => ∃ (k : Nat) (x : Int) (pre : List (Nd a)), k ≤ N ∧ x = (k : Int) - 3 ∧ i = .int .i64 x ∧ pre.map (fun i => i.val) = seqP a p k ∧ J pre wr ∧ KQ n₀ Bs w0 wr)
    (fun i _ => (a + 3 - intOf i).toNat)
  case atStart => exact ⟨0, -3, [], Nat.zero_le _, by omega, rfl, rfl, h0, HW.out⟩
  case round =>
    obtain ⟨k, x, pre, hk, hx, rfl, hpre, hJs, hkq⟩ := hrel
    have HPre := hid hpre
    have HKQ := hid hkq
    have HJs := hid hJs
    have y0 : wr.cell? ⟨Bs, 0, none⟩ = some (.pointer (some ⟨pb, 0, none⟩)) := (World.cell?_of_block (w := w0) (w' := wr) (a := ⟨Bs, 0, none⟩) hkq.at').trans HCB.out
    have y1 : wr.cell? ⟨pb, 0, none⟩ = some (.int .i64 a) := (hkq.bl.cell (p := ⟨pb, 0, none⟩) hpb).trans HC0.out
    clear hpre hkq hJs
    by_cases hlt : k < N
    · have hxa : x < a + 3 := by omega
      have hxb : -3 ≤ x ∧ x ≤ 30 := by omega
      have HX := hid hx
      clear hx
      gi_wp2
      gi_loopw [4] (fun c wr => ∃ (d : Nat) (pre : List (Nd a)), 1 ≤ d ∧ d ≤ 3 ∧ c = .int .i64 (d : Int) ∧ pre.map (fun i => i.val) = seqP a p k ++ part a p k d ∧ J pre wr ∧ KQ n₀ Bs w0 wr)
        (fun c _ => 3 - (intOf c).toNat)
      case atStart => exact ⟨1, pre, by omega, by omega, rfl, by rw [HPre.out, part_one, List.append_nil], HJs.out, HKQ.out⟩
      case round =>
        rename World => wr2
        obtain ⟨d, pre2, hd1, hd3, rfl, hpre2, hJs2, hkq2⟩ := hrel
        have HPre2 := hid hpre2
        have HKQ2 := hid hkq2
        have HJs2 := hid hJs2
        have y0 : wr2.cell? ⟨Bs, 0, none⟩ = some (.pointer (some ⟨pb, 0, none⟩)) := (World.cell?_of_block (w := w0) (w' := wr2) (a := ⟨Bs, 0, none⟩) hkq2.at').trans HCB.out
        have y2 : wr2.cell? ⟨pb, 0, none⟩ = some (.int .i64 a) := (hkq2.bl.cell (p := ⟨pb, 0, none⟩) hpb).trans HC0.out
        have y3 : wr2.cell? ⟨pb, 1, none⟩ = some (.int .i64 p) := (hkq2.bl.cell (p := ⟨pb, 1, none⟩) hpb).trans HC1.out
        clear hpre2 hkq2 hJs2 HJs HKQ y1 HPre
        by_cases hd : d ≤ 2
        · rcases (by omega : d = 1 ∨ d = 2) with rfl | rfl
          · -- the bed 1
            have HNA := hid (needleAtC pb a p 1 x wr2 y2 y3 ha hp (by omega) (by omega))
            have HSt : Hid (part a p k 2 = part a p k 1 ++ (if atOk a p 1 x = true then [(1, (atT p 1 x).toNat)] else [])) := hid (by rw [part_two, HX.out]; rfl)
            cases hok : atOk a p 1 x with
            | false =>
              rw [hok] at HNA HSt
              have HSt2 : Hid (part a p k 2 = part a p k 1) := hid (by rw [HSt.out]; simp)
              clear HSt hok y2 y3
              generalize atB a p 1 x = qb at *
              generalize atA a p 1 x = qa at *
              gi_wp2_with (refine ⟨trivial, ?_⟩; gi_at_call 104; refine (callsIn_wide.2 HNA.out).mono ?_; rintro e w1 ⟨rfl, b1⟩)
              have hs1 := b1.size
              have HJ1 := hid (hJa pre2 wr2 w1 none HJs2.out (grown_of b1) (fun r e => by cases e))
              have b2 : Below wr2.heap.size wr2 (w1.alloc (.cells #[.int .i64 qb, .int .i64 qa] 119)) := b1.alloc hs1 _
              have HJ2 := hid (hJa pre2 wr2 _ none HJs2.out (grown_of b2) (fun r e => by cases e))
              have HKQ3 := hid (HKQ2.out.trans (KQ.ofBelow b2 (Nat.le_trans hn0 HKQ2.out.bl.size) (Nat.lt_of_lt_of_le hBs HKQ2.out.bl.size)))
              clear b1 b2
              gi_wp2
              refine ⟨(fun f hf => by cases hf), ?_⟩
              gi_wp2
              go_roundw
              case rel => exact ⟨2, pre2, by omega, by omega, by go_num, by rw [HPre2.out, HSt2.out], HJ2.out, HKQ3.out⟩
              case measure => simp [intOf]
            | true =>
              obtain ⟨ht0, ht1, hB, hA⟩ := atOk_parts hok
              rw [hok, hB, hA] at HNA
              rw [hok] at HSt
              obtain ⟨t, ht⟩ := Int.eq_ofNat_of_zero_le ht0
              rw [ht] at HNA HSt ht1
              have HSt2 : Hid (part a p k 2 = part a p k 1 ++ [(1, t)]) := hid (by rw [HSt.out]; simp)
              clear HSt hok y2 y3 ht0 hB hA ht
              have hlen : pre2.length < 2 * N := by
                have e1 : pre2.length = (seqP a p k ++ part a p k 1).length := by rw [← HPre2.out]; simp
                have e2 := seqP_len a p k
                have e3 := part_len a p k 1 (by omega) (by omega)
                rw [List.length_append] at e1
                omega
              gi_wp2_with (refine ⟨trivial, ?_⟩; gi_at_call 104; refine (callsIn_wide.2 HNA.out).mono ?_; rintro e w1 ⟨rfl, b1⟩; have b2 : Below wr2.heap.size wr2 (w1.alloc (.cells #[.int .i64 1, .int .i64 (t : Int)] 119)) := b1.alloc b1.size _; have HJ2 := hid (hJa pre2 wr2 _ none HJs2.out (grown_of b2) (fun r e => by cases e)); have HKQ3 := hid (HKQ2.out.trans (KQ.ofBelow b2 (Nat.le_trans hn0 HKQ2.out.bl.size) (Nat.lt_of_lt_of_le hBs HKQ2.out.bl.size))); clear b1 b2; obtain ⟨fn, tmps, assign, body, hy, hR⟩ := hY pre2 ⟨(1, t), by simp, ht1⟩ _ HJ2.out hlen; dsimp only [encN] at hy; have hdep : (Fence.wide.depth.isSome = true → 1 ≤ n - 1) := fun h => by cases h)
              refine hR.mono ?_
              rintro e W3 (⟨rfl, hJ3, hk3⟩ | ⟨rfl, hJx3⟩)
              · have HKQ4 := hid (HKQ3.out.trans hk3)
                have HJ3 := hid hJ3
                clear hJ3 hk3
                gi_wp2
                go_roundw
                case rel => exact ⟨2, _, by omega, by omega, by go_num, by rw [List.map_append, HPre2.out, HSt2.out, List.append_assoc]; rfl, HJ3.out, HKQ4.out⟩
                case measure => simp [intOf]
              · gi_wp2
                refine bodyPost_ret (results_none rfl _ _ _) rfl ?_
                exact ⟨⟨_, rfl⟩, .inr ⟨_, trivial, hJx3⟩⟩
          · -- the bed 2
            have HNA := hid (needleAtC pb a p 2 x wr2 y2 y3 ha hp (by omega) (by omega))
            have HSt : Hid (part a p k 3 = part a p k 2 ++ (if atOk a p 2 x = true then [(2, (atT p 2 x).toNat)] else [])) := hid (by rw [part_three, HX.out]; rfl)
            cases hok : atOk a p 2 x with
            | false =>
              rw [hok] at HNA HSt
              have HSt2 : Hid (part a p k 3 = part a p k 2) := hid (by rw [HSt.out]; simp)
              clear HSt hok y2 y3
              generalize atB a p 2 x = qb at *
              generalize atA a p 2 x = qa at *
              gi_wp2_with (refine ⟨trivial, ?_⟩; gi_at_call 104; refine (callsIn_wide.2 HNA.out).mono ?_; rintro e w1 ⟨rfl, b1⟩)
              have hs1 := b1.size
              have HJ1 := hid (hJa pre2 wr2 w1 none HJs2.out (grown_of b1) (fun r e => by cases e))
              have b2 : Below wr2.heap.size wr2 (w1.alloc (.cells #[.int .i64 qb, .int .i64 qa] 119)) := b1.alloc hs1 _
              have HJ2 := hid (hJa pre2 wr2 _ none HJs2.out (grown_of b2) (fun r e => by cases e))
              have HKQ3 := hid (HKQ2.out.trans (KQ.ofBelow b2 (Nat.le_trans hn0 HKQ2.out.bl.size) (Nat.lt_of_lt_of_le hBs HKQ2.out.bl.size)))
              clear b1 b2
              gi_wp2
              refine ⟨(fun f hf => by cases hf), ?_⟩
              gi_wp2
              go_roundw
              case rel => exact ⟨3, pre2, by omega, by omega, by go_num, by rw [HPre2.out, HSt2.out], HJ2.out, HKQ3.out⟩
              case measure => simp [intOf]
            | true =>
              obtain ⟨ht0, ht1, hB, hA⟩ := atOk_parts hok
              rw [hok, hB, hA] at HNA
              rw [hok] at HSt
              obtain ⟨t, ht⟩ := Int.eq_ofNat_of_zero_le ht0
              rw [ht] at HNA HSt ht1
              have HSt2 : Hid (part a p k 3 = part a p k 2 ++ [(2, t)]) := hid (by rw [HSt.out]; simp)
              clear HSt hok y2 y3 ht0 hB hA ht
              have hlen : pre2.length < 2 * N := by
                have e1 : pre2.length = (seqP a p k ++ part a p k 2).length := by rw [← HPre2.out]; simp
                have e2 := seqP_len a p k
                have e3 := part_len a p k 2 (by omega) (by omega)
                rw [List.length_append] at e1
                omega
              gi_wp2_with (refine ⟨trivial, ?_⟩; gi_at_call 104; refine (callsIn_wide.2 HNA.out).mono ?_; rintro e w1 ⟨rfl, b1⟩; have b2 : Below wr2.heap.size wr2 (w1.alloc (.cells #[.int .i64 2, .int .i64 (t : Int)] 119)) := b1.alloc b1.size _; have HJ2 := hid (hJa pre2 wr2 _ none HJs2.out (grown_of b2) (fun r e => by cases e)); have HKQ3 := hid (HKQ2.out.trans (KQ.ofBelow b2 (Nat.le_trans hn0 HKQ2.out.bl.size) (Nat.lt_of_lt_of_le hBs HKQ2.out.bl.size))); clear b1 b2; obtain ⟨fn, tmps, assign, body, hy, hR⟩ := hY pre2 ⟨(2, t), by simp, ht1⟩ _ HJ2.out hlen; dsimp only [encN] at hy; have hdep : (Fence.wide.depth.isSome = true → 1 ≤ n - 1) := fun h => by cases h)
              refine hR.mono ?_
              rintro e W3 (⟨rfl, hJ3, hk3⟩ | ⟨rfl, hJx3⟩)
              · have HKQ4 := hid (HKQ3.out.trans hk3)
                have HJ3 := hid hJ3
                clear hJ3 hk3
                gi_wp2
                go_roundw
                case rel => exact ⟨3, _, by omega, by omega, by go_num, by rw [List.map_append, HPre2.out, HSt2.out, List.append_assoc]; rfl, HJ3.out, HKQ4.out⟩
                case measure => simp [intOf]
              · gi_wp2
                refine bodyPost_ret (results_none rfl _ _ _) rfl ?_
                exact ⟨⟨_, rfl⟩, .inr ⟨_, trivial, hJx3⟩⟩
        · obtain rfl : d = 3 := by omega
          gi_wp2
          go_roundw
          case rel => exact ⟨k + 1, x + 1, pre2, by omega, by have := HX.out; omega, by go_num, by rw [HPre2.out, seqP_succ]; rfl, HJs2.out, HKQ2.out⟩
          case measure => simp [intOf]; omega
    · have hxa : ¬ x < a + 3 := by omega
      obtain rfl : k = N := by omega
      gi_wp2
      go_end0
      exact ⟨⟨_, rfl⟩, .inl ⟨pre, HPre.out, HJs.out⟩⟩

theorem needles_stops (n : Nat) (hn : 1 ≤ n) (a p : Int) (ha : 1 ≤ a ∧ a ≤ 24) (hp : -3 ≤ p ∧ p ≤ 3) (N : Nat) (hN : (N : Int) = a + 6) (w0 : World) (pb Bs n₀ : Nat) (hpb : pb < n₀) (hn0 : n₀ ≤ w0.heap.size) (hBs : Bs < w0.heap.size)
    (cB : w0.cell? ⟨Bs, 0, none⟩ = some (.pointer (some ⟨pb, 0, none⟩))) (c0 : w0.cell? ⟨pb, 0, none⟩ = some (.int .i64 a)) (c1 : w0.cell? ⟨pb, 1, none⟩ = some (.int .i64 p)) :
    SeqStopsK Fence.wide n Try.prog 103 #[.pointer (some ⟨Bs, 0, none⟩)] (encN (a := a)) (KQ n₀ Bs) (fun ys => ys.map (fun i => i.val) = seqP a p N) (fun _ => True) (2 * N) w0 := fun l J Jx W hW hJ _ hY h0 =>
  needles1K n hn a p ha hp N hN w0 l pb Bs n₀ hpb hn0 hBs cB c0 c1 J Jx _ hJ hY W (KQ.ofBelow hW hn0 hBs) h0
end Go.Proofs.Ytlhpipcmebmpdab.mc

/- liveLoops of the program. -/
namespace Go.Proofs.Ytlhpipcmebmpdab.mc
open Go.RowKit Go.Sort Go.Proofs.Ytlhpipcmebmpdab.sl Go.Proofs.Ytlhpipcmebmpdab.br Go.Proofs.Ytlhpipcmebmpdab.fn Go.Proofs.Ytlhpipcmebmpdab.ss
set_option linter.unusedVariables false
set_option linter.unusedSimpArgs false
attribute [local go_sem] Oper.semAt_some

abbrev RowL (w : World) (n₀ : Nat) (v : Value) (xs : List Int) : Prop := w.ownsRow n₀ 2 1 v xs.length (xs.map (Value.int .i64))
theorem emN (x : Option Nat) : x = none ∨ x ≠ none := by cases x <;> simp

/-- append as one step of a region inside a round. -/
theorem stepIn_rows {F : Fence} {n : Nat} {ops : Array Oper} {o : Oper} {a : Act} {K : Act → World → Prop} {Q : Exit → Act → World → Prop} {E : Prop} {w : World} (hgd : o.guard = none) (s x : Operand)
    (hop : o.op = .call { callee := .builtin .append, args := #[s, x], argTypes := #[25, 25] })
    (lo : Nat) (v : Value) (xs : List Int) (ho : RowL w lo v xs) (hs : a.eval s = v) (u : Value) (ys : List Int) (C : Nat) (hu : Ints w C u ys) (hnil : NilOk u) (hx : a.eval x = u) (hlo : lo ≤ w.heap.size) (hn : xs.length + ys.length ≤ 1099511627776)
    (hK : ∀ v' w', RowL w' lo v' (xs ++ ys) → w.grownBy w' v.ownBlock → K (a.put o.dst v') w') : if Region.wanted o (yielded ops a.tmps) = true then Oper.wpIn F n Try.prog o a w K Q else E := by
  have hw : Region.wanted o (yielded ops a.tmps) = true := by simp [Region.wanted, hgd]
  rw [if_pos hw]
  obtain ⟨i0, hi', hz0, hz1, hz2⟩ := info_parts info64
  have hrun : ∃ v' w', (Builtin.append_ #[25, 25] o.type #[v, u]).run Try.prog w = .ok v' w' ∧ RowL w' lo v' (xs ++ ys) ∧ w.grownBy w' v.ownBlock := by
    have main : ∀ (ad : Addr) (cap : Nat), u = .slice (some ad) ys.length cap → (∀ j, j < ys.length → w.cell? (ad.add j) = some (.int .i64 (ys.getD j 0))) → ∃ v' w', (Builtin.append_ #[25, 25] o.type #[v, u]).run Try.prog w = .ok v' w' ∧ RowL w' lo v' (xs ++ ys) ∧ w.grownBy w' v.ownBlock := by
      intro ad cap hu' hc
      subst hu'
      obtain ⟨v', w', hr, h2, h3, h4, h5⟩ := run_append_own_at (P := Try.prog) w lo 25 o.type 2 i0 (.int .i64 0) 1 8 Try.underlying25 hi' hz0 hz1 hz2 rfl (by decide) v xs.length (xs.map (Value.int .i64)) ho ad ys.length cap (ys.map (Value.int .i64)) (by simp)
        (fun j q hj => by
          have hj' : j < ys.length := by
            have := (List.getElem?_eq_some_iff.1 hj).1
            simpa using this
          rw [hc j hj']
          simp only [List.getElem?_map, List.getElem?_eq_getElem hj', Option.map_some, Option.some.injEq] at hj
          rw [← hj]
          simp [List.getD, List.getElem?_eq_getElem hj'])
        (ints_oneCell _ _) (by unfold maxLen; omega) (by omega) hlo
      exact ⟨v', w', hr, by unfold RowL; rw [List.length_append, List.map_append]; exact h2, h3⟩
    rcases hu with ⟨rfl, ao, cap, rfl⟩ | ⟨hp, b, off, cap, hv, hb, hc⟩
    · cases ao with
      | none =>
        obtain ⟨_, rfl⟩ := hnil _ _ rfl
        exact ⟨v, w, run_append_owned_none (P := Try.prog) (w := w) lo 25 o.type 2 i0 1 Try.underlying25 hi' v xs.length _ ho, by rw [List.append_nil]; exact ho, ⟨rfl, rfl, rfl, Nat.le_refl _, fun _ _ _ => rfl⟩⟩
      | some ad => exact main ad cap rfl (fun j hj => by simp at hj)
    · exact main ⟨b, off, none⟩ cap hv (fun j hj => by rw [Addr.add_lit]; exact hc j hj)
  obtain ⟨v', w', hr, h2, h3⟩ := hrun
  unfold Oper.wpIn
  refine ⟨by simp [Oper.about, hop, resolve, Target.leads, Sem.run_pure], ?_⟩
  rw [Oper.semAt_plain F _ _ (by rw [hop]; intro c hc'; cases hc')]
  simp [execOp, hop, resolve, invoke, builtin, hs, hx, hr, Result.andThen]
  exact hK _ _ h2 h3

/-- Behind the append, and behind the store. -/
theorem appendedL {W w1 : World} {n₀ B : Nat} {v v' : Value} {xs zs : List Int} (hv : Boxed W B 25 v) (hrow : RowL W n₀ v xs) (hn₀ : n₀ ≤ W.heap.size) (hB : n₀ ≤ B) (hown' : RowL w1 n₀ v' zs) (hgrow : W.grownBy w1 v.ownBlock) :
    Boxed (w1.setCell ⟨B, 0, none⟩ v') B 25 v' ∧ RowL (w1.setCell ⟨B, 0, none⟩ v') n₀ v' zs ∧ KeepsOthers W (w1.setCell ⟨B, 0, none⟩ v') ∧ Below n₀ W (w1.setCell ⟨B, 0, none⟩ v') ∧
      ∀ (b : Nat) (t : TypeId) (u : Value), t ≠ 2 → b ≠ B → Boxed W b t u → Boxed (w1.setCell ⟨B, 0, none⟩ v') b t u := by
  have hte : (25 : TypeId) ≠ 2 := by decide
  have hv1 : Boxed w1 B 25 v := hv.kept hgrow (hv.not_row hte hrow)
  refine ⟨hv1.set v', World.ownsRow.kept hown' (grownBy_setCell' w1 B v') (.inr (hv1.not_row hte hown').symm), ?_, ?_, ?_⟩
  · refine (KeepsOthers.of_grownBy hgrow fun j o ej hj => ?_).trans (KeepsOthers.setCell _ _ _)
    rcases hrow.2 with ⟨rfl, _⟩ | ⟨g, cap, cur, rfl, _, hgb, _⟩
    · simp [Value.ownBlock] at ej
    · obtain rfl : g = j := by simpa [Value.ownBlock] using ej
      rw [hgb] at hj; cases hj; rfl
  · refine ((Below.refl n₀ W).grown hgrow hn₀ fun j ej => ?_).setCell (p := ⟨B, 0, none⟩) hB v'
    rcases hrow.2 with ⟨rfl, _⟩ | ⟨g, cap, cur, rfl, hb, _, _⟩
    · simp [Value.ownBlock] at ej
    · obtain rfl : g = j := by simpa [Value.ownBlock] using ej
      exact hb
  · intro b t u ht hb hu
    have h1 : Boxed w1 b t u := hu.kept hgrow (hu.not_row ht hrow)
    exact h1.kept (grownBy_setCell' w1 B v') (by simp; exact hb)

/-- The loops on a needle that is handed on; all of them. -/
def onQ (m : Mch) (q : Int × Nat) : List Int := onW m q.1 (q.2 : Int)
def liveQ (m : Mch) (qs : List (Int × Nat)) : List Int := (qs.map (onQ m)).flatten
def liveL (a p : Int) (m : Mch) : List Int := liveQ m (seqP a p (a + 6).toNat)
theorem liveQ_snoc (m : Mch) (qs : List (Int × Nat)) (q : Int × Nat) : liveQ m (qs ++ [q]) = liveQ m qs ++ onQ m q := by simp [liveQ]
theorem liveQ_len {a p : Int} {m : Mch} (h : OkM a p m) (qs : List (Int × Nat)) : (liveQ m qs).length ≤ 4 * qs.length := by
  induction qs with
  | nil => simp [liveQ]
  | cons q qs ih =>
    have := onW_len h q.1 (q.2 : Int)
    simp only [liveQ, List.map_cons, List.flatten_cons, List.length_append, List.length_cons, onQ] at ih ⊢
    omega
theorem liveL_len {a p : Int} {m : Mch} (h : OkM a p m) : (liveL a p m).length ≤ 400 := by
  have h1 := liveQ_len h (seqP a p (a + 6).toNat)
  have h2 := seqP_len a p (a + 6).toNat
  have := h.w
  unfold liveL
  omega

theorem needlesOrd (pb : Nat) (w : World) :
    Calls Try.prog 90 #[.pointer (some ⟨pb, 0, none⟩)] w fun e w' => e = .returned (.func (.func 103) #[] #[.pointer (some ⟨w.heap.size, 0, none⟩)]) ∧ w' = w.alloc (.cells #[.pointer (some ⟨pb, 0, none⟩)] 114) := by
  go_enter Try.func90, Try.ntmps90
  go_wp2
  go_ret
  exact ⟨rfl, rfl⟩

/-- What holds between two rounds. -/
def LiveI (w : World) (m : Mch) (a : Int) (pb : Nat) (pre : List (Nd a)) (W : World) : Prop :=
  (∃ v, Boxed W (w.heap.size + 1 + 1) 25 v ∧ W.ownsRow w.heap.size 2 1 v (liveQ m (pre.map (fun i => i.val))).length ((liveQ m (pre.map (fun i => i.val))).map (Value.int .i64)) ∧ True) ∧
    (Below w.heap.size w W ∧ (Boxed W w.heap.size 114 (.pointer (some ⟨pb, 0, none⟩)) ∧ Boxed W (w.heap.size + 1 + 1 + 1) 114 (.pointer (some ⟨pb, 0, none⟩))))
theorem ownFrom_boxed {β : Type} (B b : Nat) (t : TypeId) (v : Value) : OwnFrom B (fun (_ : β) W => Boxed W b t v) := fun _ X Y row hv hg hr => hv.kept hg (fun e' => by
  obtain ⟨_, o, ho, hc⟩ := hr b e'.symm
  rw [show X.heap[b]? = _ from hv] at ho; cases ho; cases hc)
def AxL (a : Int) (w : World) (pb : Nat) (x : Nd a) (act : Act) (W : World) : Prop :=
  ∃ q : Nat, act = { tmps := #[.pointer (some ⟨pb, 0, none⟩), .pointer (some ⟨w.heap.size, 0, none⟩), .slice none 0 0, .pointer (some ⟨w.heap.size + 1 + 1, 0, none⟩), .pointer (some ⟨q, 0, none⟩), .slice (some ⟨w.heap.size + 1, 0, none⟩) 0 0, .pointer (some ⟨pb, 0, none⟩), .func (.func 103) #[] #[.pointer (some ⟨w.heap.size + 1 + 1 + 1, 0, none⟩)], .agg #[.int .i64 x.val.1, .int .i64 (x.val.2 : Int)], undef, undef, undef, undef, undef, undef], defers := [] } ∧
    W.heap[q]? = some (.cells #[.int .i64 x.val.1, .int .i64 (x.val.2 : Int)] 119 (0, 0))
theorem ownFrom_ax {a : Int} (B : Nat) (w : World) (pb : Nat) (x : Nd a) (act : Act) : OwnFrom B (fun (_ : Unit) W => AxL a w pb x act W) := fun _ X Y row ⟨q, h1, h2⟩ hg hr => ⟨q, h1, (hg.block q (Array.getElem?_eq_some_iff.1 h2).1 (fun e' => by
  obtain ⟨_, o, ho, hc⟩ := hr q e'.symm
  rw [h2] at ho; cases ho; cases hc)).trans h2⟩

set_option maxRecDepth 100000 in
set_option maxHeartbeats 8000000 in
theorem liveC (pb : Nat) (a p : Int) (m : Mch) (f0 f1 f2 f3 f4 : Value) (B : Nat) (w : World) (ha : MInC w B f0 f1 f2 f3 f4 m) (hB : B ≤ w.heap.size) (hq : Small m) (hok : OkM a p m)
    (c0 : w.cell? ⟨pb, 0, none⟩ = some (.int .i64 a)) (c1 : w.cell? ⟨pb, 1, none⟩ = some (.int .i64 p)) (c2 : w.cell? ⟨pb, 2, none⟩ = some f0) (c3 : w.cell? ⟨pb, 3, none⟩ = some f1) :
    Calls Try.prog 75 #[.pointer (some ⟨pb, 0, none⟩)] w fun e w' => ∃ v, e = .returned v ∧ sl.Own w' w.heap.size w'.heap.size v (liveL a p m) ∧ Below w.heap.size w w' := by
  obtain ⟨N, hN⟩ : ∃ N : Nat, N = (a + 6).toNat := ⟨_, rfl⟩
  have hw := hok.w
  have hNi : (N : Int) = a + 6 := by omega
  have hpb : pb < w.heap.size := World.block_lt_of_cell? w _ c0
  refine (callsIn_wide (n := 3)).1 ?_
  have hro : Fence.wide.round = none := rfl
  refine callsIn_of_wp_marks Try.func75 rfl trivial ?_ hro
  simp only [Try.ntmps75, List.size_toArray, List.length_cons, List.length_nil, Nat.reduceAdd, Nat.reduceSub, Array.replicate_succ, Array.replicate_zero, List.push_toArray, List.append_toArray, List.nil_append, List.cons_append]
  gi_wp2_with (refine ⟨trivial, ?_⟩; gi_at_call 90; refine (callsIn_wide.2 (needlesOrd pb _)).mono ?_; rintro e w1 ⟨rfl, rfl⟩)
  have hS : ((((w.alloc (.cells #[.pointer (some ⟨pb, 0, none⟩)] 114)).alloc (.cells #[] 2)).alloc (.cells #[.slice (some ⟨w.heap.size + 1, 0, none⟩) 0 0] 25)).alloc (.cells #[.pointer (some ⟨pb, 0, none⟩)] 114)).heap.size = w.heap.size + 4 := by simp
  have hB1 : Below w.heap.size w ((((w.alloc (.cells #[.pointer (some ⟨pb, 0, none⟩)] 114)).alloc (.cells #[] 2)).alloc (.cells #[.slice (some ⟨w.heap.size + 1, 0, none⟩) 0 0] 25)).alloc (.cells #[.pointer (some ⟨pb, 0, none⟩)] 114)) := ((((Below.refl _ w).alloc (by simp) _).alloc (by simp) _).alloc (by simp; omega) _).alloc (by simp; omega) _
  have hI0 : LiveI w m a pb [] ((((w.alloc (.cells #[.pointer (some ⟨pb, 0, none⟩)] 114)).alloc (.cells #[] 2)).alloc (.cells #[.slice (some ⟨w.heap.size + 1, 0, none⟩) 0 0] 25)).alloc (.cells #[.pointer (some ⟨pb, 0, none⟩)] 114)) := by
    refine ⟨⟨.slice (some ⟨w.heap.size + 1, 0, none⟩) 0 0, ?_, ?_, trivial⟩, hB1, ?_, ?_⟩
    · exact (show Boxed _ (w.heap.size + 1 + 1) _ _ from by simpa using Boxed.new ((w.alloc (.cells #[.pointer (some ⟨pb, 0, none⟩)] 114)).alloc (.cells #[] 2)) 25 (.slice (some ⟨w.heap.size + 1, 0, none⟩) 0 0)).alloc _
    · have h0 := (Own.built (w.alloc (.cells #[.pointer (some ⟨pb, 0, none⟩)] 114)) #[] rfl).lo (lo' := w.heap.size) (by simp)
      have h1 := (h0.1.alloc (.cells #[.slice (some ⟨w.heap.size + 1, 0, none⟩) 0 0] 25)).alloc (.cells #[.pointer (some ⟨pb, 0, none⟩)] 114)
      simpa [liveQ] using h1
    · exact (((Boxed.new w _ _).alloc _).alloc _).alloc _
    · simpa using Boxed.new (((w.alloc (.cells #[.pointer (some ⟨pb, 0, none⟩)] 114)).alloc (.cells #[] 2)).alloc (.cells #[.slice (some ⟨w.heap.size + 1, 0, none⟩) 0 0] 25)) 114 (.pointer (some ⟨pb, 0, none⟩))
  generalize ((((w.alloc (.cells #[.pointer (some ⟨pb, 0, none⟩)] 114)).alloc (.cells #[] 2)).alloc (.cells #[.slice (some ⟨w.heap.size + 1, 0, none⟩) 0 0] 25)).alloc (.cells #[.pointer (some ⟨pb, 0, none⟩)] 114)) = W1 at *
  have d0 := (hB1.cell (p := ⟨pb, 0, none⟩) hpb).trans c0
  have d1 := (hB1.cell (p := ⟨pb, 1, none⟩) hpb).trans c1
  have dB := hI0.2.2.2.cell
  have hIown : OwnFrom W1.heap.size (LiveI w m a pb) := OwnFrom.and (Own.from (holdsRow_own w.heap.size (w.heap.size + 1 + 1) 25 2 1 (fun pre : List (Nd a) => (liveQ m (pre.map (fun i => i.val))).length) (fun pre => (liveQ m (pre.map (fun i => i.val))).map (Value.int .i64)) (fun _ _ => True)) _) (OwnFrom.and (ownFrom_below (Nat.le_refl _) (by omega)) (OwnFrom.and (ownFrom_boxed _ _ _ _) (ownFrom_boxed _ _ _ _)))
  refine wpIn_rangeFunc_ownH hro (by omega) (gf := 103) (lb := #[.pointer (some ⟨w.heap.size + 1 + 1 + 1, 0, none⟩)]) rfl trivial (enters_of Try.func103 (by kernel_rfl) rfl)
    (needles_stops (3 - 1) (by omega) a p hok.w hok.r N hNi W1 pb (w.heap.size + 1 + 1 + 1) w.heap.size hpb (by omega) (by omega) dB d0 d1)
    (fun h k => h.trans k) (kq_put (by omega) (by omega)) (Below.refl _ _) (fun _ => rfl)
    (LiveI w m a pb) (fun _ _ _ => False) hIown (fun _ _ _ _ _ hs _ _ => hs) hI0 (AxL a w pb) (fun x a' => ownFrom_ax _ w pb x a') ?assign ?body ?done ?stop
  case assign =>
    intro l pre x W K hI hK
    have hsz := hI.2.1.size
    have hbs := hI.2.2.2.lt
    simp only [encN]
    gi_wp2
    exact hK _ _ ((KeepsOthers.alloc W _).from _) (KQ.ofBelow ((Below.refl _ _).alloc (Nat.le_refl _) _) hsz hbs) (hIown.alloc _ hI) ⟨W.heap.size, rfl, World.alloc_heap_new W _⟩
  case body =>
    rintro l pre x a' W hl hr ⟨⟨v, hv, hrow, _⟩, hbl, hbt, hbs⟩ ⟨q, rfl, hq2⟩ hlen
    have hx := x.property
    have hj0 : x.val.2 < m.fr.length := by have := (stk_parts hok.fr).1; omega
    have hj1 : x.val.2 < m.bk.length := by have := (stk_parts hok.bk).1; omega
    have HLo := hid (fun (W : World) (h : Below w.heap.size w W) e2 e3 => loopsOnC pb m x.val.1 x.val.2 f0 f1 f2 f3 f4 B W (ha.below h) hq e2 e3 hx.1 hj0 hj1)
    have hlenA := liveQ_len hok (pre.map (fun i => i.val))
    have hlenC := onW_len hok x.val.1 (x.val.2 : Int)
    have hlenB : (liveQ m (pre.map (fun i => i.val))).length + (onW m x.val.1 (x.val.2 : Int)).length ≤ 1099511627776 := by rw [List.length_map] at hlenA; omega
    have HSn := hid (show liveQ m ((pre ++ [x]).map (fun i => i.val)) = liveQ m (pre.map (fun i => i.val)) ++ onW m x.val.1 (x.val.2 : Int) from by rw [List.map_append, List.map_cons, List.map_nil, liveQ_snoc]; rfl)
    have hn1 : w.heap.size ≤ W.drew.heap.size := hbl.size
    have hfin : ∀ (w1 : World) (v3 : Value) (w3 : World), Below W.drew.heap.size W.drew w1 → Boxed w1 (w.heap.size + 1 + 1) 25 v → RowL w1 w.heap.size v (liveQ m (pre.map (fun i => i.val))) → RowL w3 w.heap.size v3 (liveQ m (pre.map (fun i => i.val)) ++ onW m x.val.1 (x.val.2 : Int)) → w1.grownBy w3 v.ownBlock →
        KeepsFrom W1.heap.size W (w3.setCell ⟨w.heap.size + 1 + 1, 0, none⟩ v3) ∧ KQ w.heap.size (w.heap.size + 1 + 1 + 1) W (w3.setCell ⟨w.heap.size + 1 + 1, 0, none⟩ v3) ∧ LiveI w m a pb (pre ++ [x]) (w3.setCell ⟨w.heap.size + 1 + 1, 0, none⟩ v3) := by
      intro w1 v3 w3 b1 hv1 hr1 hr3 hg3
      have hdr : KeepsOthers W w1 := (KeepsOthers.drew W).trans (KeepsOthers.of_grownBy (grown_of b1) (fun j o e => by cases e))
      obtain ⟨q1, q2, q3, q4, q5⟩ := appendedL hv1 hr1 (Nat.le_trans hn1 b1.size) (by omega) hr3 hg3
      have hbt1 : Boxed w1 w.heap.size 114 (.pointer (some ⟨pb, 0, none⟩)) := Boxed.kept (W := W.drew) hbt (grown_of b1) (by simp)
      have hbs1 : Boxed w1 (w.heap.size + 1 + 1 + 1) 114 (.pointer (some ⟨pb, 0, none⟩)) := Boxed.kept (W := W.drew) hbs (grown_of b1) (by simp)
      have hbt2 := q5 w.heap.size _ _ (by decide) (by omega) hbt1
      have hbs2 := q5 (w.heap.size + 1 + 1 + 1) _ _ (by decide) (by omega) hbs1
      have bW : Below w.heap.size W w1 := (Below.refl w.heap.size W).drew.trans (b1.mono hn1)
      refine ⟨(hdr.trans q3).from _, ⟨bW.trans q4, hbs2.trans hbs.symm⟩, ⟨⟨v3, q1, ?_, trivial⟩, hbl.trans (bW.trans q4), hbt2, hbs2⟩⟩
      rw [HSn.out]
      exact q2
    have HBd : Hid (Below w.heap.size w W.drew) := hid hbl.drew
    have cL2 : W.drew.cell? ⟨pb, 2, none⟩ = some f0 := (HBd.out.cell (p := ⟨pb, 2, none⟩) hpb).trans c2
    have cL3 : W.drew.cell? ⟨pb, 3, none⟩ = some f1 := (HBd.out.cell (p := ⟨pb, 3, none⟩) hpb).trans c3
    have HVd : Hid (Boxed W.drew (w.heap.size + 1 + 1) 25 v) := hid hv
    have HRd : Hid (RowL W.drew w.heap.size v (liveQ m (pre.map (fun i => i.val)))) := hid hrow
    have cL : W.drew.cell? ⟨w.heap.size + 1 + 1, 0, none⟩ = some v := hv.cell
    have cS : W.drew.cell? ⟨w.heap.size, 0, none⟩ = some (.pointer (some ⟨pb, 0, none⟩)) := hbt.cell
    have cN0 : W.drew.cell? ⟨q, 0, none⟩ = some (.int .i64 x.val.1) := by show W.cell? _ = _; simp [World.cell?, hq2]
    have cN1 : W.drew.cell? ⟨q, 1, none⟩ = some (.int .i64 (x.val.2 : Int)) := by show W.cell? _ = _; simp [World.cell?, hq2]
    clear hv hrow hbl hbt hbs hq2 hlenA hlenC c0 c1 c2 c3 d0 d1 dB hI0 hIown hB1
    have hmix : Try.prog.follows .mixedOrders = true := by kernel_rfl
    gi_wp2_with fail
    refine wpIn_region_any hmix ?_
    change wpAnyIn _ _ _ _ _ _ _ _ _ (World.drew _)
    refine wpAnyIn_ready (rs := [0, 1, 2]) (by kernel_rfl) (by simp) ?_
    refine AllReadyIn.cons rfl (fun K hK => ?_) ?_
    · go_simp
      refine hK _ _ ?_
      clear hK K
      refine wpAnyIn_ready (rs := [1, 2]) (by kernel_rfl) (by simp) ?_
      refine AllReadyIn.cons rfl (fun K hK => ?_) ?_
      · go_simp
        refine hK _ _ ?_
        clear hK K
        refine wpAnyIn_ready (rs := [2]) (by kernel_rfl) (by simp) ?_
        refine AllReadyIn.cons rfl (fun K hK => ?_) ?_
        · go_simp
          refine hK _ _ ?_
          clear hK K
          refine wpAnyIn_ready (rs := [3]) (by kernel_rfl) (by simp) ?_
          refine AllReadyIn.cons rfl (fun K hK => ?_) ?_
          · go_simp
            gi_wp2_with (refine ⟨trivial, ?_⟩; gi_at_call 91; refine (CallsIn.inRound l (callsIn_wide.2 (HLo.out _ HBd.out cL2 cL3))).mono ?_; rintro e w1 ⟨u, rfl, iu, nu, b1⟩; have HIu := hid iu; have HNu := hid nu; have HV1 := hid (HVd.out.kept (grown_of b1) (by simp)); have HR1 := hid (HRd.out.kept (grown_of b1) (emN _)); have HB1 := hid b1; have cL := HV1.out.cell; clear iu nu b1)
            (try (refine hK _ _ ?_)); (try clear hK K)
            refine wpAnyIn_ready (rs := [4]) (by kernel_rfl) (by simp) ?_
            refine AllReadyIn.cons rfl (fun K hK => ?_) ?_
            · skip
              refine stepIn_rows rfl _ _ rfl _ _ _ HR1.out rfl u _ _ HIu.out HNu.out rfl (Nat.le_trans hn1 HB1.out.size) hlenB ?_
              intro v3 w3 hr3 hg3
              have HV3 := hid (HV1.out.kept hg3 (HV1.out.not_row (by decide) HR1.out))
              have HFin := hid (hfin w1 v3 w3 HB1.out HV1.out HR1.out hr3 hg3)
              obtain ⟨ao3, cap3, hv3⟩ := br.own_val (sl.Own.mk' hr3)
              clear hr3 hg3
              generalize (liveQ m (pre.map (fun i => i.val)) ++ onW m x.val.1 (x.val.2 : Int)).length = l3 at hv3
              subst hv3
              have cL3' := HV3.out.cell
              have fL3 := HV3.out.frozen
              refine hK _ _ ?_
              clear hK K
              refine wpAnyIn_ready (rs := [5]) (by kernel_rfl) (by simp) ?_
              refine AllReadyIn.cons rfl (fun K hK => ?_) ?_
              · go_simp
                refine hK _ _ ?_
                clear hK K
                refine wpAnyIn_done (by kernel_rfl) ?_ _
                exact HFin.out
              exact AllReadyIn.nil
            exact AllReadyIn.nil
          exact AllReadyIn.nil
        exact AllReadyIn.nil
      refine AllReadyIn.cons rfl (fun K hK => ?_) ?_
      · go_simp
        refine hK _ _ ?_
        clear hK K
        refine wpAnyIn_ready (rs := [1]) (by kernel_rfl) (by simp) ?_
        refine AllReadyIn.cons rfl (fun K hK => ?_) ?_
        · go_simp
          refine hK _ _ ?_
          clear hK K
          refine wpAnyIn_ready (rs := [3]) (by kernel_rfl) (by simp) ?_
          refine AllReadyIn.cons rfl (fun K hK => ?_) ?_
          · go_simp
            gi_wp2_with (refine ⟨trivial, ?_⟩; gi_at_call 91; refine (CallsIn.inRound l (callsIn_wide.2 (HLo.out _ HBd.out cL2 cL3))).mono ?_; rintro e w1 ⟨u, rfl, iu, nu, b1⟩; have HIu := hid iu; have HNu := hid nu; have HV1 := hid (HVd.out.kept (grown_of b1) (by simp)); have HR1 := hid (HRd.out.kept (grown_of b1) (emN _)); have HB1 := hid b1; have cL := HV1.out.cell; clear iu nu b1)
            (try (refine hK _ _ ?_)); (try clear hK K)
            refine wpAnyIn_ready (rs := [4]) (by kernel_rfl) (by simp) ?_
            refine AllReadyIn.cons rfl (fun K hK => ?_) ?_
            · skip
              refine stepIn_rows rfl _ _ rfl _ _ _ HR1.out rfl u _ _ HIu.out HNu.out rfl (Nat.le_trans hn1 HB1.out.size) hlenB ?_
              intro v3 w3 hr3 hg3
              have HV3 := hid (HV1.out.kept hg3 (HV1.out.not_row (by decide) HR1.out))
              have HFin := hid (hfin w1 v3 w3 HB1.out HV1.out HR1.out hr3 hg3)
              obtain ⟨ao3, cap3, hv3⟩ := br.own_val (sl.Own.mk' hr3)
              clear hr3 hg3
              generalize (liveQ m (pre.map (fun i => i.val)) ++ onW m x.val.1 (x.val.2 : Int)).length = l3 at hv3
              subst hv3
              have cL3' := HV3.out.cell
              have fL3 := HV3.out.frozen
              refine hK _ _ ?_
              clear hK K
              refine wpAnyIn_ready (rs := [5]) (by kernel_rfl) (by simp) ?_
              refine AllReadyIn.cons rfl (fun K hK => ?_) ?_
              · go_simp
                refine hK _ _ ?_
                clear hK K
                refine wpAnyIn_done (by kernel_rfl) ?_ _
                exact HFin.out
              exact AllReadyIn.nil
            exact AllReadyIn.nil
          exact AllReadyIn.nil
        exact AllReadyIn.nil
      exact AllReadyIn.nil
    refine AllReadyIn.cons rfl (fun K hK => ?_) ?_
    · go_simp
      refine hK _ _ ?_
      clear hK K
      refine wpAnyIn_ready (rs := [0, 2]) (by kernel_rfl) (by simp) ?_
      refine AllReadyIn.cons rfl (fun K hK => ?_) ?_
      · go_simp
        refine hK _ _ ?_
        clear hK K
        refine wpAnyIn_ready (rs := [2]) (by kernel_rfl) (by simp) ?_
        refine AllReadyIn.cons rfl (fun K hK => ?_) ?_
        · go_simp
          refine hK _ _ ?_
          clear hK K
          refine wpAnyIn_ready (rs := [3]) (by kernel_rfl) (by simp) ?_
          refine AllReadyIn.cons rfl (fun K hK => ?_) ?_
          · go_simp
            gi_wp2_with (refine ⟨trivial, ?_⟩; gi_at_call 91; refine (CallsIn.inRound l (callsIn_wide.2 (HLo.out _ HBd.out cL2 cL3))).mono ?_; rintro e w1 ⟨u, rfl, iu, nu, b1⟩; have HIu := hid iu; have HNu := hid nu; have HV1 := hid (HVd.out.kept (grown_of b1) (by simp)); have HR1 := hid (HRd.out.kept (grown_of b1) (emN _)); have HB1 := hid b1; have cL := HV1.out.cell; clear iu nu b1)
            (try (refine hK _ _ ?_)); (try clear hK K)
            refine wpAnyIn_ready (rs := [4]) (by kernel_rfl) (by simp) ?_
            refine AllReadyIn.cons rfl (fun K hK => ?_) ?_
            · skip
              refine stepIn_rows rfl _ _ rfl _ _ _ HR1.out rfl u _ _ HIu.out HNu.out rfl (Nat.le_trans hn1 HB1.out.size) hlenB ?_
              intro v3 w3 hr3 hg3
              have HV3 := hid (HV1.out.kept hg3 (HV1.out.not_row (by decide) HR1.out))
              have HFin := hid (hfin w1 v3 w3 HB1.out HV1.out HR1.out hr3 hg3)
              obtain ⟨ao3, cap3, hv3⟩ := br.own_val (sl.Own.mk' hr3)
              clear hr3 hg3
              generalize (liveQ m (pre.map (fun i => i.val)) ++ onW m x.val.1 (x.val.2 : Int)).length = l3 at hv3
              subst hv3
              have cL3' := HV3.out.cell
              have fL3 := HV3.out.frozen
              refine hK _ _ ?_
              clear hK K
              refine wpAnyIn_ready (rs := [5]) (by kernel_rfl) (by simp) ?_
              refine AllReadyIn.cons rfl (fun K hK => ?_) ?_
              · go_simp
                refine hK _ _ ?_
                clear hK K
                refine wpAnyIn_done (by kernel_rfl) ?_ _
                exact HFin.out
              exact AllReadyIn.nil
            exact AllReadyIn.nil
          exact AllReadyIn.nil
        exact AllReadyIn.nil
      refine AllReadyIn.cons rfl (fun K hK => ?_) ?_
      · go_simp
        refine hK _ _ ?_
        clear hK K
        refine wpAnyIn_ready (rs := [0, 3]) (by kernel_rfl) (by simp) ?_
        refine AllReadyIn.cons rfl (fun K hK => ?_) ?_
        · go_simp
          refine hK _ _ ?_
          clear hK K
          refine wpAnyIn_ready (rs := [3]) (by kernel_rfl) (by simp) ?_
          refine AllReadyIn.cons rfl (fun K hK => ?_) ?_
          · go_simp
            gi_wp2_with (refine ⟨trivial, ?_⟩; gi_at_call 91; refine (CallsIn.inRound l (callsIn_wide.2 (HLo.out _ HBd.out cL2 cL3))).mono ?_; rintro e w1 ⟨u, rfl, iu, nu, b1⟩; have HIu := hid iu; have HNu := hid nu; have HV1 := hid (HVd.out.kept (grown_of b1) (by simp)); have HR1 := hid (HRd.out.kept (grown_of b1) (emN _)); have HB1 := hid b1; have cL := HV1.out.cell; clear iu nu b1)
            (try (refine hK _ _ ?_)); (try clear hK K)
            refine wpAnyIn_ready (rs := [4]) (by kernel_rfl) (by simp) ?_
            refine AllReadyIn.cons rfl (fun K hK => ?_) ?_
            · skip
              refine stepIn_rows rfl _ _ rfl _ _ _ HR1.out rfl u _ _ HIu.out HNu.out rfl (Nat.le_trans hn1 HB1.out.size) hlenB ?_
              intro v3 w3 hr3 hg3
              have HV3 := hid (HV1.out.kept hg3 (HV1.out.not_row (by decide) HR1.out))
              have HFin := hid (hfin w1 v3 w3 HB1.out HV1.out HR1.out hr3 hg3)
              obtain ⟨ao3, cap3, hv3⟩ := br.own_val (sl.Own.mk' hr3)
              clear hr3 hg3
              generalize (liveQ m (pre.map (fun i => i.val)) ++ onW m x.val.1 (x.val.2 : Int)).length = l3 at hv3
              subst hv3
              have cL3' := HV3.out.cell
              have fL3 := HV3.out.frozen
              refine hK _ _ ?_
              clear hK K
              refine wpAnyIn_ready (rs := [5]) (by kernel_rfl) (by simp) ?_
              refine AllReadyIn.cons rfl (fun K hK => ?_) ?_
              · go_simp
                refine hK _ _ ?_
                clear hK K
                refine wpAnyIn_done (by kernel_rfl) ?_ _
                exact HFin.out
              exact AllReadyIn.nil
            exact AllReadyIn.nil
          exact AllReadyIn.nil
        refine AllReadyIn.cons rfl (fun K hK => ?_) ?_
        · go_simp
          gi_wp2_with (refine ⟨trivial, ?_⟩; gi_at_call 91; refine (CallsIn.inRound l (callsIn_wide.2 (HLo.out _ HBd.out cL2 cL3))).mono ?_; rintro e w1 ⟨u, rfl, iu, nu, b1⟩; have HIu := hid iu; have HNu := hid nu; have HV1 := hid (HVd.out.kept (grown_of b1) (by simp)); have HR1 := hid (HRd.out.kept (grown_of b1) (emN _)); have HB1 := hid b1; have cL := HV1.out.cell; clear iu nu b1)
          (try (refine hK _ _ ?_)); (try clear hK K)
          refine wpAnyIn_ready (rs := [0]) (by kernel_rfl) (by simp) ?_
          refine AllReadyIn.cons rfl (fun K hK => ?_) ?_
          · go_simp
            refine hK _ _ ?_
            clear hK K
            refine wpAnyIn_ready (rs := [4]) (by kernel_rfl) (by simp) ?_
            refine AllReadyIn.cons rfl (fun K hK => ?_) ?_
            · skip
              refine stepIn_rows rfl _ _ rfl _ _ _ HR1.out rfl u _ _ HIu.out HNu.out rfl (Nat.le_trans hn1 HB1.out.size) hlenB ?_
              intro v3 w3 hr3 hg3
              have HV3 := hid (HV1.out.kept hg3 (HV1.out.not_row (by decide) HR1.out))
              have HFin := hid (hfin w1 v3 w3 HB1.out HV1.out HR1.out hr3 hg3)
              obtain ⟨ao3, cap3, hv3⟩ := br.own_val (sl.Own.mk' hr3)
              clear hr3 hg3
              generalize (liveQ m (pre.map (fun i => i.val)) ++ onW m x.val.1 (x.val.2 : Int)).length = l3 at hv3
              subst hv3
              have cL3' := HV3.out.cell
              have fL3 := HV3.out.frozen
              refine hK _ _ ?_
              clear hK K
              refine wpAnyIn_ready (rs := [5]) (by kernel_rfl) (by simp) ?_
              refine AllReadyIn.cons rfl (fun K hK => ?_) ?_
              · go_simp
                refine hK _ _ ?_
                clear hK K
                refine wpAnyIn_done (by kernel_rfl) ?_ _
                exact HFin.out
              exact AllReadyIn.nil
            exact AllReadyIn.nil
          exact AllReadyIn.nil
        exact AllReadyIn.nil
      exact AllReadyIn.nil
    refine AllReadyIn.cons rfl (fun K hK => ?_) ?_
    · go_simp
      refine hK _ _ ?_
      clear hK K
      refine wpAnyIn_ready (rs := [0, 1]) (by kernel_rfl) (by simp) ?_
      refine AllReadyIn.cons rfl (fun K hK => ?_) ?_
      · go_simp
        refine hK _ _ ?_
        clear hK K
        refine wpAnyIn_ready (rs := [1]) (by kernel_rfl) (by simp) ?_
        refine AllReadyIn.cons rfl (fun K hK => ?_) ?_
        · go_simp
          refine hK _ _ ?_
          clear hK K
          refine wpAnyIn_ready (rs := [3]) (by kernel_rfl) (by simp) ?_
          refine AllReadyIn.cons rfl (fun K hK => ?_) ?_
          · go_simp
            gi_wp2_with (refine ⟨trivial, ?_⟩; gi_at_call 91; refine (CallsIn.inRound l (callsIn_wide.2 (HLo.out _ HBd.out cL2 cL3))).mono ?_; rintro e w1 ⟨u, rfl, iu, nu, b1⟩; have HIu := hid iu; have HNu := hid nu; have HV1 := hid (HVd.out.kept (grown_of b1) (by simp)); have HR1 := hid (HRd.out.kept (grown_of b1) (emN _)); have HB1 := hid b1; have cL := HV1.out.cell; clear iu nu b1)
            (try (refine hK _ _ ?_)); (try clear hK K)
            refine wpAnyIn_ready (rs := [4]) (by kernel_rfl) (by simp) ?_
            refine AllReadyIn.cons rfl (fun K hK => ?_) ?_
            · skip
              refine stepIn_rows rfl _ _ rfl _ _ _ HR1.out rfl u _ _ HIu.out HNu.out rfl (Nat.le_trans hn1 HB1.out.size) hlenB ?_
              intro v3 w3 hr3 hg3
              have HV3 := hid (HV1.out.kept hg3 (HV1.out.not_row (by decide) HR1.out))
              have HFin := hid (hfin w1 v3 w3 HB1.out HV1.out HR1.out hr3 hg3)
              obtain ⟨ao3, cap3, hv3⟩ := br.own_val (sl.Own.mk' hr3)
              clear hr3 hg3
              generalize (liveQ m (pre.map (fun i => i.val)) ++ onW m x.val.1 (x.val.2 : Int)).length = l3 at hv3
              subst hv3
              have cL3' := HV3.out.cell
              have fL3 := HV3.out.frozen
              refine hK _ _ ?_
              clear hK K
              refine wpAnyIn_ready (rs := [5]) (by kernel_rfl) (by simp) ?_
              refine AllReadyIn.cons rfl (fun K hK => ?_) ?_
              · go_simp
                refine hK _ _ ?_
                clear hK K
                refine wpAnyIn_done (by kernel_rfl) ?_ _
                exact HFin.out
              exact AllReadyIn.nil
            exact AllReadyIn.nil
          exact AllReadyIn.nil
        exact AllReadyIn.nil
      refine AllReadyIn.cons rfl (fun K hK => ?_) ?_
      · go_simp
        refine hK _ _ ?_
        clear hK K
        refine wpAnyIn_ready (rs := [0, 3]) (by kernel_rfl) (by simp) ?_
        refine AllReadyIn.cons rfl (fun K hK => ?_) ?_
        · go_simp
          refine hK _ _ ?_
          clear hK K
          refine wpAnyIn_ready (rs := [3]) (by kernel_rfl) (by simp) ?_
          refine AllReadyIn.cons rfl (fun K hK => ?_) ?_
          · go_simp
            gi_wp2_with (refine ⟨trivial, ?_⟩; gi_at_call 91; refine (CallsIn.inRound l (callsIn_wide.2 (HLo.out _ HBd.out cL2 cL3))).mono ?_; rintro e w1 ⟨u, rfl, iu, nu, b1⟩; have HIu := hid iu; have HNu := hid nu; have HV1 := hid (HVd.out.kept (grown_of b1) (by simp)); have HR1 := hid (HRd.out.kept (grown_of b1) (emN _)); have HB1 := hid b1; have cL := HV1.out.cell; clear iu nu b1)
            (try (refine hK _ _ ?_)); (try clear hK K)
            refine wpAnyIn_ready (rs := [4]) (by kernel_rfl) (by simp) ?_
            refine AllReadyIn.cons rfl (fun K hK => ?_) ?_
            · skip
              refine stepIn_rows rfl _ _ rfl _ _ _ HR1.out rfl u _ _ HIu.out HNu.out rfl (Nat.le_trans hn1 HB1.out.size) hlenB ?_
              intro v3 w3 hr3 hg3
              have HV3 := hid (HV1.out.kept hg3 (HV1.out.not_row (by decide) HR1.out))
              have HFin := hid (hfin w1 v3 w3 HB1.out HV1.out HR1.out hr3 hg3)
              obtain ⟨ao3, cap3, hv3⟩ := br.own_val (sl.Own.mk' hr3)
              clear hr3 hg3
              generalize (liveQ m (pre.map (fun i => i.val)) ++ onW m x.val.1 (x.val.2 : Int)).length = l3 at hv3
              subst hv3
              have cL3' := HV3.out.cell
              have fL3 := HV3.out.frozen
              refine hK _ _ ?_
              clear hK K
              refine wpAnyIn_ready (rs := [5]) (by kernel_rfl) (by simp) ?_
              refine AllReadyIn.cons rfl (fun K hK => ?_) ?_
              · go_simp
                refine hK _ _ ?_
                clear hK K
                refine wpAnyIn_done (by kernel_rfl) ?_ _
                exact HFin.out
              exact AllReadyIn.nil
            exact AllReadyIn.nil
          exact AllReadyIn.nil
        refine AllReadyIn.cons rfl (fun K hK => ?_) ?_
        · go_simp
          gi_wp2_with (refine ⟨trivial, ?_⟩; gi_at_call 91; refine (CallsIn.inRound l (callsIn_wide.2 (HLo.out _ HBd.out cL2 cL3))).mono ?_; rintro e w1 ⟨u, rfl, iu, nu, b1⟩; have HIu := hid iu; have HNu := hid nu; have HV1 := hid (HVd.out.kept (grown_of b1) (by simp)); have HR1 := hid (HRd.out.kept (grown_of b1) (emN _)); have HB1 := hid b1; have cL := HV1.out.cell; clear iu nu b1)
          (try (refine hK _ _ ?_)); (try clear hK K)
          refine wpAnyIn_ready (rs := [0]) (by kernel_rfl) (by simp) ?_
          refine AllReadyIn.cons rfl (fun K hK => ?_) ?_
          · go_simp
            refine hK _ _ ?_
            clear hK K
            refine wpAnyIn_ready (rs := [4]) (by kernel_rfl) (by simp) ?_
            refine AllReadyIn.cons rfl (fun K hK => ?_) ?_
            · skip
              refine stepIn_rows rfl _ _ rfl _ _ _ HR1.out rfl u _ _ HIu.out HNu.out rfl (Nat.le_trans hn1 HB1.out.size) hlenB ?_
              intro v3 w3 hr3 hg3
              have HV3 := hid (HV1.out.kept hg3 (HV1.out.not_row (by decide) HR1.out))
              have HFin := hid (hfin w1 v3 w3 HB1.out HV1.out HR1.out hr3 hg3)
              obtain ⟨ao3, cap3, hv3⟩ := br.own_val (sl.Own.mk' hr3)
              clear hr3 hg3
              generalize (liveQ m (pre.map (fun i => i.val)) ++ onW m x.val.1 (x.val.2 : Int)).length = l3 at hv3
              subst hv3
              have cL3' := HV3.out.cell
              have fL3 := HV3.out.frozen
              refine hK _ _ ?_
              clear hK K
              refine wpAnyIn_ready (rs := [5]) (by kernel_rfl) (by simp) ?_
              refine AllReadyIn.cons rfl (fun K hK => ?_) ?_
              · go_simp
                refine hK _ _ ?_
                clear hK K
                refine wpAnyIn_done (by kernel_rfl) ?_ _
                exact HFin.out
              exact AllReadyIn.nil
            exact AllReadyIn.nil
          exact AllReadyIn.nil
        exact AllReadyIn.nil
      exact AllReadyIn.nil
    exact AllReadyIn.nil
  case done =>
    rintro D ys W hD hys ⟨⟨v, hv, hrow, _⟩, hbl, _⟩ hK
    have hc' := hv.cell
    have hb2 := hbl.trans (belowK_b (n₀ := w.heap.size) (w := W1) (by omega) W D _ (.deferred none) hD hK rfl rfl)
    have hr2 := ownsRow_putObj hrow (.deferred none) hK rfl
    rw [hys] at hr2
    have HE : Hid (liveL a p m = liveQ m (seqP a p N)) := hid (by rw [liveL, ← hN])
    gi_wp2
    refine ⟨by simp, .inl ⟨_, _, rfl, run_takeDeferred hK, ?_⟩⟩
    exact ⟨_, results_tmp rfl _ _ _, v, rfl, by rw [HE.out]; exact sl.Own.mk' hr2, hb2⟩
  case stop =>
    rintro D c pre W _ _ h _
    exact h.elim
end Go.Proofs.Ytlhpipcmebmpdab.mc

/- l07Live of the model; LiveLoops of both sides. -/
namespace Go.Proofs.Ytlhpipcmebmpdab.mc
open Go.RowKit Go.Sort Go.Proofs.Ytlhpipcmebmpdab.sl Go.Proofs.Ytlhpipcmebmpdab.br Go.Proofs.Ytlhpipcmebmpdab.fn Go.Proofs.Ytlhpipcmebmpdab.ss
set_option linter.unusedVariables false
set_option linter.unusedSimpArgs false

/-- A bed's rows, by their number. -/
theorem bed_vals {w : World} {lo hi : Nat} {v : Value} {rows : List (List Int)} (h : ss.ROwn w lo hi v rows) (hp : 0 < rows.length) :
    ∃ (g off cap : Nat) (V : Nat → Value), v = .slice (some ⟨g, off, none⟩) rows.length cap ∧ g < hi ∧ ∀ j, j < rows.length → w.cell? ⟨g, off + j, none⟩ = some (V j) ∧ Ints w hi (V j) (rows.getD j []) ∧ NilOk (V j) := by
  rcases h.2 with ⟨h0, _⟩ | ⟨_, g, off, cap, V, L, H, hv, h1, h2, h3⟩
  · subst h0; simp at hp
  · exact ⟨g, off, cap, V, hv, h2, fun j hj => ⟨(h3 j hj).1, (h3 j hj).2.1.ints.mono (h3 j hj).2.2.2.1, nilok_own (h3 j hj).2.1⟩⟩

set_option maxRecDepth 100000 in
set_option maxHeartbeats 8000000 in
theorem specLive (pb : Nat) (a p : Int) (m : Mch) (f0 f1 f2 f3 f4 : Value) (B : Nat) (w : World) (ha : MInC w B f0 f1 f2 f3 f4 m) (hB : B ≤ w.heap.size) (hq : Small m) (hok : OkM a p m)
    (c0 : w.cell? ⟨pb, 0, none⟩ = some (.int .i64 a)) (c1 : w.cell? ⟨pb, 1, none⟩ = some (.int .i64 p)) (c2 : w.cell? ⟨pb, 2, none⟩ = some f0) (c3 : w.cell? ⟨pb, 3, none⟩ = some f1) :
    Calls Try.prog 55 #[.pointer (some ⟨pb, 0, none⟩)] w fun e w' => ∃ v, e = .returned v ∧ sl.Own w' w.heap.size w'.heap.size v (liveL a p m) ∧ Below w.heap.size w w' := by
  obtain ⟨N, hN⟩ : ∃ N : Nat, N = (a + 6).toNat := ⟨_, rfl⟩
  have HEl : Hid (liveL a p m = liveQ m (seqP a p N)) := hid (by rw [liveL, ← hN])
  obtain ⟨hw0, hw1⟩ := hok.w
  obtain ⟨hr0, hr1⟩ := hok.r
  have hNi : (N : Int) = a + 6 := by omega
  have hpb : pb < w.heap.size := World.block_lt_of_cell? w _ c0
  obtain ⟨lo, hi, hBB, hh, p1, p2, p3, p4, e0, e1, e2, e3, e4, o0, o1, o2, o3, o4⟩ := ha
  have hl0 := (stk_parts hok.fr).1
  have hl1 := (stk_parts hok.bk).1
  obtain ⟨g0, off0, cap0, V0, rfl, hg0, F0⟩ := bed_vals o0 (by omega)
  obtain ⟨g1, off1, cap1, V1, rfl, hg1, F1⟩ := bed_vals o1 (by omega)
  obtain ⟨n0, hn0⟩ : ∃ n, n = m.fr.length := ⟨_, rfl⟩
  obtain ⟨n1, hn1⟩ : ∃ n, n = m.bk.length := ⟨_, rfl⟩
  rw [← hn0] at F0 hl0 c2
  rw [← hn1] at F1 hl1 c3
  have HF0 : Hid (∀ j, j < n0 → w.cell? ⟨g0, off0 + j, none⟩ = some (V0 j) ∧ Ints w B (V0 j) (m.fr.getD j []) ∧ NilOk (V0 j)) := hid fun j hj => ⟨(F0 j hj).1, (F0 j hj).2.1.mono (by omega), (F0 j hj).2.2⟩
  have HF1 : Hid (∀ j, j < n1 → w.cell? ⟨g1, off1 + j, none⟩ = some (V1 j) ∧ Ints w B (V1 j) (m.bk.getD j []) ∧ NilOk (V1 j)) := hid fun j hj => ⟨(F1 j hj).1, (F1 j hj).2.1.mono (by omega), (F1 j hj).2.2⟩
  have hgb0 : g0 < w.heap.size := by omega
  have hgb1 : g1 < w.heap.size := by omega
  have HC0 := hid c0
  have HC1 := hid c1
  have HC2 := hid c2
  have HC3 := hid c3
  have HOk := hid hok
  have hwa : IntKind.i64.wrap (a + 3) = a + 3 := IntWalk.i64_in _ (by omega)
  have hwb : IntKind.i64.wrap (a - 1) = a - 1 := IntWalk.i64_in _ (by omega)
  have hO0 := (Own.built w #[] rfl)
  have hB0 : Below w.heap.size w (w.alloc (.cells #[] 2)) := (Below.refl _ w).alloc (Nat.le_refl _) _
  have HO0 := hid hO0
  have HB0 := hid hB0
  clear o0 o1 o2 o3 o4 F0 F1 hn0 hn1 c0 c1 c2 c3 hok hO0 hB0 hh e0 e1 e2 e3 e4 hg0 hg1 hq hBB
  go_enter Try.func55, Try.ntmps55
  go_wp2
  go_loopw [3, 4] (fun v i wr => ∃ (k : Nat) (x : Int) (u : Value), k ≤ N ∧ x = (k : Int) - 3 ∧ v = u ∧ i = .int .i64 x ∧ sl.Own wr w.heap.size wr.heap.size u (liveQ m (seqP a p k)) ∧ Below w.heap.size w wr)
    (fun _ i _ => (a + 3 - intOf i).toNat)
  case atStart => exact ⟨0, -3, _, Nat.zero_le _, by omega, rfl, rfl, by simpa [liveQ, seqP_zero] using HO0.out, HB0.out⟩
  case round =>
    obtain ⟨k, x, u, hk, hx, rfl, rfl, hor, hbr⟩ := hrel
    have HOr := hid hor
    have HBr := hid hbr
    have y0 := (hbr.cell (p := ⟨pb, 0, none⟩) hpb).trans HC0.out
    have y1 := (hbr.cell (p := ⟨pb, 1, none⟩) hpb).trans HC1.out
    have y2 := (hbr.cell (p := ⟨pb, 2, none⟩) hpb).trans HC2.out
    have y3 := (hbr.cell (p := ⟨pb, 3, none⟩) hpb).trans HC3.out
    have HX := hid hx
    clear hor hbr HO0 HB0
    by_cases hlt : k < N
    · have hxa : x < a + 3 := by omega
      have hxb : -3 ≤ x ∧ x ≤ 30 := by omega
      have HLQ : Hid ((liveQ m (seqP a p k)).length ≤ 400) := hid (by
        have h1 := liveQ_len HOk.out (seqP a p k)
        have h2 := seqP_len a p k
        omega)
      clear hx
      cases hok1 : atOk a p 1 x with
      | false =>
        cases hok2 : atOk a p 2 x with
        | false =>
          have HE := hid (show liveQ m (seqP a p (k + 1)) = liveQ m (seqP a p k) from by rw [seqP_succ, plc, stepB, stepB, ← HX.out, hok1, hok2]; simp [liveQ, onQ])
          have HI1 := hid (fun W => vr.inQ x 0 (a - 1) false (by simpa [atOk, atT, inB] using hok1) W)
          have HI2 := hid (fun W => vr.inQ (x - p) 0 (a - 1) false (by simpa [atOk, atT, inB] using hok2) W)
          have hwx : IntKind.i64.wrap (x - p) = x - p := IntWalk.i64_in _ (by omega)
          clear hok1 hok2
          have HIx := hid HI1.out
          go_wp2_with fail
          refine (HI1.out _).mono ?_
          rintro e w9 ⟨rfl, hw9⟩
          subst w9
          go_wp2_with fail
          refine (HI2.out _).mono ?_
          rintro e w9 ⟨rfl, hw9⟩
          subst w9
          go_wp2
          go_roundw
          case rel => exact ⟨k + 1, x + 1, _, by omega, by have := HX.out; omega, rfl, by go_num, by rw [HE.out]; exact HOr.out, HBr.out⟩
          case measure => simp [intOf]; omega
        | true =>
          obtain ⟨hs0, hs1, _, _⟩ := atOk_parts hok2
          have hs0' : 0 ≤ x - p := by simpa [atT] using hs0
          have hs1' : x - p < a := by simpa [atT] using hs1
          obtain ⟨j2, hj2⟩ := Int.eq_ofNat_of_zero_le hs0'
          have HE := hid (show liveQ m (seqP a p (k + 1)) = liveQ m (seqP a p k) ++ onW m 2 (j2 : Int) from by rw [seqP_succ, plc, stepB, stepB, ← HX.out, hok1, hok2, show (atT p 2 x).toNat = j2 from by simp [atT, hj2]]; simp [liveQ, onQ])
          have HI1 := hid (fun W => vr.inQ x 0 (a - 1) false (by simpa [atOk, atT, inB] using hok1) W)
          have HI2 := hid (fun W => vr.inQ (x - p) 0 (a - 1) true (by simpa [atOk, atT, inB] using hok2) W)
          have hjn2 : j2 < n1 := by omega
          have hjI2 : (j2 : Int) < (n1 : Int) := by omega
          obtain ⟨k1, k2, k3⟩ := HF1.out j2 hjn2
          have HZ1 := hid k1
          have z1 := (HBr.out.cell (p := ⟨g1, off1 + j2, none⟩) (by show g1 < _; omega)).trans k1
          have HV2 := hid (k2)
          have HN2 := hid k3
          have HL2 := hid (onW_len HOk.out 2 (j2 : Int))
          rw [show m.bk.getD j2 [] = onW m 2 (j2 : Int) from by simp [onW]] at HV2
          rw [hj2] at HI2
          have hwx : IntKind.i64.wrap (x - p) = (j2 : Int) := by rw [IntWalk.i64_in _ (by omega)]; exact hj2
          clear hs0 hs1 hs0' hs1' k1 k2 k3 hj2
          generalize V1 j2 = u2 at *
          clear hok1 hok2
          have HIx := hid HI1.out
          go_wp2_with fail
          refine (HI1.out _).mono ?_
          rintro e w9 ⟨rfl, hw9⟩
          subst w9
          go_wp2_with fail
          refine (HI2.out _).mono ?_
          rintro e w9 ⟨rfl, hw9⟩
          subst w9
          have HV2' := hid (HV2.out.chg (Chg.ofBelow (lo := 0) HBr.out) (.inr (Nat.zero_le _)))
          go_wp2_with (at_builtin; refine wp_appendAll rfl _ _ rfl w.heap.size wr.heap.size _ _ HOr.out rfl u2 _ B HV2'.out HN2.out rfl HBr.out.size (by have := HLQ.out; have := HL2.out; omega) ?_; intro v5 w5 o5 c5; have HB5 := hid (HBr.out.trans (c5.below (Nat.le_refl _) HBr.out.size)); have HO5 := hid o5; clear o5 c5)
          go_roundw
          case rel => exact ⟨k + 1, x + 1, _, by omega, by have := HX.out; omega, rfl, by go_num, by rw [HE.out]; exact HO5.out, HB5.out⟩
          case measure => simp [intOf]; omega
      | true =>
        cases hok2 : atOk a p 2 x with
        | false =>
          obtain ⟨ht0, ht1, _, _⟩ := atOk_parts hok1
          have ht0' : 0 ≤ x := by simpa [atT] using ht0
          have ht1' : x < a := by simpa [atT] using ht1
          obtain ⟨j1, hj1⟩ := Int.eq_ofNat_of_zero_le ht0'
          have HE := hid (show liveQ m (seqP a p (k + 1)) = liveQ m (seqP a p k) ++ onW m 1 (j1 : Int) from by rw [seqP_succ, plc, stepB, stepB, ← HX.out, hok1, hok2, show (atT p 1 x).toNat = j1 from by simp [atT, hj1]]; simp [liveQ, onQ])
          have HI1 := hid (fun W => vr.inQ x 0 (a - 1) true (by simpa [atOk, atT, inB] using hok1) W)
          have HI2 := hid (fun W => vr.inQ (x - p) 0 (a - 1) false (by simpa [atOk, atT, inB] using hok2) W)
          have hjn1 : j1 < n0 := by omega
          have hjI1 : (j1 : Int) < (n0 : Int) := by omega
          obtain ⟨k1, k2, k3⟩ := HF0.out j1 hjn1
          have z0 := (HBr.out.cell (p := ⟨g0, off0 + j1, none⟩) (by show g0 < _; omega)).trans k1
          have HV1 := hid (k2.chg (Chg.ofBelow (lo := 0) HBr.out) (.inr (Nat.zero_le _)))
          have HN1 := hid k3
          have HL1 := hid (onW_len HOk.out 1 (j1 : Int))
          rw [show m.fr.getD j1 [] = onW m 1 (j1 : Int) from by simp [onW]] at HV1
          clear ht0 ht1 ht0' ht1' k1 k2 k3
          generalize V0 j1 = u1 at *
          have hwx : IntKind.i64.wrap (x - p) = x - p := IntWalk.i64_in _ (by omega)
          subst hj1
          clear hok1 hok2
          have HIx := hid HI1.out
          go_wp2_with fail
          refine (HI1.out _).mono ?_
          rintro e w9 ⟨rfl, hw9⟩
          subst w9
          go_wp2_with (at_builtin; refine wp_appendAll rfl _ _ rfl w.heap.size wr.heap.size _ _ HOr.out rfl u1 _ B HV1.out HN1.out rfl HBr.out.size (by have := HLQ.out; have := HL1.out; omega) ?_; intro v4 w4 o4 c4; have HB4 := hid (HBr.out.trans (c4.below (Nat.le_refl _) HBr.out.size)); have HO4 := hid o4; clear o4 c4; have y0 := (HB4.out.cell (p := ⟨pb, 0, none⟩) hpb).trans HC0.out; have y1 := (HB4.out.cell (p := ⟨pb, 1, none⟩) hpb).trans HC1.out; have y3 := (HB4.out.cell (p := ⟨pb, 3, none⟩) hpb).trans HC3.out; refine Classical.byContradiction fun hcontra => ?_; apply hcontra; clear hcontra)
          refine (HI2.out _).mono ?_
          rintro e w9 ⟨rfl, hw9⟩
          subst w9
          go_wp2
          go_roundw
          case rel => exact ⟨k + 1, (j1 : Int) + 1, _, by omega, by have := HX.out; omega, rfl, by go_num, by rw [HE.out]; exact HO4.out, HB4.out⟩
          case measure => simp [intOf]; omega
        | true =>
          obtain ⟨ht0, ht1, _, _⟩ := atOk_parts hok1
          have ht0' : 0 ≤ x := by simpa [atT] using ht0
          have ht1' : x < a := by simpa [atT] using ht1
          obtain ⟨j1, hj1⟩ := Int.eq_ofNat_of_zero_le ht0'
          obtain ⟨hs0, hs1, _, _⟩ := atOk_parts hok2
          have hs0' : 0 ≤ x - p := by simpa [atT] using hs0
          have hs1' : x - p < a := by simpa [atT] using hs1
          obtain ⟨j2, hj2⟩ := Int.eq_ofNat_of_zero_le hs0'
          have HE := hid (show liveQ m (seqP a p (k + 1)) = liveQ m (seqP a p k) ++ onW m 1 (j1 : Int) ++ onW m 2 (j2 : Int) from by rw [seqP_succ, plc, stepB, stepB, ← HX.out, hok1, hok2, show (atT p 1 x).toNat = j1 from by simp [atT, hj1], show (atT p 2 x).toNat = j2 from by simp [atT, hj2]]; simp [liveQ, onQ])
          have HI1 := hid (fun W => vr.inQ x 0 (a - 1) true (by simpa [atOk, atT, inB] using hok1) W)
          have HI2 := hid (fun W => vr.inQ (x - p) 0 (a - 1) true (by simpa [atOk, atT, inB] using hok2) W)
          have hjn1 : j1 < n0 := by omega
          have hjI1 : (j1 : Int) < (n0 : Int) := by omega
          obtain ⟨k1, k2, k3⟩ := HF0.out j1 hjn1
          have z0 := (HBr.out.cell (p := ⟨g0, off0 + j1, none⟩) (by show g0 < _; omega)).trans k1
          have HV1 := hid (k2.chg (Chg.ofBelow (lo := 0) HBr.out) (.inr (Nat.zero_le _)))
          have HN1 := hid k3
          have HL1 := hid (onW_len HOk.out 1 (j1 : Int))
          rw [show m.fr.getD j1 [] = onW m 1 (j1 : Int) from by simp [onW]] at HV1
          clear ht0 ht1 ht0' ht1' k1 k2 k3
          generalize V0 j1 = u1 at *
          have hjn2 : j2 < n1 := by omega
          have hjI2 : (j2 : Int) < (n1 : Int) := by omega
          obtain ⟨k1, k2, k3⟩ := HF1.out j2 hjn2
          have HZ1 := hid k1
          have z1 := (HBr.out.cell (p := ⟨g1, off1 + j2, none⟩) (by show g1 < _; omega)).trans k1
          have HV2 := hid (k2)
          have HN2 := hid k3
          have HL2 := hid (onW_len HOk.out 2 (j2 : Int))
          rw [show m.bk.getD j2 [] = onW m 2 (j2 : Int) from by simp [onW]] at HV2
          rw [hj2] at HI2
          have hwx : IntKind.i64.wrap (x - p) = (j2 : Int) := by rw [IntWalk.i64_in _ (by omega)]; exact hj2
          clear hs0 hs1 hs0' hs1' k1 k2 k3 hj2
          generalize V1 j2 = u2 at *
          subst hj1
          clear hok1 hok2
          have HIx := hid HI1.out
          go_wp2_with fail
          refine (HI1.out _).mono ?_
          rintro e w9 ⟨rfl, hw9⟩
          subst w9
          go_wp2_with (at_builtin; refine wp_appendAll rfl _ _ rfl w.heap.size wr.heap.size _ _ HOr.out rfl u1 _ B HV1.out HN1.out rfl HBr.out.size (by have := HLQ.out; have := HL1.out; omega) ?_; intro v4 w4 o4 c4; have HB4 := hid (HBr.out.trans (c4.below (Nat.le_refl _) HBr.out.size)); have HO4 := hid o4; clear o4 c4; have y0 := (HB4.out.cell (p := ⟨pb, 0, none⟩) hpb).trans HC0.out; have y1 := (HB4.out.cell (p := ⟨pb, 1, none⟩) hpb).trans HC1.out; have y3 := (HB4.out.cell (p := ⟨pb, 3, none⟩) hpb).trans HC3.out; have z1 := (HB4.out.cell (p := ⟨g1, off1 + j2, none⟩) (by show g1 < _; omega)).trans HZ1.out; refine Classical.byContradiction fun hcontra => ?_; apply hcontra; clear hcontra)
          refine (HI2.out _).mono ?_
          rintro e w9 ⟨rfl, hw9⟩
          subst w9
          have HV2' := hid (HV2.out.chg (Chg.ofBelow (lo := 0) HB4.out) (.inr (Nat.zero_le _)))
          go_wp2_with (at_builtin; refine wp_appendAll rfl _ _ rfl w.heap.size w4.heap.size _ _ HO4.out rfl u2 _ B HV2'.out HN2.out rfl HB4.out.size (by have := HLQ.out; have := HL2.out; have := HL1.out; rw [List.length_append]; omega) ?_; intro v5 w5 o5 c5; have HB5 := hid (HB4.out.trans (c5.below (Nat.le_refl _) HB4.out.size)); have HO5 := hid o5; clear o5 c5)
          go_roundw
          case rel => exact ⟨k + 1, (j1 : Int) + 1, _, by omega, by have := HX.out; omega, rfl, by go_num, by rw [HE.out]; exact HO5.out, HB5.out⟩
          case measure => simp [intOf]; omega
    · have hxa : ¬ x < a + 3 := by omega
      obtain rfl : k = N := by omega
      go_wp2
      go_ret
      exact ⟨_, rfl, by rw [HEl.out]; exact HOr.out, HBr.out⟩
end Go.Proofs.Ytlhpipcmebmpdab.mc

/- LiveLoops of program and model. -/
namespace Go.Proofs.Ytlhpipcmebmpdab.mc
open Go.RowKit Go.Sort Go.Proofs.Ytlhpipcmebmpdab.sl Go.Proofs.Ytlhpipcmebmpdab.br Go.Proofs.Ytlhpipcmebmpdab.fn Go.Proofs.Ytlhpipcmebmpdab.ss
set_option linter.unusedVariables false
set_option linter.unusedSimpArgs false

def lvL (a p : Int) (m : Mch) : List Int := if okM a p m = true then liveL a p m else []
def lvC (a p : Int) (m : Mch) : Int := if okM a p m = true then 0 else 1
theorem lvL_len (a p : Int) (m : Mch) : (lvL a p m).length ≤ 20000 := by
  unfold lvL
  split
  · rename_i h
    have := liveL_len (okM_parts h)
    omega
  · simp


end Go.Proofs.Ytlhpipcmebmpdab.mc
