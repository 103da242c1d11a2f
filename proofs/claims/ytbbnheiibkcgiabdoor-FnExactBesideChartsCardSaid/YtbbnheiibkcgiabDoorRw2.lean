/-
  toInfoS, eqInfoS.
-/
import Derived.Test.YtbbnheiibkcgiabDoorRw1
import Derived.Lib.QuietBelow
namespace Go.Proofs.YtbbnheiibkcgiabDoor.ro
open Go.RowKit Go.Sort Go.Proofs.YtbbnheiibkcgiabDoor.sl Go.Proofs.YtbbnheiibkcgiabDoor.br Go.Proofs.YtbbnheiibkcgiabDoor.ss
set_option linter.unusedVariables false
set_option linter.unusedSimpArgs false

set_option maxRecDepth 100000 in
theorem toI1 (x0 x1 : Int) (ps : List Int) (f : Value) (B : Nat) (w : World) (ha : Ints w B f ps) (hB : B ≤ w.heap.size) (hn : ps.length ≤ 1099511627776) :
    Calls Tryd.prog 34 #[.agg #[.int .i64 x0, .int .i64 x1, f]] w fun e w' => ∃ f', e = .returned (.agg #[.int .i64 x0, .int .i64 x1, f']) ∧ Own w' w.heap.size w'.heap.size f' ps ∧ Below w.heap.size w w' := by
  obtain ⟨ao, cap, hv⟩ := ints_val ha
  obtain ⟨n, hnn⟩ : ∃ n, n = ps.length := ⟨_, rfl⟩
  rw [← hnn] at hv
  subst hv
  have HN := hid hnn
  clear hnn
  have HA := hid ha
  clear ha
  go_enter Tryd.func34, Tryd.ntmps34
  go_wp2_with fail
  refine (toI ps _ B _ (ints_al (ints_al (ints_al HA.out _) _) _) (by simp; omega) hn).mono ?_
  rintro e w1 ⟨v', rfl, o1, b1⟩
  obtain ⟨hc, hf⟩ := bcell b1
  have hz := b1.size
  simp at hz
  obtain ⟨ao1, cap1, hv1⟩ := own_val o1
  rw [← HN.out] at hv1
  subst hv1
  have O1 := hid o1
  have B1 := hid b1
  clear o1 b1
  go_wp2
  refine bodyPost_ret (v := .agg #[.int .i64 x0, .int .i64 x1, .slice ao1 n cap1]) (by simp [results, Tryd.results34, go_sem, hc]) rfl ⟨.slice ao1 n cap1, rfl, ?_, ?_⟩
  · have h1 := O1.out.lo (lo' := w.heap.size + 3) (by simp)
    have h2 := own_other (own_other (own_other (own_other h1 (w.heap.size + 1 + 1) 2 (.slice ao1 n cap1) (by omega)) (w.heap.size + 1) 0 (.int .i64 x0) (by omega)) (w.heap.size + 1) 1 (.int .i64 x1) (by omega)) (w.heap.size + 1) 2 (.slice ao1 n cap1) (by omega)
    have h3 := h2.lo (lo' := w.heap.size) (by omega)
    simpa using h3
  · have h1 := ((((Below.refl w.heap.size w).alloc (Nat.le_refl _) (.cells #[.int .i64 x0, .int .i64 x1, .slice ao n cap] 58)).alloc (by simp) (.cells #[.int .i64 0, .int .i64 0, .slice none 0 0] 50)).alloc (by simp; omega) (.cells #[.int .i64 x0, .int .i64 x1, .slice none 0 0] 50)).trans (B1.out.mono (by simp; omega))
    exact ((((h1.setCell (by simp; omega) _).setCell (by simp) _).setCell (by simp) _).setCell (by simp) _)

theorem infoI : (Tryd.prog.info? 50).map (fun i => (i.zero, i.size, i.bytes)) = some (some (.agg #[.int .i64 0, .int .i64 0, .slice none 0 0]), 3, 40) := by kernel_rfl
def set3 (w : World) (g o : Nat) (x : V) (f : Value) : World :=
  ((w.setCell ⟨g, o, none⟩ (.int .i64 x.a0)).setCell ⟨g, o + 1, none⟩ (.int .i64 x.a1)).setCell ⟨g, o + 2, none⟩ f
theorem set3_other {w : World} {g o q : Nat} {x : V} {f : Value} (h : q < o ∨ o + 3 ≤ q) : (set3 w g o x f).cell? ⟨g, q, none⟩ = w.cell? ⟨g, q, none⟩ := by
  unfold set3
  iterate 3 (rw [ss.other_at (by omega)])
theorem set3_frozen (w : World) (g o : Nat) (x : V) (f : Value) (a : Addr) : (set3 w g o x f).frozen? a = w.frozen? a := by
  unfold set3; simp only [World.frozen?_setCell]
theorem set3_size (w : World) (g o : Nat) (x : V) (f : Value) : (set3 w g o x f).heap.size = w.heap.size := by
  unfold set3; simp
theorem set3_at {w : World} {g o : Nat} {x : V} {f : Value} (hg : g < w.heap.size) (h : ∀ i, i < 3 → ∃ u, w.cell? ⟨g, o + i, none⟩ = some u) : At (set3 w g o x f) g o x f := by
  obtain ⟨u0, h0⟩ := h 0 (by omega)
  obtain ⟨u1, h1⟩ := h 1 (by omega)
  obtain ⟨u2, h2⟩ := h 2 (by omega)
  rw [Nat.add_zero] at h0
  refine ⟨by rw [set3_size]; exact hg, ?_, ?_, ?_⟩ <;> unfold set3
  · iterate 2 (rw [ss.other_at (by omega)])
    exact ss.same_at h0
  · iterate 1 (rw [ss.other_at (by omega)])
    exact ss.same_at (by rw [ss.other_at (by omega)]; exact h1)
  · exact ss.same_at (by iterate 2 (rw [ss.other_at (by omega)])
                         exact h2)
theorem At.set3 {w : World} {g o q : Nat} {x y : V} {f u : Value} (h : At w g q y u) (hq : q + 3 ≤ o ∨ o + 3 ≤ q) : At (ro.set3 w g o x f) g q y u := by
  refine ⟨by rw [set3_size]; exact h.lt, ?_, ?_, ?_⟩ <;> rw [set3_other (by omega)]
  · exact h.c0
  · exact h.c1
  · exact h.c2
theorem set3_below {w0 w : World} {B g o : Nat} {x : V} {f : Value} (h : Below B w0 w) (hg : B ≤ g) : Below B w0 (set3 w g o x f) := by
  unfold set3
  iterate 3 (refine Below.setCell ?_ (by exact hg) _)
  exact h
theorem set3_own {w : World} {lo hi g o : Nat} {x : V} {f v : Value} {xs : List Int} (h : Own w lo hi v xs) (hg : g < lo ∨ hi ≤ g) : Own (set3 w g o x f) lo hi v xs := by
  unfold set3
  exact own_other (own_other (own_other h _ _ _ hg) _ _ _ hg) _ _ _ hg
theorem At.ex {w : World} {g o : Nat} {x : V} {f : Value} (h : At w g o x f) (i : Nat) (hi : i < 3) : ∃ u, w.cell? ⟨g, o + i, none⟩ = some u := by
  match i, hi with
  | 0, _ => exact ⟨_, h.c0⟩
  | 1, _ => exact ⟨_, h.c1⟩
  | 2, _ => exact ⟨_, h.c2⟩

/-- So many are copied. -/
structure Prt (g n k : Nat) (xs : List V) (wr : World) (F : Nat → Value) (Lo Hi : Nat → Nat) : Prop where
  gsz : g < wr.heap.size
  fr : ∀ o, o < n * 3 → wr.frozen? ⟨g, o, none⟩ = false ∧ ∃ u, wr.cell? ⟨g, o, none⟩ = some u
  row : ∀ j, j < k → At wr g (0 + j * 3) (xs.getD j iz) (F j) ∧ Own wr (Lo j) (Hi j) (F j) (xs.getD j iz).ps ∧ g < Lo j ∧ Hi j ≤ wr.heap.size ∧ ∀ i, i < j → Hi i ≤ Lo j
theorem Prt.step {g n k : Nat} {xs : List V} {wr w1 : World} {F : Nat → Value} {Lo Hi : Nat → Nat} (p : Prt g n k xs wr F Lo Hi) (hk : k < n) (b : Below wr.heap.size wr w1) (v' : Value) (o : Own w1 wr.heap.size w1.heap.size v' (xs.getD k iz).ps) :
    Prt g n (k + 1) xs (set3 w1 g (k * 3) (xs.getD k iz) v') (fun j => if j = k then v' else F j) (fun j => if j = k then wr.heap.size else Lo j) (fun j => if j = k then w1.heap.size else Hi j) := by
  have hg := p.gsz
  have hsz := b.size
  have hce : ∀ o, o < n * 3 → ∃ u, w1.cell? ⟨g, o, none⟩ = some u := fun o ho => by
    obtain ⟨u, hu⟩ := (p.fr o ho).2
    exact ⟨u, (b.cell (p := ⟨g, o, none⟩) hg).trans hu⟩
  refine ⟨by rw [set3_size]; exact Nat.lt_of_lt_of_le hg hsz, fun o ho => ⟨?_, ?_⟩, fun j hj => ?_⟩
  · rw [set3_frozen]
    exact (b.frozen (p := ⟨g, o, none⟩) hg).trans (p.fr o ho).1
  · by_cases h : o < k * 3 ∨ k * 3 + 3 ≤ o
    · rw [set3_other h]; exact hce o ho
    · have A := set3_at (x := xs.getD k iz) (f := v') (w := w1) (g := g) (o := k * 3) (Nat.lt_of_lt_of_le hg hsz) (fun i hi => hce _ (by omega))
      obtain ⟨i, hi⟩ : ∃ i, o = k * 3 + i := ⟨o - k * 3, by omega⟩
      subst hi
      exact A.ex i (by omega)
  · by_cases e : j = k
    · subst e
      simp only [if_true, Nat.zero_add]
      refine ⟨set3_at (Nat.lt_of_lt_of_le hg hsz) (fun i hi => hce _ (by omega)), set3_own o (.inl hg), hg, by rw [set3_size]; omega, fun i hi => ?_⟩
      rw [if_neg (by omega)]
      exact (p.row i hi).2.2.2.1
    · obtain ⟨a1, a2, a3, a4, a5⟩ := p.row j (by omega)
      simp only [if_neg e]
      refine ⟨(a1.below b).set3 (by omega), set3_own (a2.chg (Chg.ofBelow (lo := 0) b) (.inr (.inr (Nat.zero_le _)))) (.inl a3), a3, by rw [set3_size]; omega, fun i hi => ?_⟩
      rw [if_neg (by omega)]; exact a5 i hi
theorem Prt.done {lo g n : Nat} {xs : List V} {wr : World} {F : Nat → Value} {Lo Hi : Nat → Nat} (p : Prt g n n xs wr F Lo Hi) (hlo : lo ≤ g) (hn : n = xs.length) (hp : 0 < n) (cap : Nat) : IOwn wr lo wr.heap.size (.slice (some ⟨g, 0, none⟩) n cap) xs := by
  subst hn
  refine ⟨Nat.le_refl _, .inr ⟨hp, g, cap, F, Lo, Hi, rfl, hlo, p.gsz, fun o ho => (p.fr o ho).1, fun j hj => ?_⟩⟩
  obtain ⟨a1, a2, a3, a4, a5⟩ := p.row j hj
  exact ⟨a1, a2, by omega, a4, .inl a3, fun i hi => .inl (a5 i hi)⟩
def PrtE (g n k : Nat) (xs : List V) (wr : World) : Prop := ∃ F Lo Hi, Prt g n k xs wr F Lo Hi

set_option maxRecDepth 100000 in
set_option maxHeartbeats 2000000 in
theorem toIS (xs : List V) (v : Value) (B : Nat) (w : World) (ha : Infs w B v xs) (hB : B ≤ w.heap.size) (hq : Small xs) :
    Calls Tryd.prog 19 #[v] w fun e w' => ∃ v', e = .returned v' ∧ IOwn w' w.heap.size w'.heap.size v' xs ∧ Below w.heap.size w w' := by
  obtain ⟨i0, hi, hz0, hz1, hz2⟩ := info_parts infoI
  have hn := hq.len
  have HSh := hid hq.short
  clear hq
  rcases ha with ⟨rfl, ao, cap, rfl⟩ | ⟨hp, b, off, cap, F, rfl, hb, hc⟩
  · go_enter Tryd.func19, Tryd.ntmps19
    go_wp2_with (at_make; refine wpList_make_full _ rfl (.tmp 6) (.tmp 6) 26 rfl w.heap.size 50 i0 _ 3 Tryd.underlying26 hi hz0 hz1 .i64 .i64 _ _ 0 rfl rfl (by rfl) (by rfl) (by omega) (by unfold maxLen; omega) (Nat.le_refl _) ?_; intro w1 hown1 hgrow1)
    refine wp_loop_rounds 1 ?_
    rw [rounds_succ]
    go_wp2
    go_ret
    exact ⟨_, rfl, ⟨Nat.le_refl _, .inl ⟨rfl, _, _, rfl⟩⟩, (Below.refl _ _).grown hgrow1 (Nat.le_refl _) (fun k hk => by cases hk)⟩
  · obtain ⟨n, hnn⟩ : ∃ n, n = xs.length := ⟨_, rfl⟩
    rw [← hnn] at hp hc hn HSh ⊢
    have HN := hid hnn
    have HC := hid hc
    clear hnn hc
    go_enter Tryd.func19, Tryd.ntmps19
    go_wp2_with (at_make; refine wpList_make_full _ rfl (.tmp 6) (.tmp 6) 26 rfl w.heap.size 50 i0 _ 3 Tryd.underlying26 hi hz0 hz1 .i64 .i64 _ _ n rfl rfl (by omega) (by omega) (by rw [hz2]; omega) (by unfold maxLen; omega) (Nat.le_refl _) ?_; intro w1 hown1 hgrow1)
    have HP0 : Hid (PrtE w.heap.size n 0 xs w1) := hid ⟨fun _ => .slice none 0 0, fun _ => 0, fun _ => 0, (hown1.lt _ rfl).2, fun o ho => ⟨hown1.frozenAt o, by
      have hx := hown1.cellAt o ho
      have hl : (madeCells (Value.agg #[.int .i64 0, .int .i64 0, .slice none 0 0]).cells (n * 3)).toList.length = n * 3 := hown1.1
      rw [hx]
      exact ⟨_, List.getElem?_eq_getElem (by rw [hl]; exact ho)⟩⟩, fun j hj => by omega⟩
    have HB1 := hid ((Below.refl w.heap.size w).grown hgrow1 (Nat.le_refl _) (fun k hk => by cases hk))
    clear hown1 hgrow1
    go_loopw [4] (fun i wr => ∃ k : Nat, k ≤ n ∧ i = .int .i64 k ∧ PrtE w.heap.size n k xs wr ∧ Below w.heap.size w wr) (fun i _ => n - (intOf i).toNat)
    case atStart => exact ⟨0, Nat.zero_le _, rfl, HP0.out, HB1.out⟩
    case round =>
      obtain ⟨k, hk, rfl, ⟨F1, Lo, Hi, hpr⟩, hbel⟩ := hrel
      have HPr := hid hpr
      have HBel := hid hbel
      have hsz := hbel.size
      clear hbel
      by_cases hlt : k < n
      · have HA := ((HC.out k hlt).1).below HBel.out
        have HI := hid (((HC.out k hlt).2).chg (Chg.ofBelow (lo := 0) HBel.out) (.inr (Nat.zero_le _)))
        have HS := hid (fun W (b : Below wr.heap.size wr W) u (o : Own W wr.heap.size W.heap.size u (xs.getD k iz).ps) => HPr.out.step hlt b u o)
        have hsh := HSh.out k hlt
        clear hpr
        generalize xs.getD k iz = x at HA HI HS hsh
        generalize F k = f at *
        obtain ⟨x0, x1, ps⟩ := x
        have HT := hid (toI1 x0 x1 ps f B wr HI.out (by omega) (by simp only at hsh; omega))
        have c0 := HA.c0
        have c1 := HA.c1
        have c2 := HA.c2
        simp only at c0 c1 c2 hsh
        clear HA HI
        go_wp2_with fail
        refine HT.out.mono ?_
        rintro e w2 ⟨f2, rfl, o2, b2⟩
        clear c0 c1 c2 HT
        have HP2 := hid (HS.out w2 b2 f2 o2)
        have HB2 := hid (HBel.out.trans (b2.mono hsz))
        have HB3 := hid (set3_below (g := w.heap.size) (o := k * 3) (x := ⟨x0, x1, ps⟩) (f := f2) HB2.out (Nat.le_refl _))
        have HFr : Hid (∀ o, o < n * 3 → w2.frozen? ⟨w.heap.size, o, none⟩ = false ∧ ∃ u, w2.cell? ⟨w.heap.size, o, none⟩ = some u) := hid (fun o ho => ⟨(b2.frozen (p := ⟨w.heap.size, o, none⟩) HPr.out.gsz).trans (HPr.out.fr o ho).1, by obtain ⟨u, hu⟩ := (HPr.out.fr o ho).2; exact ⟨u, (b2.cell (p := ⟨w.heap.size, o, none⟩) HPr.out.gsz).trans hu⟩⟩)
        obtain ⟨g0, u0', h0⟩ := HFr.out (k * 3) (by omega)
        obtain ⟨g1, u1', h1⟩ := HFr.out (k * 3 + 1) (by omega)
        obtain ⟨g2, u2', h2⟩ := HFr.out (k * 3 + 2) (by omega)
        obtain ⟨ao2, cap2, hv2⟩ := own_val o2
        generalize ps.length = m2 at *
        subst hv2
        clear o2 b2 HFr
        go_wp2
        clear g0 g1 g2 h0 h1 h2
        go_roundw
        case rel => exact ⟨k + 1, by omega, by go_num, ⟨_, _, _, HP2.out⟩, HB3.out⟩
        case measure => simp [intOf]; omega
      · obtain rfl : k = n := by omega
        have HD := hid (hpr.done (Nat.le_refl _) HN.out hp k)
        clear hpr
        go_wp2
        go_ret
        exact ⟨_, rfl, HD.out, HBel.out⟩

set_option maxRecDepth 100000 in
theorem eqI1 (x0 x1 : Int) (ps : List Int) (f g : Value) (B C : Nat) (w : World) (ha : Ints w B f ps) (hb : Ints w C g ps) (hn : ps.length ≤ 1048576) :
    Calls Tryd.prog 39 #[.agg #[.int .i64 x0, .int .i64 x1, f], .agg #[.int .i64 x0, .int .i64 x1, g]] w fun e w' => e = .returned (.bool true) ∧ Below w.heap.size w w' := by
  have HE := hid (fun W ha hb => eqS ps f g B C W ha hb (by omega))
  have HA := hid (ints_al (ints_al ha (.cells #[.int .i64 x0, .int .i64 x1, f] 50)) (.cells #[.int .i64 x0, .int .i64 x1, g] 50))
  have HB := hid (ints_al (ints_al hb (.cells #[.int .i64 x0, .int .i64 x1, f] 50)) (.cells #[.int .i64 x0, .int .i64 x1, g] 50))
  have HBl : Hid (Below w.heap.size w ((w.alloc (.cells #[.int .i64 x0, .int .i64 x1, f] 50)).alloc (.cells #[.int .i64 x0, .int .i64 x1, g] 50))) := hid (((Below.refl w.heap.size w).alloc (Nat.le_refl _) _).alloc (by simp) _)
  obtain ⟨ao, cap, hv⟩ := ints_val ha
  obtain ⟨ao', cap', hu⟩ := ints_val hb
  clear ha hb
  generalize ps.length = n at *
  subst hv hu
  go_enter Tryd.func39, Tryd.ntmps39
  go_wp2_with fail
  refine (HE.out _ HA.out HB.out).mono ?_
  rintro e w1 ⟨rfl, b1⟩
  have HB1 := hid (HBl.out.trans (b1.mono HBl.out.size))
  clear b1
  go_wp2
  go_ret
  exact ⟨rfl, HB1.out⟩

set_option maxRecDepth 100000 in
set_option maxHeartbeats 2000000 in
theorem eqIS (xs : List V) (f g : Value) (B C : Nat) (w : World) (ha : Infs w B f xs) (hb : Infs w C g xs) (hq : Small xs) :
    Calls Tryd.prog 25 #[f, g] w fun e w' => e = .returned (.bool true) ∧ Below w.heap.size w w' := by
  have hn := hq.len
  have HSh := hid hq.short
  clear hq
  by_cases h0 : xs.length = 0
  · obtain ⟨ao, cap, rfl⟩ := infs_val ha
    obtain ⟨ao', cap', rfl⟩ := infs_val hb
    rw [h0]
    clear ha hb HSh
    go_enter Tryd.func25, Tryd.ntmps25
    go_wp2
    refine wp_loop_rounds 1 ?_
    rw [rounds_succ]
    go_wp2
    go_ret
    exact ⟨rfl, Below.refl _ _⟩
  rcases ha with ⟨h, _⟩ | ⟨hp, b, off, cap, F, rfl, hbb, hc⟩
  · exact absurd (by rw [h]; rfl) h0
  rcases hb with ⟨h, _⟩ | ⟨hp', b', off', cap', G, rfl, hbb', hc'⟩
  · exact absurd (by rw [h]; rfl) h0
  have HC := hid hc
  have HC' := hid hc'
  clear hc hc' h0 hp'
  obtain ⟨n, hnn⟩ : ∃ n, n = xs.length := ⟨_, rfl⟩
  rw [← hnn] at hp hn HC HC' HSh ⊢
  clear hnn
  have mixed : Tryd.prog.follows .mixedOrders = true := by kernel_rfl
  go_enter Tryd.func25, Tryd.ntmps25
  go_wp2
  go_loopw [5] (fun i wr => ∃ k : Nat, k ≤ n ∧ i = .int .i64 k ∧ Below w.heap.size w wr) (fun i _ => n - (intOf i).toNat)
  case atStart => exact ⟨0, Nat.zero_le _, rfl, Below.refl _ _⟩
  case round =>
    obtain ⟨k, hk, rfl, hbel⟩ := hrel
    have HB := hid hbel
    clear hbel
    by_cases hlt : k < n
    · have HA := ((HC.out k hlt).1).below HB.out
      have HA' := ((HC'.out k hlt).1).below HB.out
      have HI := hid (((HC.out k hlt).2).chg (Chg.ofBelow (lo := 0) HB.out) (.inr (Nat.zero_le _)))
      have HI' := hid (((HC'.out k hlt).2).chg (Chg.ofBelow (lo := 0) HB.out) (.inr (Nat.zero_le _)))
      have hsh := HSh.out k hlt
      generalize xs.getD k iz = x at *
      generalize F k = fk at *
      generalize G k = gk at *
      obtain ⟨x0, x1, ps⟩ := x
      simp only at HI HI' hsh
      have HE := hid (fun d os => eqI1 x0 x1 ps fk gk B C (grow (redrawn wr d) os) (HI.out.chg (Chg.ofBelow (lo := 0) (below_regrown wr d os)) (.inr (Nat.zero_le _))) (HI'.out.chg (Chg.ofBelow (lo := 0) (below_regrown wr d os)) (.inr (Nat.zero_le _))) hsh)
      have c0 := fun d os => cell_regrown HA.c0 d os
      have c1 := fun d os => cell_regrown HA.c1 d os
      have c2 := fun d os => cell_regrown HA.c2 d os
      have e0 := fun d os => cell_regrown HA'.c0 d os
      have e1 := fun d os => cell_regrown HA'.c1 d os
      have e2 := fun d os => cell_regrown HA'.c2 d os
      simp only at c0 c1 c2 e0 e1 e2
      clear HA HA' HI HI'
      go_wp2_with fail
      refine wp_region_quiet_below mixed (by kernel_rfl) ?_
      repeat (go_big_quiet_step ((go_at_call 39; exact Calls.regrown_of (HE.out _ _))))
      refine wpQuiet_nil ?_
      intro _ hw'
      obtain ⟨⟨nq, osq⟩, hw''⟩ := hw'
      subst hw''
      clear c0 c1 c2 e0 e1 e2 HE
      have HB2 := hid (HB.out.trans ((below_regrown wr nq osq).mono HB.out.size))
      generalize grow (redrawn wr nq) osq = W2 at *
      go_wp2
      go_roundw
      case rel => exact ⟨k + 1, by omega, by go_num, HB2.out⟩
      case measure => simp [intOf]; omega
    · obtain rfl : k = n := by omega
      go_wp2
      go_ret
      exact ⟨rfl, HB.out⟩
end Go.Proofs.YtbbnheiibkcgiabDoor.ro
