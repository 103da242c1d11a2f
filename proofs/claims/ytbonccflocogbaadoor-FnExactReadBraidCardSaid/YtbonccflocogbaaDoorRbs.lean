/-
  ReadBraid: the model's contract.
-/
import Derived.Test.YtbonccflocogbaaDoorRbm
import Derived.Test.YtbonccflocogbaaDoorRde
import Derived.Test.YtbonccflocogbaaDoorSwd
namespace Go.Proofs.YtbonccflocogbaaDoor.rb
open Go.RowKit Go.Sort Go.Proofs.YtbonccflocogbaaDoor.sl Go.Proofs.YtbonccflocogbaaDoor.sg Go.Proofs.YtbonccflocogbaaDoor.sp Go.Proofs.YtbonccflocogbaaDoor.bw Go.Proofs.YtbonccflocogbaaDoor.bt Go.Proofs.YtbonccflocogbaaDoor.sw
set_option linter.unusedVariables false
set_option linter.unusedSimpArgs false
set_option maxRecDepth 100000

theorem pcs_split (s : ByteArray) : (pcs s).map bts = splitL (bts s) := by
  rw [← parts_split, pcs, List.map_map]; rfl
def hd (s : ByteArray) : ByteArray := (pcs s).headD ByteArray.empty
def hd1 (s : ByteArray) : ByteArray := (hd s).extract 0 ((hd s).size - 1)
def tl (s : ByteArray) : List ByteArray := (pcs s).tail
theorem pcs_cons (s : ByteArray) : pcs s = hd s :: tl s := by
  have := (pcs_len s).1
  unfold hd tl
  cases h : pcs s with
  | nil => rw [h] at this; simp at this
  | cons a l => rfl
theorem hd1_is (s : ByteArray) : bts (hd1 s) = hdOf s := by
  rw [hdOf, ← pcs_split, pcs_cons, List.map_cons, List.headD_cons, hd1, bts_cut, List.drop_zero, List.dropLast_eq_take, bts_len]
theorem tl_is (s : ByteArray) : (tl s).map bts = tlOf s := by
  rw [tlOf, ← pcs_split, pcs_cons]; rfl
theorem no_head {s : ByteArray} (h : nu.rdOk (bts (hd1 s)) = false) : ∀ n xs, ¬ RB s n xs := by
  intro n xs hr
  have e := (rb_read hr).1
  rw [hd1_is, e, (rd_at (bt.ok_small hr.1).1).1] at h
  cases h
theorem no_short {s : ByteArray} (h : (hd s).size < 2) : ∀ n xs, ¬ RB s n xs := by
  intro n xs hr
  have e := rb_split hr
  rw [← pcs_split, pcs_cons, List.map_cons] at e
  have e1 := congrArg List.length (List.cons.inj e).1
  rw [bts_len, hdL, List.length_append] at e1
  have := (itoa_plain (bt.ok_small hr.1).1).2
  have := List.length_pos_iff.2 this
  simp at e1
  omega
theorem no_long {s : ByteArray} (h : 41 < (pcs s).length) : ∀ n xs, ¬ RB s n xs := by
  intro n xs hr
  have e := congrArg List.length (rb_split hr)
  rw [← pcs_split] at e
  have := (bt.ok_small hr.1).2.1
  simp at e
  omega
theorem no_word {s : ByteArray} (j : Nat) (hj : j < (tl s).length) (h : nu.rdOk (bts ((tl s).getD j ByteArray.empty)) = false) : ∀ n xs, ¬ RB s n xs := by
  intro n xs hr
  have e := (rb_read hr).2.1
  rw [← tl_is] at e
  have h1 : ((tl s).map bts)[j]? = (xs.map Lib.itoa)[j]? := by rw [e]
  have hl : (tl s).length = xs.length := by have := congrArg List.length e; simpa using this
  rw [List.getElem?_map, List.getElem?_map, List.getElem?_eq_getElem hj, List.getElem?_eq_getElem (by omega)] at h1
  simp only [Option.map_some, Option.some.injEq] at h1
  rw [List.getD_eq_getElem?_getD, List.getElem?_eq_getElem hj, Option.getD_some, h1, (rd_at (mem_small hr.1 _ (List.getElem_mem _))).1] at h
  cases h
theorem spX (s : ByteArray) : (tl s).map (fun t => nu.rdN (bts t)) = rX s := by
  rw [rX, ← tl_is, List.map_map]; rfl
def mN (s : ByteArray) (k : Nat) : List Int := ((tl s).take k).map (fun t => nu.rdN (bts t))
theorem mN_zero (s : ByteArray) : mN s 0 = [] := by simp [mN]
theorem mN_succ (s : ByteArray) (k : Nat) (h : k < (tl s).length) : mN s (k + 1) = mN s k ++ [nu.rdN (bts ((tl s).getD k ByteArray.empty))] := by
  rw [mN, List.take_succ_eq_append_getElem h, List.map_append, mN, List.getD_eq_getElem?_getD, List.getElem?_eq_getElem h]; rfl
theorem mN_all (s : ByteArray) : mN s (tl s).length = rX s := by rw [mN, List.take_length, spX]
theorem mN_len (s : ByteArray) (k : Nat) (h : k ≤ (tl s).length) : (mN s k).length = k := by simp [mN]; omega
/-- What comes of the last comparison. -/
theorem rb_eq {s : ByteArray} (h0 : 0 < s.size) (h : btx (rN s) (rX s) = s) : rbQ s = true ∧ rbN s = rN s ∧ rbX s = rX s := rb_yes (rb_btx h0 h)
theorem rb_ne {s : ByteArray} (h : ¬ btx (rN s) (rX s) = s) : rbQ s = false ∧ rbN s = 0 ∧ rbX s = [] := rb_no (fun n xs hr => by
  obtain ⟨_, _, e3, e4, _⟩ := rb_read hr
  exact h (by rw [e3, e4]; exact btx_rb hr))
theorem tl_at (s : ByteArray) (k : Nat) : (pcs s).getD (k + 1) ByteArray.empty = (tl s).getD k ByteArray.empty := by rw [pcs_cons]; rfl
theorem hd_at (s : ByteArray) : (pcs s).getD 0 ByteArray.empty = hd s := by rw [pcs_cons]; rfl
theorem hd_size (s : ByteArray) : (hd s).size ≤ s.size := by
  have hm : hd s ∈ pcs s := by rw [pcs_cons]; simp
  simp only [pcs, List.mem_map] at hm
  obtain ⟨x, hx, e⟩ := hm
  have := parts_in s x hx
  rw [← e]; simp [piece]; omega
theorem pcs_size (s : ByteArray) (t : ByteArray) (h : t ∈ pcs s) : t.size ≤ s.size := by
  simp only [pcs, List.mem_map] at h
  obtain ⟨x, hx, rfl⟩ := h
  have := parts_in s x hx
  simp [piece]; omega
theorem tl_size (s : ByteArray) (k : Nat) (hk : k < (tl s).length) : ((tl s).getD k ByteArray.empty).size ≤ s.size := by
  refine pcs_size s _ ?_
  rw [pcs_cons]
  rw [List.getD_eq_getElem?_getD, List.getElem?_eq_getElem hk]
  exact List.mem_cons_of_mem _ (List.getElem_mem _)

/-- A braid's box. -/
structure Bx (X : World) (p : Nat) (x y : Value) : Prop where
  c0 : X.cell? ⟨p, 0, none⟩ = some x
  c1 : X.cell? ⟨p, 1, none⟩ = some y
  f0 : X.frozen? ⟨p, 0, none⟩ = false
  f1 : X.frozen? ⟨p, 1, none⟩ = false
theorem Bx.below {X Y : World} {p B : Nat} {x y : Value} (h : Bx X p x y) (b : Below B X Y) (hp : p < B) : Bx Y p x y :=
  ⟨(b.cell (p := ⟨p, 0, none⟩) hp).trans h.c0, (b.cell (p := ⟨p, 1, none⟩) hp).trans h.c1, (b.frozen (p := ⟨p, 0, none⟩) hp).trans h.f0, (b.frozen (p := ⟨p, 1, none⟩) hp).trans h.f1⟩
theorem Bx.chg {X Y : World} {p lo hi : Nat} {x y : Value} (h : Bx X p x y) (c : Chg lo hi X Y) (hp : p < lo) (hl : lo ≤ X.heap.size) : Bx Y p x y :=
  h.below (c.below (B := lo) (Nat.le_refl _) hl) hp
theorem Bx.other {X Y : World} {p lo hi : Nat} {x y : Value} (h : Bx X p x y) (c : Chg lo hi X Y) (hp : p < lo ∨ hi ≤ p) : Bx Y p x y := by
  have hk : Y.heap[p]? = X.heap[p]? := c.block p (World.block_lt_of_cell? X _ h.c0) (by omega)
  exact ⟨(World.cell?_of_block (w := X) (a := ⟨p, 0, none⟩) hk).trans h.c0, (World.cell?_of_block (w := X) (a := ⟨p, 1, none⟩) hk).trans h.c1, (World.frozen?_of_block (w := X) (a := ⟨p, 0, none⟩) hk).trans h.f0, (World.frozen?_of_block (w := X) (a := ⟨p, 1, none⟩) hk).trans h.f1⟩
theorem Bx.set1 {X : World} {p : Nat} {x y : Value} (h : Bx X p x y) (z : Value) : Bx (X.setCell ⟨p, 1, none⟩ z) p x z :=
  ⟨by rw [ss.other_at (by decide)]; exact h.c0, ss.same_at h.c1, by rw [World.frozen?_setCell]; exact h.f0, by rw [World.frozen?_setCell]; exact h.f1⟩
theorem Bx.set0 {X : World} {p : Nat} {x y : Value} (h : Bx X p x y) (z : Value) : Bx (X.setCell ⟨p, 0, none⟩ z) p z y :=
  ⟨ss.same_at h.c0, by rw [ss.other_at (by decide)]; exact h.c1, by rw [World.frozen?_setCell]; exact h.f0, by rw [World.frozen?_setCell]; exact h.f1⟩
/-- The answer in its box. -/
theorem Bx.fin {w X : World} {x y : Value} (h : Bx X w.heap.size x y) (hb : Below w.heap.size w X) (a b : Value) :
    Bx ((X.setCell ⟨w.heap.size, 0, none⟩ a).setCell ⟨w.heap.size, 1, none⟩ b) w.heap.size a b ∧ Below w.heap.size w ((X.setCell ⟨w.heap.size, 0, none⟩ a).setCell ⟨w.heap.size, 1, none⟩ b) :=
  ⟨(h.set0 a).set1 b, (hb.setCell (Nat.le_refl _) _).setCell (Nat.le_refl _) _⟩
theorem Bx.laid (w : World) (x y : Value) : Bx (w.alloc (.cells #[x, y] 24)) w.heap.size x y := by
  refine ⟨?_, ?_, ?_, ?_⟩ <;> go_simp

theorem specRB (s : ByteArray) (w : World) (hs : s.size ≤ 1048576) :
    Calls Tryd.prog 4 #[.string s] w fun e w' => ∃ ao cap, e = .returned (.tuple #[.agg #[.int .i64 (rbN s), .slice ao (rbX s).length cap], .bool (rbQ s)]) ∧ Own w' w.heap.size w'.heap.size (.slice ao (rbX s).length cap) (rbX s) ∧ Below w.heap.size w w' := by
  have HS := hid (splitS s (w.alloc (.cells #[.int .i64 0, .slice none 0 0] 24)) hs)
  have HBx0 := hid (Bx.laid w (.int .i64 0) (.slice none 0 0))
  have HA0 : Hid (Below w.heap.size w (w.alloc (.cells #[.int .i64 0, .slice none 0 0] 24))) := hid ((Below.refl _ _).alloc (Nat.le_refl _) _)
  obtain ⟨hp0, hp1⟩ := pcs_len s
  go_enter Tryd.func4, Tryd.ntmps4
  go_wp2_with fail
  refine HS.out.mono ?_
  rintro e w1 ⟨v1, rfl, ho1, hb1⟩
  have hz1 : w.heap.size + 1 ≤ w1.heap.size := by have := hb1.size; simpa using this
  have HB1 : Hid (Below w.heap.size w w1) := hid (HA0.out.trans (hb1.mono (by simp)))
  have HBx1 := hid (HBx0.out.below hb1 (by simp))
  have HSo : Hid (SOwn w1 (w.heap.size + 1) w1.heap.size v1 (pcs s)) := hid (by have h : SOwn w1 _ w1.heap.size v1 (pcs s) := ho1; simpa using h)
  obtain ⟨ao1, cap1, rfl⟩ := ho1.val
  clear ho1 hb1 HA0 HBx0 HS
  obtain ⟨n, hn⟩ : ∃ n, n = ((parts s).map (piece s)).length := ⟨_, rfl⟩
  rw [← hn] at HSo ⊢
  change n = (pcs s).length at hn
  rw [← hn] at hp0 hp1
  have hcl : ∀ (X : World), SOwn X (w.heap.size + 1) w1.heap.size (.slice ao1 n cap1) (pcs s) → ∃ g, ao1 = some ⟨g, 0, none⟩ ∧ ∀ j, j < n → X.cell? ⟨g, j, none⟩ = some (.string ((pcs s).getD j ByteArray.empty)) := by
    intro X o
    have o1 := o.1
    rw [← hn] at o1
    rcases o1.2 with ⟨_, h0⟩ | ⟨g, cap, cur, hv, _⟩
    · omega
    · cases hv
      refine ⟨g, rfl, fun j hj => ?_⟩
      rw [o1.cellAt j (by omega)]
      simp [List.getD_eq_getElem?_getD, List.getElem?_eq_getElem (show j < (pcs s).length by omega)]
  obtain ⟨g, rfl, h0⟩ := hcl w1 HSo.out
  have HC : Hid (∀ X, SOwn X (w.heap.size + 1) w1.heap.size (.slice (some ⟨g, 0, none⟩) n cap1) (pcs s) → ∀ j, j < n → X.cell? ⟨g, j, none⟩ = some (.string ((pcs s).getD j ByteArray.empty))) := hid (fun X o => by
    obtain ⟨g', e, h⟩ := hcl X o
    cases e; exact h)
  have h00 := h0 0 hp0
  rw [hd_at] at h00
  clear hcl h0
  by_cases hlong : 41 < n
  · have HQ := hid (rb_no (no_long (s := s) (by omega)))
    clear HC h00 HSo hn
    have b0 := HBx1.out.c0
    have b1 := HBx1.out.c1
    have b2 := HBx1.out.f0
    have b3 := HBx1.out.f1
    go_wp2
    obtain ⟨F1, F2⟩ := Bx.fin HBx1.out HB1.out (.int .i64 0) (.slice none 0 0)
    have r0 := F1.c0
    have r1 := F1.c1
    refine bodyPost_ret (v := .tuple #[.agg #[.int .i64 0, .slice none 0 0], .bool false]) (by simp [results, Tryd.results4, go_sem, r0, r1]) rfl ⟨none, 0, by rw [HQ.out.1, HQ.out.2.1, HQ.out.2.2]; rfl, by rw [HQ.out.2.2]; exact (Own.nil _ _), F2⟩
  · by_cases hshort : (hd s).size < 2
    · have HQ := hid (rb_no (no_short hshort))
      clear HC HSo hn
      have b0 := HBx1.out.c0
      have b1 := HBx1.out.c1
      have b2 := HBx1.out.f0
      have b3 := HBx1.out.f1
      generalize hd s = t at *
      go_wp2
      obtain ⟨F1, F2⟩ := Bx.fin HBx1.out HB1.out (.int .i64 0) (.slice none 0 0)
      have r0 := F1.c0
      have r1 := F1.c1
      refine bodyPost_ret (v := .tuple #[.agg #[.int .i64 0, .slice none 0 0], .bool false]) (by simp [results, Tryd.results4, go_sem, r0, r1]) rfl ⟨none, 0, by rw [HQ.out.1, HQ.out.2.1, HQ.out.2.2]; rfl, by rw [HQ.out.2.2]; exact (Own.nil _ _), F2⟩
    · have HNm := hid (fun W => rn.specNumber (hd1 s) (by have := hd_size s; simp [hd1]; omega) W)
      have HNo := hid (@no_head s)
      change Hid (∀ W, Calls Tryd.prog 10 #[.string ((hd s).extract 0 ((hd s).size - 1))] W _) at HNm
      have h2 : 2 ≤ (hd s).size := by omega
      have hhs := hd_size s
      have hwr : IntKind.i64.wrap (((hd s).size : Int) - 1) = (((hd s).size - 1 : Nat) : Int) := by rw [IntWalk.i64_in _ (by omega)]; omega
      clear hshort
      generalize hd s = t at *
      have c0 := fun d os => cell_regrown h00 d os
      have mixed : Tryd.prog.follows .mixedOrders = true := by kernel_rfl
      have HN := hid hn
      have HLt := hid (tl_size s)
      clear hn
      have HN0 : Hid (rN s = nu.rdN (hd1 s).data.toList) := hid (by show _ = nu.rdN (bts (hd1 s)); rw [rN, hd1_is])
      obtain ⟨nn, hnn⟩ : ∃ x, x = nu.rdN (hd1 s).data.toList := ⟨_, rfl⟩
      obtain ⟨oh, hoh⟩ : ∃ x, x = nu.rdOk (hd1 s).data.toList := ⟨_, rfl⟩
      have HOh : Hid (oh = false → ∀ n xs, ¬ RB s n xs) := hid (fun h => no_head (by rw [← h, hoh]; rfl))
      rw [← hnn, ← hoh] at HNm
      rw [← hnn] at HN0
      clear hnn hoh HNo
      go_wp2_with fail
      refine wp_region_quiet_below mixed (by kernel_rfl) ?_
      repeat (go_big_quiet_step ((go_at_call 10; exact Calls.regrown_of (HNm.out _))))
      refine wpQuiet_nil ?_
      intro _ hw'
      obtain ⟨⟨nq, osq⟩, hw''⟩ := hw'
      subst hw''
      clear c0 HNm
      have hbq := below_regrown w1 nq osq
      have HSo2 := hid (HSo.out.below hbq)
      have HBx2 := hid (HBx1.out.below hbq hz1)
      have HB2 := hid (HB1.out.trans (hbq.mono (by omega)))
      have hz2 := hbq.size
      clear hbq HBx1 HSo HB1
      generalize grow (redrawn w1 nq) osq = w2 at *
      have hml : n ≤ 41 := by omega
      have HM : Hid (n = (tl s).length + 1) := hid (by have := HN.out; rw [pcs_cons, List.length_cons] at this; omega)
      clear HN
      have HSo3 := hid (HSo2.out.below ((Below.refl w2.heap.size w2).alloc (Nat.le_refl _) (.cells #[.int .i64 nn, .slice none 0 0] 24)))
      have HBx3 := hid (HBx2.out.below (B := w2.heap.size) ((Below.refl _ _).alloc (Nat.le_refl _) (.cells #[.int .i64 nn, .slice none 0 0] 24)) (by omega))
      have HBy3 := hid (Bx.laid w2 (.int .i64 nn) (.slice none 0 0))
      have HB3 := hid (HB2.out.trans ((Below.refl w.heap.size w2).alloc (by omega) (.cells #[.int .i64 nn, .slice none 0 0] 24)))
      have HOw3 : Hid (Own (w2.alloc (.cells #[.int .i64 nn, .slice none 0 0] 24)) (w2.heap.size + 1) (w2.alloc (.cells #[.int .i64 nn, .slice none 0 0] 24)).heap.size (.slice none 0 0) (mN s 0)) := hid (by rw [mN_zero]; exact Own.nil _ _)
      clear HSo2 HBx2 HB2
      go_wp2
      go_loopw [6, 8] (fun o i wr => ∃ (k : Nat) (z : Value) (ok : Bool), k + 1 ≤ n ∧ i = .int .i64 ((k : Int) + 1) ∧ o = .bool ok ∧ (ok = false → ∀ n xs, ¬ RB s n xs) ∧ SOwn wr (w.heap.size + 1) w1.heap.size (.slice (some ⟨g, 0, none⟩) n cap1) (pcs s) ∧ Bx wr w.heap.size (.int .i64 0) (.slice none 0 0) ∧ Bx wr w2.heap.size (.int .i64 nn) z ∧ Own wr (w2.heap.size + 1) wr.heap.size z (mN s k) ∧ Below w.heap.size w wr ∧ w2.heap.size + 1 ≤ wr.heap.size) (fun _ i _ => n - (intOf i).toNat)
      case atStart => exact ⟨0, _, oh, by omega, rfl, rfl, HOh.out, HSo3.out, HBx3.out, HBy3.out, HOw3.out, HB3.out, by simp⟩
      case round =>
        obtain ⟨k, z, ok, hk, rfl, rfl, hok, hso, hbx, hby, how, hbw, hzw⟩ := hrel
        obtain ⟨ao, cap, rfl⟩ : ∃ ao cap, z = .slice ao k cap := by
          have h := how.ints
          obtain ⟨ao, cap, hv⟩ := br.ints_val h
          rw [mN_len s k (by have := HM.out; omega)] at hv
          exact ⟨ao, cap, hv⟩
        have HOk := hid hok
        have HSo := hid hso
        have HBx := hid hbx
        have HBy := hid hby
        have HOw := hid how
        have HB := hid hbw
        have HGet := hid (fun X o => HC.out X o (k + 1))
        have hb00 := hby.c0
        have hb01 := hby.c1
        have hb02 := hby.f0
        have hb03 := hby.f1
        clear hok hso hbx hby how hbw HSo3 HBx3 HBy3 HB3 HOw3 HOh
        have hx0 := HBx.out.c0
        have hx1 := HBx.out.c1
        have hx2 := HBx.out.f0
        have hx3 := HBx.out.f1
        by_cases hlt : k + 1 < n
        · cases ok
          · have HQ := hid (rb_no (HOk.out rfl))
            go_wp2
            obtain ⟨F1, F2⟩ := Bx.fin HBx.out HB.out (.int .i64 0) (.slice none 0 0)
            have r0 := F1.c0
            have r1 := F1.c1
            refine bodyPost_ret (v := .tuple #[.agg #[.int .i64 0, .slice none 0 0], .bool false]) (by simp [results, Tryd.results4, go_sem, r0, r1]) rfl ⟨none, 0, by rw [HQ.out.1, HQ.out.2.1, HQ.out.2.2]; rfl, by rw [HQ.out.2.2]; exact (Own.nil _ _), F2⟩
          · have hc0 := HGet.out wr HSo.out (by omega)
            rw [tl_at] at hc0
            have HNm := hid (fun W => rn.specNumber ((tl s).getD k ByteArray.empty) (by have := HLt.out k (by have := HM.out; omega); omega) W)
            have HNo := hid (fun h => @no_word s k (by have := HM.out; omega) h)
            have HSu := hid (mN_succ s k (by have := HM.out; omega))
            change Hid (nu.rdOk ((tl s).getD k ByteArray.empty).data.toList = false → _) at HNo
            change Hid (_ = mN s k ++ [nu.rdN ((tl s).getD k ByteArray.empty).data.toList]) at HSu
            generalize nu.rdOk ((tl s).getD k ByteArray.empty).data.toList = ok at *
            generalize nu.rdN ((tl s).getD k ByteArray.empty).data.toList = x at *
            generalize (tl s).getD k ByteArray.empty = t9 at *
            go_wp2_with fail
            refine (HNm.out _).mono ?_
            rintro e w4 ⟨rfl, hb4⟩
            have hz4 := hb4.size
            have HSo4 := hid (HSo.out.below hb4)
            have HBx4 := hid (HBx.out.below hb4 (by omega))
            have HBy4 := hid (HBy.out.below hb4 (by omega))
            have HOw4 := hid (HOw.out.chg (Chg.ofBelow (lo := 0) hb4) (.inr (.inr (Nat.zero_le _))))
            have HB4 := hid (HB.out.trans (hb4.mono (by omega)))
            have d0 := HBy4.out.c0
            have d1 := HBy4.out.c1
            have d2 := HBy4.out.f0
            have d3 := HBy4.out.f1
            clear hb4 HSo HBx HBy HOw HB hb00 hb01 hb02 hb03 hx0 hx1 hx2 hx3 hc0
            have hl9 : (mN s k ++ [x]).length = k + 1 := by rw [List.length_append, mN_len s k (by have := HM.out; omega)]; rfl
            go_wp2_with (at_builtin; refine wp_append rfl _ _ rfl (w2.heap.size + 1) _ _ _ _ HOw4.out rfl rfl (by omega) (by rw [mN_len s k (by have := HM.out; omega)]; omega) ?_; intro v9 w9 ho9 hc9 hz9; obtain ⟨a9, c9, hv9⟩ := br.own_val ho9; rw [hl9] at hv9; subst hv9; have HO9 := hid ho9; have HSo9 := hid (HSo4.out.chg hc9 (.inl (by omega))); have HBx9 := hid (HBx4.out.chg hc9 (by omega) (by omega)); have HBy9 := hid (HBy4.out.chg hc9 (by omega) (by omega)); have HB9 := hid (HB4.out.trans (hc9.below (by omega) (by omega))); have e1 := HBy9.out.c1; have e3 := HBy9.out.f1; clear ho9 hc9)
            go_roundw
            case rel =>
              refine ⟨k + 1, _, ok, by omega, by go_num, rfl, HNo.out, HSo9.out.chg (br.chg_set _ _ _ _) (.inl (by omega)), HBx9.out.chg (br.chg_set _ _ _ _) (by omega) (by omega), HBy9.out.set1 _, ?_, HB9.out.setCell (show w.heap.size ≤ w2.heap.size by omega) _, by simp; omega⟩
              have h := br.own_other HO9.out w2.heap.size 1 (.slice a9 (k + 1) c9) (.inl (by omega))
              rw [HSu.out]
              simpa using h
            case measure => simp [intOf]; omega
        · obtain rfl : n = k + 1 := by omega
          cases ok
          · have HQ := hid (rb_no (HOk.out rfl))
            go_wp2
            obtain ⟨F1, F2⟩ := Bx.fin HBx.out HB.out (.int .i64 0) (.slice none 0 0)
            have r0 := F1.c0
            have r1 := F1.c1
            refine bodyPost_ret (v := .tuple #[.agg #[.int .i64 0, .slice none 0 0], .bool false]) (by simp [results, Tryd.results4, go_sem, r0, r1]) rfl ⟨none, 0, by rw [HQ.out.1, HQ.out.2.1, HQ.out.2.2]; rfl, by rw [HQ.out.2.2]; exact (Own.nil _ _), F2⟩
          · have hkl : k = (tl s).length := by have := HM.out; omega
            have HX : Hid (mN s k = rX s) := hid (by rw [hkl, mN_all])
            have HLn : Hid ((mN s k).length = k) := hid (mN_len s k (by omega))
            have HBT := hid (specBT nn (mN s k) (.slice ao k cap) wr.heap.size wr HOw.out.c (Nat.le_refl _) ⟨by have := HLn.out; omega⟩)
            have HEq : Hid (btx nn (mN s k) = s → rbQ s = true ∧ rbN s = nn ∧ rbX s = mN s k) := hid (fun h => by
              rw [HX.out, ← HN0.out] at h ⊢
              exact rb_eq (by omega) h)
            have HNe : Hid (¬ btx nn (mN s k) = s → rbQ s = false ∧ rbN s = 0 ∧ rbX s = []) := hid (fun h => by
              rw [HX.out, ← HN0.out] at h
              exact rb_ne h)
            clear hkl HX HM HN0 HOk HGet HC HLt HSo
            generalize mN s k = xs at *
            by_cases hE : btx nn xs = s
            · have HQ := hid (HEq.out hE)
              rw [hE] at HBT
              clear hE HEq HNe
              go_wp2_with fail
              refine HBT.out.mono ?_
              rintro e w5 ⟨rfl, hb5⟩
              have hz5 := hb5.size
              have HBx5 := hid (HBx.out.below hb5 (by omega))
              have HBy5 := hid (HBy.out.below hb5 (by omega))
              have HOw5 := hid (HOw.out.chg (Chg.ofBelow (lo := 0) hb5) (.inr (.inr (Nat.zero_le _))))
              have HB5 := hid (HB.out.trans (hb5.mono (by omega)))
              have d0 := HBy5.out.c0
              have d1 := HBy5.out.c1
              have d2 := HBx5.out.c0
              have d3 := HBx5.out.c1
              have d4 := HBx5.out.f0
              have d5 := HBx5.out.f1
              clear hb5 HBx HBy HOw HB hb00 hb01 hb02 hb03 hx0 hx1 hx2 hx3
              go_wp2
              obtain ⟨F1, F2⟩ := Bx.fin HBx5.out HB5.out (.int .i64 nn) (.slice ao k cap)
              have r0 := F1.c0
              have r1 := F1.c1
              refine bodyPost_ret (v := .tuple #[.agg #[.int .i64 nn, .slice ao k cap], .bool true]) (by simp [results, Tryd.results4, go_sem, r0, r1]) rfl ⟨ao, cap, by rw [HQ.out.1, HQ.out.2.1, HQ.out.2.2, HLn.out], ?_, F2⟩
              rw [HQ.out.2.2, HLn.out]
              have h1 := br.own_other (br.own_other HOw5.out w.heap.size 0 (.int .i64 nn) (.inl (by omega))) w.heap.size 1 (.slice ao k cap) (.inl (by omega))
              have h2 := h1.hi (hi' := ((w5.setCell ⟨w.heap.size, 0, none⟩ (.int .i64 nn)).setCell ⟨w.heap.size, 1, none⟩ (.slice ao k cap)).heap.size) (by simp; omega) (Nat.le_refl _)
              exact h2.lo (by omega)
            · have HQ := hid (HNe.out hE)
              have hu := rn.bytes_ne hE
              generalize btx nn xs = u at *
              clear hE HEq HNe
              go_wp2_with fail
              refine HBT.out.mono ?_
              rintro e w5 ⟨rfl, hb5⟩
              have hz5 := hb5.size
              have HBx5 := hid (HBx.out.below hb5 (by omega))
              have HB5 := hid (HB.out.trans (hb5.mono (by omega)))
              have d2 := HBx5.out.c0
              have d3 := HBx5.out.c1
              have d4 := HBx5.out.f0
              have d5 := HBx5.out.f1
              clear hb5 HBx HBy HOw HB hb00 hb01 hb02 hb03 hx0 hx1 hx2 hx3
              go_wp2
              obtain ⟨F1, F2⟩ := Bx.fin HBx5.out HB5.out (.int .i64 0) (.slice none 0 0)
              have r0 := F1.c0
              have r1 := F1.c1
              refine bodyPost_ret (v := .tuple #[.agg #[.int .i64 0, .slice none 0 0], .bool false]) (by simp [results, Tryd.results4, go_sem, r0, r1]) rfl ⟨none, 0, by rw [HQ.out.1, HQ.out.2.1, HQ.out.2.2]; rfl, by rw [HQ.out.2.2]; exact (Own.nil _ _), F2⟩
end Go.Proofs.YtbonccflocogbaaDoor.rb
