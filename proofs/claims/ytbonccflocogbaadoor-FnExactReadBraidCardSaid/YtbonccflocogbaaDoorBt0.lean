/-
  BraidText of both sides.
-/
import Derived.Test.YtbonccflocogbaaDoorLaid
import Derived.Test.YtbonccflocogbaaDoorBv
import Derived.Test.YtbonccflocogbaaDoorL5
import Derived.Test.YtbonccflocogbaaDoorIv
import Derived.Test.YtbonccflocogbaaDoorBld
import Derived.Test.YtbonccflocogbaaDoorShelfSb
import Derived.Laws.Concat
import Derived.Lib.ItoaLen
namespace Go.Proofs.YtbonccflocogbaaDoor.bt
open Go.RowKit Go.Proofs.YtbonccflocogbaaDoor.sl Go.Proofs.YtbonccflocogbaaDoor.br Go.Proofs.YtbonccflocogbaaDoor.bw
set_option linter.unusedVariables false

/-- A letter behind a blank. -/
def ltL (x : Int) : List UInt8 := 32 :: Lib.itoa x
def hdL (s : Int) : List UInt8 := Lib.itoa s ++ [58]
/-- The bytes of a braid's text up to letter i. -/
def btL (s : Int) (xs : List Int) (i : Nat) : List UInt8 := hdL s ++ (xs.take i).flatMap ltL
theorem btL_zero (s : Int) (xs : List Int) : btL s xs 0 = hdL s := by simp [btL]
theorem btL_succ (s : Int) (xs : List Int) (i : Nat) (h : i < xs.length) : btL s xs (i + 1) = btL s xs i ++ ltL (xs.getD i 0) := by
  rw [btL, btL, List.take_add_one, List.flatMap_append, List.append_assoc]
  simp [List.getElem?_eq_getElem h, List.getD]
theorem lt_len {x : Int} (h : -100 ≤ x ∧ x ≤ 100) : (ltL x).length ≤ 22 := by
  have := Lib.itoa_length_le x (by omega) (by omega)
  simp [ltL]; omega
theorem hd_len {s : Int} (h : -100 ≤ s ∧ s ≤ 100) : (hdL s).length ≤ 22 := by
  have := Lib.itoa_length_le s (by omega) (by omega)
  simp [hdL]; omega
theorem bt_len {s : Int} {xs : List Int} (hs : -100 ≤ s ∧ s ≤ 100) (hx : ∀ j, j < xs.length → -100 ≤ xs.getD j 0 ∧ xs.getD j 0 ≤ 100) : ∀ i, i ≤ xs.length → (btL s xs i).length ≤ 22 + 22 * i
  | 0, _ => by rw [btL_zero]; have := hd_len hs; omega
  | i + 1, h => by
    rw [btL_succ s xs i (by omega), List.length_append]
    have h1 := bt_len hs hx i (by omega)
    have h2 := lt_len (hx i (by omega))
    omega
def ba (l : List UInt8) : ByteArray := ⟨l.toArray⟩
theorem ba_size (l : List UInt8) : (ba l).size = l.length := by show l.toArray.size = _; simp
theorem ba_app (a b : List UInt8) : ba a ++ ba b = ba (a ++ b) := by apply ByteArray.ext; simp [ba]
theorem ba_list (l : List UInt8) : (ba l).data.toList = l := by simp [ba]
theorem cat (a b : List UInt8) (h : a.length + b.length ≤ 100000) (w : World) : (Op.stringOp .add (ba a) (ba b)).run Tryd.prog w = .ok (.string (ba (a ++ b))) w := by
  have := run_string_add_sum (P := Tryd.prog) w (ba a) (ba b) (by rw [ba_size, ba_size]; omega)
  rw [ba_app] at this
  exact this
theorem cat1 {s : Int} (h : -100 ≤ s ∧ s ≤ 100) (w : World) : (Op.stringOp .add ⟨(Lib.itoa s).toArray⟩ ⟨#[58]⟩).run Tryd.prog w = .ok (.string (ba (hdL s))) w := by
  have := Lib.itoa_length_le s (by omega) (by omega)
  exact cat (Lib.itoa s) [58] (by simp; omega) w
theorem cat2 {x : Int} (h : -100 ≤ x ∧ x ≤ 100) (w : World) : (Op.stringOp .add ⟨#[32]⟩ ⟨(Lib.itoa x).toArray⟩).run Tryd.prog w = .ok (.string (ba (ltL x))) w := by
  have := Lib.itoa_length_le x (by omega) (by omega)
  exact cat [32] (Lib.itoa x) (by simp; omega) w
/-- The text of a braid. -/
def btx (s : Int) (xs : List Int) : ByteArray := if okB s xs then ba (btL s xs xs.length) else ⟨#[]⟩
theorem btx_no {s : Int} {xs : List Int} (h : okB s xs = false) : btx s xs = ⟨#[]⟩ := by simp [btx, h]
theorem btx_yes {s : Int} {xs : List Int} (h : okB s xs = true) : btx s xs = ba (btL s xs xs.length) := by simp [btx, h]
theorem ok_small {s : Int} {xs : List Int} (h : okB s xs = true) : (-100 ≤ s ∧ s ≤ 100) ∧ xs.length ≤ 40 ∧ ∀ j, j < xs.length → -100 ≤ xs.getD j 0 ∧ xs.getD j 0 ≤ 100 := by
  obtain ⟨h1, h2, h3, h4⟩ := ok_parts h
  exact ⟨by omega, h3, fun j hj => by have := h4 j hj; omega⟩

set_option maxRecDepth 20000 in
set_option maxHeartbeats 2000000 in
theorem specTxt (s : Int) (xs : List Int) (v : Value) (B p : Nat) (w : World) (ha : Ints w B v xs) (hp : p < w.heap.size) (h0 : w.cell? ⟨p, 0, none⟩ = some (.int .i64 s)) (h1 : w.cell? ⟨p, 1, none⟩ = some v) (hs : -100 ≤ s ∧ s ≤ 100) (hn : xs.length ≤ 40) (hx : ∀ j, j < xs.length → -100 ≤ xs.getD j 0 ∧ xs.getD j 0 ≤ 100) :
    Calls Tryd.prog 22 #[.pointer (some ⟨p, 0, none⟩)] w fun e w' => e = .returned (.string (ba (btL s xs xs.length))) ∧ Below w.heap.size w w' := by
  have HA := hid ha
  have HX := hid hx
  have HL := hid (fun i (h : i ≤ xs.length) => bt_len hs hx i h)
  have HSu := hid (fun i (h : i < xs.length) => btL_succ s xs i h)
  have HZ := hid (btL_zero s xs)
  have HD := hid (fun n h0 h1 w => dc.dec n w h0 h1)
  have HH := hid (hd_len hs)
  have HC1 := hid (fun w => cat1 hs w)
  obtain ⟨ao, cap, hv⟩ := ints_val ha
  obtain ⟨n, hnn⟩ : ∃ n, n = xs.length := ⟨_, rfl⟩
  rw [← hnn] at hv hn HX HL HSu ⊢
  have HN := hid hnn
  clear hnn ha hx
  subst hv
  go_enter Tryd.func22, Tryd.ntmps22
  go_wp2_with fail
  refine (HD.out s (by omega) (by omega) _).mono ?_
  rintro e w1 ⟨rfl, b1⟩
  have B1 := hid b1
  have g0 := (b1.cell (p := ⟨p, 0, none⟩) hp).trans h0
  have g1 := (b1.cell (p := ⟨p, 1, none⟩) hp).trans h1
  have hcs := HC1.out w1
  clear b1 HC1
  go_wp2
  go_loopw [3, 4] (fun t i wr => ∃ k : Nat, k ≤ n ∧ i = .int .i64 k ∧ t = .string (ba (btL s xs k)) ∧ Below w.heap.size w wr) (fun _ i _ => n - (intOf i).toNat)
  case atStart => exact ⟨0, Nat.zero_le _, rfl, by rw [HZ.out], B1.out⟩
  case round =>
    obtain ⟨k, hk, rfl, rfl, hbel⟩ := hrel
    have HB := hid hbel
    clear hbel g0 g1 hcs
    have g1 := (HB.out.cell (p := ⟨p, 1, none⟩) hp).trans h1
    by_cases hlt : k < n
    · rcases HA.out with ⟨h0', _⟩ | ⟨hp5, b5, o5, cp5, hv5, hb5, hc5⟩
      · exfalso
        have := HN.out
        rw [h0'] at this
        simp at this
        omega
      rw [← HN.out] at hv5
      simp only [Value.slice.injEq, true_and] at hv5
      obtain ⟨rfl, rfl⟩ := hv5
      have hcell0 := hc5 k (by rw [← HN.out]; exact hlt)
      have hcell := (HB.out.cell (p := ⟨b5, o5 + k, none⟩) (World.block_lt_of_cell? w _ hcell0)).trans hcell0
      have hxk := HX.out k hlt
      have HS := hid (HSu.out k hlt)
      have hl1 := HL.out k hk
      have hl2 := lt_len hxk
      have HC2 := hid (fun w => cat2 hxk w)
      have HC3 := hid (fun w => cat (btL s xs k) (ltL (xs.getD k 0)) (by omega) w)
      clear hcell0 hc5 hp5 hl1 hl2
      generalize xs.getD k 0 = x at *
      rw [← HS.out] at HC3
      generalize btL s xs k = t at *
      obtain ⟨t2, ht2⟩ : ∃ t2, t2 = btL s xs (k + 1) := ⟨_, rfl⟩
      rw [← ht2] at HC3
      have HT2 := hid ht2
      clear ht2
      go_wp2_with fail
      refine (HD.out x (by omega) (by omega) _).mono ?_
      rintro e w2 ⟨rfl, b2⟩
      have HB2 := hid (HB.out.trans (b2.mono HB.out.size))
      have hc2 := HC2.out w2
      have hc3 := HC3.out w2
      clear b2 HC2 HC3
      go_wp2
      go_roundw
      case rel => exact ⟨k + 1, by omega, by go_num, by rw [HT2.out], HB2.out⟩
      case measure => simp [intOf]; omega
    · obtain rfl : k = n := by omega
      go_wp2
      go_ret
      exact ⟨rfl, HB.out⟩

theorem ib_below {T e : TypeId} {B b : Nat} {bs : List Value} {w w' : World} (h : Lib.IsBuilder T e B b bs w) (bw : Below w.heap.size w w') : Lib.IsBuilder T e B b bs w' := by
  have hg : w.grownBy w' none := ⟨bw.os, bw.tape, bw.output, bw.size, fun k hk _ => bw.block k hk⟩
  rcases h with h | h
  · have hl := h.lt
    obtain ⟨hB, v, hb, hown, hne⟩ := h
    exact .inl ⟨hB, v, (bw.block b hl).trans hb, World.ownsRow.kept hown hg (by cases v.ownBlock <;> simp), hne⟩
  · have hl := h.lt
    obtain ⟨hB, v, hb, hown, hne⟩ := h
    exact .inr ⟨hB, v, (bw.block b hl).trans hb, World.ownsRow.kept hown hg (by cases v.ownBlock <;> simp), hne⟩
theorem specBT (s : Int) (xs : List Int) (v : Value) (B : Nat) (w : World) (hc : l5.IntsC w B v xs) (hB : B ≤ w.heap.size) (hq : l5.Small xs) :
    Calls Tryd.prog 11 #[.agg #[.int .i64 s, v]] w fun e w' => e = .returned (.string (btx s xs)) ∧ Below w.heap.size w w' := by
  have ha := hc.ints
  have hb0 := (Below.refl w.heap.size w).alloc (Nat.le_refl _) (.cells #[.int .i64 s, v] 24)
  have hI := ints_al ha (.cells #[.int .i64 s, v] 24)
  have HK := hid (specOkP s xs v B w.heap.size _ hI (by have := hq.len; omega) (World.cell?_alloc_at _ _ _ _ rfl) (World.cell?_alloc_at _ _ _ _ rfl))
  have HT := hid (fun W (b : Below (w.alloc (.cells #[.int .i64 s, v] 24)).heap.size (w.alloc (.cells #[.int .i64 s, v] 24)) W) (h : okB s xs = true) => specTxt s xs v B w.heap.size W (hI.chg (Chg.ofBelow (lo := 0) b) (.inr (Nat.zero_le _))) (by have := b.size; simp at this; omega) ((b.cell (p := ⟨w.heap.size, 0, none⟩) (by simp)).trans (World.cell?_alloc_at _ _ _ _ rfl)) ((b.cell (p := ⟨w.heap.size, 1, none⟩) (by simp)).trans (World.cell?_alloc_at _ _ _ _ rfl)) (ok_small h).1 (ok_small h).2.1 (ok_small h).2.2)
  have HB0 := hid hb0
  obtain ⟨ao, cap, hv⟩ := ints_val ha
  cases hl : okB s xs
  · have HF := hid (btx_no hl)
    rw [hl] at HK
    clear hl ha hc hI HT hb0
    generalize xs.length = n at *
    subst hv
    go_enter Tryd.func11, Tryd.ntmps11
    go_wp2_with fail
    refine HK.out.mono ?_
    rintro e w1 ⟨rfl, q, rfl⟩
    go_wp2
    go_ret
    exact ⟨by rw [HF.out]; rfl, sl.bdrewN HB0.out q⟩
  · have HF := hid (btx_yes hl)
    have HT2 := hid (fun W b => HT.out W b hl)
    rw [hl] at HK
    clear hl ha hc hI HT hb0
    generalize hbt : ba (btL s xs xs.length) = t at *
    clear hbt
    generalize xs.length = n at *
    subst hv
    go_enter Tryd.func11, Tryd.ntmps11
    go_wp2_with fail
    refine HK.out.mono ?_
    rintro e w1 ⟨rfl, q, rfl⟩
    go_wp2_with fail
    refine (HT2.out _ (sl.bdrewN (Below.refl _ _) q)).mono ?_
    rintro e w2 ⟨rfl, b2⟩
    have B2 := hid ((sl.bdrewN HB0.out q).trans (b2.mono (by simp)))
    clear b2
    go_wp2
    go_ret
    exact ⟨by rw [HF.out]; rfl, B2.out⟩

set_option maxRecDepth 20000 in
set_option maxHeartbeats 2000000 in
theorem implBT (s : Int) (xs : List Int) (v : Value) (B : Nat) (w : World) (hc : l5.IntsC w B v xs) (hB : B ≤ w.heap.size) (hq : l5.Small xs) (hT : Lib.TabIs Tryd.prog w "internal/strconv.uint64pow10" .u64 Lib.pow10Tab) :
    Calls Tryd.prog 15 #[.agg #[.int .i64 s, v]] w fun e w' => e = .returned (.string (btx s xs)) ∧ Below w.heap.size w w' := by
  have ha := hc.ints
  have hb0 := (Below.refl w.heap.size w).alloc (Nat.le_refl _) (.cells #[.int .i64 s, v] 24)
  have hI := ints_al ha (.cells #[.int .i64 s, v] 24)
  have HK := hid (implValidB s xs v B _ hI (by simp; omega) (by have := hq.len; omega))
  have HTb := hid hT
  have HB0 := hid hb0
  have HI0 := hid hI
  have HD := hid (fun n h0 h1 w hT => lt.implDecimal n w h0 h1 hT)
  obtain ⟨ao, cap, hv⟩ := ints_val ha
  cases hl : okB s xs
  · have HF := hid (btx_no hl)
    rw [hl] at HK
    clear hl ha hc hI hb0 hT
    generalize xs.length = n at *
    subst hv
    go_enter Tryd.func15, Tryd.ntmps15
    go_wp2_with fail
    refine HK.out.mono ?_
    rintro e w1 ⟨rfl, b1⟩
    have B1 := hid (HB0.out.trans (b1.mono HB0.out.size))
    clear b1
    go_wp2
    go_ret
    exact ⟨by rw [HF.out]; rfl, B1.out⟩
  · have HF := hid (btx_yes hl)
    obtain ⟨hs, hn, hx⟩ := ok_small hl
    rw [hl] at HK
    have HX := hid hx
    have HL := hid (fun i (h : i ≤ xs.length) => bt_len hs hx i h)
    have HSu := hid (fun i (h : i < xs.length) => btL_succ s xs i h)
    have HZ := hid (btL_zero s xs)
    have HC1 := hid (fun w => cat1 hs w)
    have HHl := hid (hd_len hs)
    clear hl ha hc hI hb0 hT hx
    obtain ⟨n, hnn⟩ : ∃ n, n = xs.length := ⟨_, rfl⟩
    rw [← hnn] at hv hn HX HL HSu HF
    have HN := hid hnn
    clear hnn
    subst hv
    go_enter Tryd.func15, Tryd.ntmps15
    go_wp2_with fail
    refine HK.out.mono ?_
    rintro e w1 ⟨rfl, b1⟩
    have B1 := hid (HB0.out.trans (b1.mono HB0.out.size))
    have HI1 := hid (HI0.out.chg (Chg.ofBelow (lo := 0) b1) (.inr (Nat.zero_le _)))
    have g0 : w1.cell? ⟨w.heap.size, 0, none⟩ = some (.int .i64 s) := (b1.cell (p := ⟨w.heap.size, 0, none⟩) (by simp)).trans (World.cell?_alloc_at _ _ _ _ rfl)
    have g1 : w1.cell? ⟨w.heap.size, 1, none⟩ = some (.slice ao n cap) := (b1.cell (p := ⟨w.heap.size, 1, none⟩) (by simp)).trans (World.cell?_alloc_at _ _ _ _ rfl)
    have hz1 : w.heap.size + 1 ≤ w1.heap.size := by have := b1.size; simpa using this
    have HIb := hid (Lib.fresh_isBuilder 56 5 w1)
    have HBb := hid ((Below.refl w1.heap.size w1).alloc (Nat.le_refl _) (.cells #[.pointer none, .slice none 0 0] 56))
    have HTa := hid (lt.carry HTb.out (B1.out.trans (HBb.out.mono (by omega))))
    have g0a : (w1.alloc (.cells #[.pointer none, .slice none 0 0] 56)).cell? ⟨w.heap.size, 1, none⟩ = some (.slice ao n cap) := (HBb.out.cell (p := ⟨w.heap.size, 1, none⟩) (by show w.heap.size < _; omega)).trans g1
    have g00 : (w1.alloc (.cells #[.pointer none, .slice none 0 0] 56)).cell? ⟨w.heap.size, 0, none⟩ = some (.int .i64 s) := (HBb.out.cell (p := ⟨w.heap.size, 0, none⟩) (by show w.heap.size < _; omega)).trans g0
    clear b1 HK
    go_wp2_with fail
    refine (HD.out s (by omega) (by omega) _ HTa.out).mono ?_
    rintro e w2 ⟨rfl, b2⟩
    have hc1 := HC1.out w2
    have HI2 := hid (ib_below HIb.out b2)
    have HB2 := hid (HBb.out.trans (b2.mono (by simp)))
    have g12 := (b2.cell (p := ⟨w.heap.size, 1, none⟩) (by simp; omega)).trans g0a
    clear b2 HIb g0 g1 g0a g00
    go_wp2_with fail
    refine (sb.write w1.heap.size w1.heap.size [] (ba (hdL s)) w2 HI2.out (by have := HHl.out; rw [ba_size]; simp; omega) HB2.out.size).mono ?_
    rintro e w3 ⟨rfl, i3, b3⟩
    have HI3 := hid (show Lib.IsBuilder 56 5 w1.heap.size w1.heap.size (Lib.byteCells (btL s xs 0)) w3 from by
      rw [HZ.out]
      rw [Lib.strCells_eq, ba_list, List.nil_append] at i3
      exact i3)
    have HB3 := hid (HB2.out.trans b3)
    have g13 := (b3.cell (p := ⟨w.heap.size, 1, none⟩) (by show w.heap.size < _; omega)).trans g12
    clear i3 b3 g12 hc1 HC1
    go_wp2
    go_loopw [17] (fun i wr => ∃ k : Nat, k ≤ n ∧ i = .int .i64 k ∧ Lib.IsBuilder 56 5 w1.heap.size w1.heap.size (Lib.byteCells (btL s xs k)) wr ∧ Below w1.heap.size w1 wr) (fun i _ => n - (intOf i).toNat)
    case atStart => exact ⟨0, Nat.zero_le _, rfl, HI3.out, HB3.out⟩
    case round =>
      obtain ⟨k, hk, rfl, hI, hbel⟩ := hrel
      have HIk := hid hI
      have HBw := hid hbel
      have HB := hid (B1.out.trans (hbel.mono (by omega)))
      have hzw := hbel.size
      clear hI hbel HI3 HB3 g13
      have hl1 := HL.out k hk
      by_cases hlt : k < n
      · rcases HI1.out with ⟨h0', _⟩ | ⟨hp5, b5, o5, cp5, hv5, hb5, hc5⟩
        · exfalso
          have := HN.out
          rw [h0'] at this
          simp at this
          omega
        rw [← HN.out] at hv5
        simp only [Value.slice.injEq, true_and] at hv5
        obtain ⟨rfl, rfl⟩ := hv5
        have hcell0 := hc5 k (by rw [← HN.out]; exact hlt)
        have hcell := (HBw.out.cell (p := ⟨b5, o5 + k, none⟩) (World.block_lt_of_cell? w1 _ hcell0)).trans hcell0
        have hxk := HX.out k hlt
        have HS := hid (HSu.out k hlt)
        have hl2 := lt_len hxk
        have HC2 := hid (fun w => cat2 hxk w)
        have HTw := hid (lt.carry HTb.out HB.out)
        clear hcell0 hc5 hp5
        generalize xs.getD k 0 = x at *
        go_wp2_with fail
        refine (HD.out x (by omega) (by omega) _ HTw.out).mono ?_
        rintro e w4 ⟨rfl, b4⟩
        have hc2 := HC2.out w4
        have HI4 := hid (ib_below HIk.out b4)
        have HB4 := hid (HBw.out.trans (b4.mono hzw))
        clear b4 HC2
        go_wp2_with fail
        refine (sb.write w1.heap.size w1.heap.size _ (ba (ltL x)) w4 HI4.out (by rw [Lib.byteCells_length, ba_size]; omega) HB4.out.size).mono ?_
        rintro e w5 ⟨rfl, i5, b5'⟩
        have HI5 := hid (show Lib.IsBuilder 56 5 w1.heap.size w1.heap.size (Lib.byteCells (btL s xs (k + 1))) w5 from by
          rw [HS.out, Lib.byteCells_append]
          rw [Lib.strCells_eq, ba_list] at i5
          exact i5)
        have HB5 := hid (HB4.out.trans b5')
        clear i5 b5' hc2
        go_wp2
        go_roundw
        case rel => exact ⟨k + 1, by omega, by go_num, HI5.out, HB5.out⟩
        case measure => simp [intOf]; omega
      · obtain rfl : k = n := by omega
        go_wp2_with fail
        refine (Tryd.Builder_String_any w1.heap.size w1.heap.size (btL s xs k) wr HIk.out hzw).mono ?_
        rintro e w6 ⟨rfl, b6⟩
        have B6 := hid (B1.out.trans ((HBw.out.trans b6).mono (by omega)))
        have HF2 := HF
        clear b6
        go_wp2
        go_ret
        exact ⟨by rw [HF2.out]; rfl, B6.out⟩
end Go.Proofs.YtbonccflocogbaaDoor.bt
