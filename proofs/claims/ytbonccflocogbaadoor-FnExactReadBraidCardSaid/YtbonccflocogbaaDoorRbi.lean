/-
  ReadBraid: the program's contract.
-/
import Derived.Test.YtbonccflocogbaaDoorRbs
import Derived.Test.YtbonccflocogbaaDoorShelfIx
import Derived.Shelf.RegionOpenPlain
import Derived.Lib.IndexLaws
namespace Go.Proofs.YtbonccflocogbaaDoor.rb
open Go.RowKit Go.Sort Go.Shelf Go.Proofs.YtbonccflocogbaaDoor.sl Go.Proofs.YtbonccflocogbaaDoor.sg Go.Proofs.YtbonccflocogbaaDoor.sp Go.Proofs.YtbonccflocogbaaDoor.bw Go.Proofs.YtbonccflocogbaaDoor.bt Go.Proofs.YtbonccflocogbaaDoor.sw
set_option linter.unusedVariables false
set_option linter.unusedSimpArgs false
set_option maxRecDepth 100000

theorem ix_app (a r : List UInt8) (h : ∀ c ∈ a, c.toNat ≠ 58) : Lib.indexByte (a ++ 58 :: r) 58 = a.length := by
  induction a with
  | nil => rfl
  | cons b a ih =>
    have hb : (b == 58) = false := by
      have := h b (by simp)
      simp only [beq_eq_false_iff_ne, ne_eq]
      rintro rfl
      exact this rfl
    rw [List.cons_append, Lib.indexByte, hb, ih (fun c hc => h c (by simp [hc]))]
    rw [if_neg (by simp), if_neg (by simp)]
    simp
theorem rb_bytes {s : ByteArray} {n : Int} {xs : List Int} (h : RB s n xs) : bts s = Lib.itoa n ++ 58 :: xs.flatMap ltL := by
  have e : bts (ba (btL n xs xs.length)) = hdL n ++ xs.flatMap ltL := by rw [← bt_all]; exact ba_list _
  rw [h.2, e, hdL]; simp
theorem rb_index {s : ByteArray} {n : Int} {xs : List Int} (h : RB s n xs) : Lib.indexByte (bts s) 58 = (Lib.itoa n).length := by
  rw [rb_bytes h]
  exact ix_app _ _ (fun c hc => ((itoa_plain (bt.ok_small h.1).1).1 c hc).2)
theorem cut_none {s : ByteArray} (h : Lib.indexByte (bts s) 58 = -1) : ∀ n xs, ¬ RB s n xs := by
  intro n xs hr
  have := rb_index hr
  omega
theorem rb_cut {s : ByteArray} {n : Int} {xs : List Int} (h : RB s n xs) (i : Nat) (hi : Lib.indexByte (bts s) 58 = i) : bts (s.extract 0 i) = Lib.itoa n ∧ bts (s.extract (i + 1) s.size) = xs.flatMap ltL := by
  have e := rb_index h
  have e2 : i = (Lib.itoa n).length := by omega
  have hb := rb_bytes h
  constructor
  · rw [bts_cut, List.drop_zero, hb, e2, List.take_left']; rfl
  · rw [bts_cut, ← bts_len s, List.take_length, hb, e2]
    rw [show Lib.itoa n ++ 58 :: xs.flatMap ltL = (Lib.itoa n ++ [58]) ++ xs.flatMap ltL by simp]
    exact List.drop_left' (by simp)
/-- The words of a text, as bytes. -/
theorem words_bts (s : ByteArray) : (wordsL s).map bts = (splitL (bts s)).filter (fun l => decide (0 < l.length)) := by
  rw [← parts_split, wordsL, List.map_map, List.filter_map]
  refine congrArg (List.map _) ?_
  refine List.filter_congr (fun x hx => ?_)
  have := parts_in s x hx
  show full x = decide (0 < (bts (s.extract x.1 x.2)).length)
  rw [bts_len, full]
  congr 1
  rw [ByteArray.size_extract, eq_iff_iff]
  omega
theorem rb_words {s : ByteArray} {n : Int} {xs : List Int} (h : RB s n xs) (i : Nat) (hi : Lib.indexByte (bts s) 58 = i) : (wordsL (s.extract (i + 1) s.size)).map bts = xs.map Lib.itoa := by
  rw [words_bts, (rb_cut h i hi).2, splitL, split_words xs (fun x hx c hc => ((itoa_plain (mem_small h.1 x hx)).1 c hc).1)]
  rw [List.nil_append, List.filter_cons_of_neg (by simp), List.filter_eq_self.2]
  intro l hl
  obtain ⟨x, hx, rfl⟩ := List.mem_map.1 hl
  have := (itoa_plain (mem_small h.1 x hx)).2
  simp only [decide_eq_true_eq]
  exact List.length_pos_iff.2 this
theorem im_head {s : ByteArray} (i : Nat) (hi : Lib.indexByte (bts s) 58 = i) (h : nu.rdOk (bts (s.extract 0 i)) = false) : ∀ n xs, ¬ RB s n xs := by
  intro n xs hr
  rw [(rb_cut hr i hi).1, (rd_at (bt.ok_small hr.1).1).1] at h
  cases h
theorem im_word {s : ByteArray} (i : Nat) (hi : Lib.indexByte (bts s) 58 = i) (j : Nat) (hj : j < (wordsL (s.extract (i + 1) s.size)).length) (h : nu.rdOk (bts ((wordsL (s.extract (i + 1) s.size)).getD j ByteArray.empty)) = false) : ∀ n xs, ¬ RB s n xs := by
  intro n xs hr
  have e := rb_words hr i hi
  generalize wordsL (s.extract (i + 1) s.size) = W at *
  have h1 : (W.map bts)[j]? = (xs.map Lib.itoa)[j]? := by rw [e]
  have hl : W.length = xs.length := by have := congrArg List.length e; simpa using this
  rw [List.getElem?_map, List.getElem?_map, List.getElem?_eq_getElem hj, List.getElem?_eq_getElem (by omega)] at h1
  simp only [Option.map_some, Option.some.injEq] at h1
  rw [List.getD_eq_getElem?_getD, List.getElem?_eq_getElem hj, Option.getD_some, h1, (rd_at (mem_small hr.1 _ (List.getElem_mem _))).1] at h
  cases h
/-- The letters among the first k words. -/
def wN (W : List ByteArray) (k : Nat) : List Int := (W.take k).map (fun t => nu.rdN (bts t))
theorem wN_zero (W : List ByteArray) : wN W 0 = [] := by simp [wN]
theorem wN_succ (W : List ByteArray) (k : Nat) (h : k < W.length) : wN W (k + 1) = wN W k ++ [nu.rdN (bts (W.getD k ByteArray.empty))] := by
  rw [wN, List.take_succ_eq_append_getElem h, List.map_append, wN, List.getD_eq_getElem?_getD, List.getElem?_eq_getElem h]; rfl
theorem wN_len (W : List ByteArray) (k : Nat) (h : k ≤ W.length) : (wN W k).length = k := by simp [wN]; omega
theorem im_eq {s : ByteArray} (i : Nat) (hi : Lib.indexByte (bts s) 58 = i) (h0 : 0 < s.size) :
    (btx (nu.rdN (bts (s.extract 0 i))) (wN (wordsL (s.extract (i + 1) s.size)) (wordsL (s.extract (i + 1) s.size)).length) = s → rbQ s = true ∧ rbN s = nu.rdN (bts (s.extract 0 i)) ∧ rbX s = wN (wordsL (s.extract (i + 1) s.size)) (wordsL (s.extract (i + 1) s.size)).length) ∧
    (¬ btx (nu.rdN (bts (s.extract 0 i))) (wN (wordsL (s.extract (i + 1) s.size)) (wordsL (s.extract (i + 1) s.size)).length) = s → rbQ s = false ∧ rbN s = 0 ∧ rbX s = []) := by
  refine ⟨fun h => rb_yes (rb_btx h0 h), fun h => rb_no (fun n xs hr => h ?_)⟩
  have e1 : nu.rdN (bts (s.extract 0 i)) = n := by rw [(rb_cut hr i hi).1, (rd_at (bt.ok_small hr.1).1).2]
  have e2 : wN (wordsL (s.extract (i + 1) s.size)) (wordsL (s.extract (i + 1) s.size)).length = xs := by
    have e := rb_words hr i hi
    rw [wN, List.take_length]
    have : (wordsL (s.extract (i + 1) s.size)).map (fun t => nu.rdN (bts t)) = ((wordsL (s.extract (i + 1) s.size)).map bts).map nu.rdN := by rw [List.map_map]; rfl
    rw [this, e, List.map_map]
    have h3 : ∀ x ∈ xs, (nu.rdN ∘ Lib.itoa) x = id x := fun x hx => (rd_at (mem_small hr.1 x hx)).2
    rw [List.map_congr_left h3, List.map_id]
  rw [e1, e2]
  exact btx_rb hr
theorem words_size (s : ByteArray) (t : ByteArray) (h : t ∈ wordsL s) : t.size ≤ s.size := by
  simp only [wordsL, List.mem_map] at h
  obtain ⟨x, hx, rfl⟩ := h
  have := parts_in s x (List.mem_filter.1 hx).1
  simp [piece]; omega

theorem cutMiss (s : ByteArray) (h : Lib.indexByte (bts s) 58 = -1) (w : World) :
    Calls Tryd.prog 12 #[.string s, .string ⟨#[58]⟩] w fun e w' => e = .returned (.tuple #[.string s, .string ⟨#[]⟩, .bool false]) ∧ ∃ q, w' = w.drewN q := by
  have HI := hid (fun W => Tryd.stringslite_Index_one s 58 W)
  have e : Lib.indexByte s.data.toList 58 = -1 := h
  rw [e] at HI
  clear h e
  have mixed : Tryd.prog.follows .mixedOrders = true := by kernel_rfl
  have HC : Hid (∀ W, Calls Tryd.prog 23 #[.string s, .string ⟨#[58]⟩] W fun e w' => e = .returned (.tuple #[.string s, .string ⟨#[]⟩, .bool false]) ∧ ∃ q, w' = W.drewN q) := hid (fun W => by
    go_enter Tryd.func23, Tryd.ntmps23
    go_wp2_with (go_at_call 34; refine (HI.out _).mono ?_; rintro e w' ⟨rfl, rfl⟩)
    go_ret3
    exact ⟨rfl, 0, rfl⟩)
  go_enter Tryd.func12, Tryd.ntmps12
  go_wp2_with (go_at_call 23; refine (HC.out _).mono ?_; rintro e w' ⟨rfl, q, rfl⟩)
  go_ret3
  exact ⟨rfl, q, rfl⟩
theorem cutHit (s : ByteArray) (i : Nat) (h : Lib.indexByte (bts s) 58 = i) (hi : i + 1 ≤ s.size) (hs : s.size ≤ 1048576) (w : World) :
    Calls Tryd.prog 12 #[.string s, .string ⟨#[58]⟩] w fun e w' => e = .returned (.tuple #[.string (s.extract 0 i), .string (s.extract (i + 1) s.size), .bool true]) ∧ ∃ q, w' = w.drewN q := by
  have HI := hid (fun W => Tryd.stringslite_Index_one s 58 W)
  have e : Lib.indexByte s.data.toList 58 = (i : Int) := h
  rw [e] at HI
  clear h e
  have c1 : (0 : Int) ≤ ↑i := by omega
  have c2 : (↑i : Int) ≤ ↑s.size := by omega
  have c3 : (0 : Int) ≤ ↑i + 1 := by omega
  have c4 : (↑i + 1 : Int) ≤ ↑s.size := by omega
  have mixed : Tryd.prog.follows .mixedOrders = true := by kernel_rfl
  have HC : Hid (∀ W, Calls Tryd.prog 23 #[.string s, .string ⟨#[58]⟩] W fun e w' => e = .returned (.tuple #[.string (s.extract 0 i), .string (s.extract (i + 1) s.size), .bool true]) ∧ ∃ q, w' = W.drewN q) := hid (fun W => by
    go_enter Tryd.func23, Tryd.ntmps23
    go_wp2_with (go_at_call 34; refine (HI.out _).mono ?_; rintro e w' ⟨rfl, rfl⟩)
    go_region_o
    go_wp2
    go_ret3
    exact ⟨rfl, 1, rfl⟩)
  go_enter Tryd.func12, Tryd.ntmps12
  go_wp2_with (go_at_call 23; refine (HC.out _).mono ?_; rintro e w' ⟨rfl, q, rfl⟩)
  go_ret3
  exact ⟨rfl, q, rfl⟩
theorem implRB (s : ByteArray) (w : World) (hs : s.size ≤ 1048576) (hT : Lib.TabIs Tryd.prog w "internal/strconv.uint64pow10" .u64 Lib.pow10Tab) (hR : rn.HasErr w "strconv.ErrRange") (hS : rn.HasErr w "strconv.ErrSyntax") :
    Calls Tryd.prog 5 #[.string s] w fun e w' => ∃ ao cap, e = .returned (.tuple #[.agg #[.int .i64 (rbN s), .slice ao (rbX s).length cap], .bool (rbQ s)]) ∧ Own w' w.heap.size w'.heap.size (.slice ao (rbX s).length cap) (rbX s) ∧ Below w.heap.size w w' := by
  have HRd := hid (fun (t : ByteArray) (h : t.size ≤ 1048576) (W : World) (b : Below w.heap.size w W) => rn.implRead t h W (lt.carry hT b) (rn.carryR hR b) (rn.carryS hS b))
  have HTb := hid hT
  clear hT hR hS
  by_cases hix : Lib.indexByte (bts s) 58 = -1
  · have HQ := hid (rb_no (cut_none hix))
    have HCut := hid (fun W => cutMiss s hix W)
    go_enter Tryd.func5, Tryd.ntmps5
    go_wp2_with fail
    refine (HCut.out _).mono ?_
    rintro e w0 ⟨rfl, hw0⟩
    have hb0 : Below (w.alloc (.cells #[.int .i64 0, .slice none 0 0] 24)).heap.size (w.alloc (.cells #[.int .i64 0, .slice none 0 0] 24)) w0 := by
      obtain ⟨q, rfl⟩ := hw0
      exact sl.bdrewN (Below.refl _ _) q
    have HBx0 := hid ((Bx.laid w (.int .i64 0) (.slice none 0 0)).below hb0 (by simp))
    have HB0 : Hid (Below w.heap.size w w0) := hid (((Below.refl _ _).alloc (Nat.le_refl _) _).trans (hb0.mono (by simp)))
    have hz0 : w.heap.size + 1 ≤ w0.heap.size := by have := hb0.size; simpa using this
    clear hw0 hb0
    go_wp2_with fail
    refine (HRd.out _ (hs) _ HB0.out).mono ?_
    rintro e w1 ⟨rfl, hb1⟩
    have hz1 := hb1.size
    have HBx1 := hid (HBx0.out.below hb1 (by omega))
    have HB1 := hid (HB0.out.trans (hb1.mono (by omega)))
    clear hb1 HBx0 HB0
    have b0 := HBx1.out.c0
    have b1 := HBx1.out.c1
    have b2 := HBx1.out.f0
    have b3 := HBx1.out.f1
    go_wp2
    obtain ⟨F1, F2⟩ := Bx.fin HBx1.out HB1.out (.int .i64 0) (.slice none 0 0)
    have r0 := F1.c0
    have r1 := F1.c1
    refine bodyPost_ret (v := .tuple #[.agg #[.int .i64 0, .slice none 0 0], .bool false]) (by simp [results, Tryd.results5, go_sem, r0, r1]) rfl ⟨none, 0, by rw [HQ.out.1, HQ.out.2.1, HQ.out.2.2]; rfl, by rw [HQ.out.2.2]; exact (Own.nil _ _), F2⟩
  · obtain ⟨i, hi, hil⟩ : ∃ i : Nat, Lib.indexByte (bts s) 58 = i ∧ i + 1 ≤ s.size := by
      have hge := Lib.indexByte_ge (bts s) 58
      obtain ⟨i, hi⟩ : ∃ i : Nat, Lib.indexByte (bts s) 58 = i := ⟨(Lib.indexByte (bts s) 58).toNat, by omega⟩
      refine ⟨i, hi, ?_⟩
      have h := (Lib.indexByte_some hi).1
      have hl : i < (bts s).length := by
        rcases Nat.lt_or_ge i (bts s).length with h2 | h2
        · exact h2
        · rw [List.getElem?_eq_none h2] at h; cases h
      rw [bts_len] at hl
      omega
    have HCut := hid (fun W => cutHit s i hi hil hs W)
    have HHd := hid (im_head i hi)
    have HWd := hid (im_word i hi)
    have HEq := hid (im_eq i hi (by omega))
    have hhs : (s.extract 0 i).size ≤ 1048576 := by simp; omega
    have hts : (s.extract (i + 1) s.size).size ≤ 1048576 := by simp; omega
    have HTs : Hid ((s.extract (i + 1) s.size).size + 1 ≤ 1048576) := hid (by simp; omega)
    generalize s.extract 0 i = hd at *
    generalize s.extract (i + 1) s.size = tl at *
    clear hix hi
    change Hid (nu.rdOk hd.data.toList = false → _) at HHd
    change Hid ((btx (nu.rdN hd.data.toList) _ = s → _ ∧ _ = nu.rdN hd.data.toList ∧ _) ∧ (¬ btx (nu.rdN hd.data.toList) _ = s → _)) at HEq
    go_enter Tryd.func5, Tryd.ntmps5
    go_wp2_with fail
    refine (HCut.out _).mono ?_
    rintro e w0 ⟨rfl, hw0⟩
    have hb0 : Below (w.alloc (.cells #[.int .i64 0, .slice none 0 0] 24)).heap.size (w.alloc (.cells #[.int .i64 0, .slice none 0 0] 24)) w0 := by
      obtain ⟨q, rfl⟩ := hw0
      exact sl.bdrewN (Below.refl _ _) q
    have HBx0 := hid ((Bx.laid w (.int .i64 0) (.slice none 0 0)).below hb0 (by simp))
    have HB0 : Hid (Below w.heap.size w w0) := hid (((Below.refl _ _).alloc (Nat.le_refl _) _).trans (hb0.mono (by simp)))
    have hz0 : w.heap.size + 1 ≤ w0.heap.size := by have := hb0.size; simpa using this
    clear hw0 hb0
    go_wp2_with fail
    refine (HRd.out _ (hhs) _ HB0.out).mono ?_
    rintro e w1 ⟨rfl, hb1⟩
    have hz1 := hb1.size
    have HBx1 := hid (HBx0.out.below hb1 (by omega))
    have HB1 := hid (HB0.out.trans (hb1.mono (by omega)))
    clear hb1 HBx0 HB0
    have b0 := HBx1.out.c0
    have b1 := HBx1.out.c1
    have b2 := HBx1.out.f0
    have b3 := HBx1.out.f1
    cases hok : nu.rdOk hd.data.toList
    · have HQ := hid (rb_no (HHd.out hok))
      clear hok HHd HWd HEq
      go_wp2
      obtain ⟨F1, F2⟩ := Bx.fin HBx1.out HB1.out (.int .i64 0) (.slice none 0 0)
      have r0 := F1.c0
      have r1 := F1.c1
      refine bodyPost_ret (v := .tuple #[.agg #[.int .i64 0, .slice none 0 0], .bool false]) (by simp [results, Tryd.results5, go_sem, r0, r1]) rfl ⟨none, 0, by rw [HQ.out.1, HQ.out.2.1, HQ.out.2.2]; rfl, by rw [HQ.out.2.2]; exact (Own.nil _ _), F2⟩
    · clear hok HHd
      generalize nu.rdN hd.data.toList = nn at *
      go_wp2_with fail
      refine (implSW tl _ hts).mono ?_
      rintro e w2 ⟨v2, rfl, ho2, hb2⟩
      have hz2 : w1.heap.size + 1 ≤ w2.heap.size := by have := hb2.size; simpa using this
      have HSo2 : Hid (SOwn w2 (w1.heap.size + 1) w2.heap.size v2 (wordsL tl)) := hid (by simpa using ho2)
      have HBx2 := hid ((HBx1.out.below ((Below.refl w1.heap.size w1).alloc (Nat.le_refl _) (.cells #[.int .i64 nn, .slice none 0 0] 24)) (by omega)).below hb2 (by simp; omega))
      have HBy2 := hid ((Bx.laid w1 (.int .i64 nn) (.slice none 0 0)).below hb2 (by simp))
      have HB2 := hid ((HB1.out.trans ((Below.refl w.heap.size w1).alloc (by omega) (.cells #[.int .i64 nn, .slice none 0 0] 24))).trans (hb2.mono (by simp; omega)))
      have HOw2 : Hid (Own w2 w2.heap.size w2.heap.size (.slice none 0 0) (wN (wordsL tl) 0)) := hid (by rw [wN_zero]; exact Own.nil _ _)
      obtain ⟨ao2, cap2, rfl⟩ := ho2.val
      have hwl := words_len tl
      have HWs := hid (fun k (h : k < (wordsL tl).length) => (show ((wordsL tl).getD k ByteArray.empty).size ≤ 1048576 from by
        have := words_size tl _ (show (wordsL tl).getD k ByteArray.empty ∈ wordsL tl by rw [List.getD_eq_getElem?_getD, List.getElem?_eq_getElem h]; exact List.getElem_mem _)
        omega))
      have HSu := hid (wN_succ (wordsL tl))
      have HLn := hid (wN_len (wordsL tl))
      clear ho2 hb2 HBx1 HB1 b0 b1 b2 b3
      generalize wordsL tl = W at *
      obtain ⟨n, hn⟩ : ∃ n, n = W.length := ⟨_, rfl⟩
      rw [← hn] at HSo2 HLn HSu HWs HWd HEq hwl ⊢
      have HGet : Hid (∀ X, SOwn X (w1.heap.size + 1) w2.heap.size (.slice ao2 n cap2) W → ∀ j, j < n → ∃ g, ao2 = some ⟨g, 0, none⟩ ∧ X.cell? ⟨g, j, none⟩ = some (.string (W.getD j ByteArray.empty))) := hid (fun X o j hj => by
        have o1 := o.1
        rw [← hn] at o1
        rcases o1.2 with ⟨_, h0⟩ | ⟨g, cap, cur, hv, _⟩
        · omega
        · cases hv
          refine ⟨g, rfl, ?_⟩
          rw [o1.cellAt j (by omega)]
          simp [List.getD_eq_getElem?_getD, List.getElem?_eq_getElem (show j < W.length by omega)])
      clear hn
      go_wp2
      go_loopw [37] (fun i wr => ∃ (k : Nat) (z : Value), k ≤ n ∧ i = .int .i64 (k : Int) ∧ SOwn wr (w1.heap.size + 1) w2.heap.size (.slice ao2 n cap2) W ∧ Bx wr w.heap.size (.int .i64 0) (.slice none 0 0) ∧ Bx wr w1.heap.size (.int .i64 nn) z ∧ Own wr w2.heap.size wr.heap.size z (wN W k) ∧ Below w.heap.size w wr ∧ w2.heap.size ≤ wr.heap.size) (fun i _ => n - (intOf i).toNat)
      case atStart => exact ⟨0, _, Nat.zero_le _, rfl, HSo2.out, HBx2.out, HBy2.out, HOw2.out, HB2.out, Nat.le_refl _⟩
      case round =>
        obtain ⟨k, z, hk, rfl, hso, hbx, hby, how, hbw, hzw⟩ := hrel
        obtain ⟨ao, cap, rfl⟩ : ∃ ao cap, z = .slice ao k cap := by
          obtain ⟨ao, cap, hv⟩ := br.own_val how
          rw [HLn.out k hk] at hv
          exact ⟨ao, cap, hv⟩
        have HSo := hid hso
        have HBx := hid hbx
        have HBy := hid hby
        have HOw := hid how
        have HB := hid hbw
        have hb00 := hby.c0
        have hb01 := hby.c1
        have hb02 := hby.f0
        have hb03 := hby.f1
        have hx0 := HBx.out.c0
        have hx1 := HBx.out.c1
        have hx2 := HBx.out.f0
        have hx3 := HBx.out.f1
        clear hso hbx hby how hbw HSo2 HBx2 HBy2 HB2 HOw2
        by_cases hlt : k < n
        · obtain ⟨g, hao, hc0⟩ := HGet.out wr HSo.out k hlt
          subst hao
          have HNm := hid (HRd.out (W.getD k ByteArray.empty) (HWs.out k hlt) wr HB.out)
          have HNo := hid (fun h => HWd.out k hlt h)
          have HS1 := hid (HSu.out k hlt)
          change Hid (nu.rdOk (W.getD k ByteArray.empty).data.toList = false → _) at HNo
          change Hid (_ = wN W k ++ [nu.rdN (W.getD k ByteArray.empty).data.toList]) at HS1
          have hl9 : (wN W k ++ [nu.rdN (W.getD k ByteArray.empty).data.toList]).length = k + 1 := by rw [List.length_append, HLn.out k hk]; rfl
          generalize nu.rdOk (W.getD k ByteArray.empty).data.toList = ok at *
          generalize nu.rdN (W.getD k ByteArray.empty).data.toList = x at *
          generalize W.getD k ByteArray.empty = t9 at *
          have hlk := HLn.out k hk
          go_wp2_with fail
          refine HNm.out.mono ?_
          rintro e w4 ⟨rfl, hb4⟩
          have hz4 := hb4.size
          have HSo4 := hid (HSo.out.below hb4)
          have HBx4 := hid (HBx.out.below hb4 (by omega))
          have HBy4 := hid (HBy.out.below hb4 (by omega))
          have HOw4 := hid (HOw.out.chg (Chg.ofBelow (lo := 0) hb4) (.inr (.inr (Nat.zero_le _))))
          have HB4 := hid (HB.out.trans (hb4.mono (by omega)))
          have d0 := HBy4.out.c0
          have d1 := HBy4.out.c1
          have d2 := HBy4.out.f0
          have d3 := HBy4.out.f1
          have d4 := HBx4.out.c0
          have d5 := HBx4.out.c1
          have d6 := HBx4.out.f0
          have d7 := HBx4.out.f1
          clear hb4 HSo HBx HBy HOw HB hb00 hb01 hb02 hb03 hx0 hx1 hx2 hx3 hc0 HNm
          cases ok
          · have HQ := hid (rb_no (HNo.out rfl))
            go_wp2
            obtain ⟨F1, F2⟩ := Bx.fin HBx4.out HB4.out (.int .i64 0) (.slice none 0 0)
            have r0 := F1.c0
            have r1 := F1.c1
            refine bodyPost_ret (v := .tuple #[.agg #[.int .i64 0, .slice none 0 0], .bool false]) (by simp [results, Tryd.results5, go_sem, r0, r1]) rfl ⟨none, 0, by rw [HQ.out.1, HQ.out.2.1, HQ.out.2.2]; rfl, by rw [HQ.out.2.2]; exact (Own.nil _ _), F2⟩
          · clear d4 d5 d6 d7 HNo
            go_wp2_with (at_builtin; refine wp_append rfl _ _ rfl w2.heap.size _ _ _ _ HOw4.out rfl rfl (by omega) (by rw [hlk]; omega) ?_; intro v9 w9 ho9 hc9 hz9; obtain ⟨a9, c9, hv9⟩ := br.own_val ho9; rw [hl9] at hv9; subst hv9; have HO9 := hid ho9; have HSo9 := hid (HSo4.out.chg hc9 (.inl (by omega))); have HBx9 := hid (HBx4.out.chg hc9 (by omega) (by omega)); have HBy9 := hid (HBy4.out.chg hc9 (by omega) (by omega)); have HB9 := hid (HB4.out.trans (hc9.below (by omega) (by omega))); have e1 := HBy9.out.c1; have e3 := HBy9.out.f1; clear ho9 hc9)
            go_roundw
            case rel =>
              refine ⟨k + 1, _, by omega, by go_num, HSo9.out.chg (br.chg_set _ _ _ _) (.inr (.inl (by omega))), HBx9.out.chg (br.chg_set _ _ _ _) (by omega) (by omega), HBy9.out.set1 _, ?_, HB9.out.setCell (show w.heap.size ≤ w1.heap.size by omega) _, by simp; omega⟩
              have h := br.own_other HO9.out w1.heap.size 1 (.slice a9 (k + 1) c9) (.inl (by omega))
              rw [HS1.out]
              simpa using h
            case measure => simp [intOf]; omega
        · obtain rfl : n = k := by omega
          have HLk : Hid ((wN W n).length = n) := hid (HLn.out n (Nat.le_refl _))
          have HBT := hid (implBT nn (wN W n) (.slice ao n cap) wr.heap.size wr HOw.out.c (Nat.le_refl _) ⟨by have := HLk.out; have := HTs.out; omega⟩ (lt.carry HTb.out HB.out))
          clear HGet HLn HSu HWs HSo HWd HRd HTb
          generalize wN W n = xs at *
          by_cases hE : btx nn xs = s
          · have HQ := hid (HEq.out.1 hE)
            rw [hE] at HBT
            clear hE HEq
            go_wp2_with fail
            refine HBT.out.mono ?_
            rintro e w5 ⟨rfl, hb5⟩
            have hz5 := hb5.size
            have HBx5 := hid (HBx.out.below hb5 (by omega))
            have HBy5 := hid (HBy.out.below hb5 (by omega))
            have HOw5 := hid (HOw.out.chg (Chg.ofBelow (lo := 0) hb5) (.inr (.inr (Nat.zero_le _))))
            have HB5 := hid (HB.out.trans (hb5.mono (by omega)))
            have d0 := HBy5.out.c0
            have d1 := HBy5.out.c1
            have d2 := HBx5.out.c0
            have d3 := HBx5.out.c1
            have d4 := HBx5.out.f0
            have d5 := HBx5.out.f1
            clear hb5 HBx HBy HOw HB hb00 hb01 hb02 hb03 hx0 hx1 hx2 hx3
            go_wp2
            obtain ⟨F1, F2⟩ := Bx.fin HBx5.out HB5.out (.int .i64 nn) (.slice ao n cap)
            have r0 := F1.c0
            have r1 := F1.c1
            refine bodyPost_ret (v := .tuple #[.agg #[.int .i64 nn, .slice ao n cap], .bool true]) (by simp [results, Tryd.results5, go_sem, r0, r1]) rfl ⟨ao, cap, by rw [HQ.out.1, HQ.out.2.1, HQ.out.2.2, HLk.out], ?_, F2⟩
            rw [HQ.out.2.2, HLk.out]
            have h1 := br.own_other (br.own_other HOw5.out w.heap.size 0 (.int .i64 nn) (.inl (by omega))) w.heap.size 1 (.slice ao n cap) (.inl (by omega))
            have h2 := h1.hi (hi' := ((w5.setCell ⟨w.heap.size, 0, none⟩ (.int .i64 nn)).setCell ⟨w.heap.size, 1, none⟩ (.slice ao n cap)).heap.size) (by simp; omega) (Nat.le_refl _)
            exact h2.lo (by omega)
          · have HQ := hid (HEq.out.2 hE)
            have hu := rn.bytes_ne hE
            generalize btx nn xs = u at *
            clear hE HEq
            go_wp2_with fail
            refine HBT.out.mono ?_
            rintro e w5 ⟨rfl, hb5⟩
            have hz5 := hb5.size
            have HBx5 := hid (HBx.out.below hb5 (by omega))
            have HB5 := hid (HB.out.trans (hb5.mono (by omega)))
            have d2 := HBx5.out.c0
            have d3 := HBx5.out.c1
            have d4 := HBx5.out.f0
            have d5 := HBx5.out.f1
            clear hb5 HBx HBy HOw HB hb00 hb01 hb02 hb03 hx0 hx1 hx2 hx3
            go_wp2
            obtain ⟨F1, F2⟩ := Bx.fin HBx5.out HB5.out (.int .i64 0) (.slice none 0 0)
            have r0 := F1.c0
            have r1 := F1.c1
            refine bodyPost_ret (v := .tuple #[.agg #[.int .i64 0, .slice none 0 0], .bool false]) (by simp [results, Tryd.results5, go_sem, r0, r1]) rfl ⟨none, 0, by rw [HQ.out.1, HQ.out.2.1, HQ.out.2.2]; rfl, by rw [HQ.out.2.2]; exact (Own.nil _ _), F2⟩
end Go.Proofs.YtbonccflocogbaaDoor.rb
