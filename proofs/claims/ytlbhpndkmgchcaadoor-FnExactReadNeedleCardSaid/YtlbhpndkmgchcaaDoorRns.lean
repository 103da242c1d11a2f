/-
  ReadNeedle: the model's contract.
-/
import Derived.Test.YtlbhpndkmgchcaaDoorRnn
namespace Go.Proofs.YtlbhpndkmgchcaaDoor.rn
open Go.RowKit

theorem box2f {w w1 : World} {c0 c1 : Array Value} {T0 T1 : TypeId} (h : Below ((w.alloc (.cells c0 T0)).alloc (.cells c1 T1)).heap.size ((w.alloc (.cells c0 T0)).alloc (.cells c1 T1)) w1) :
    (∀ j, w1.cell? ⟨w.heap.size, j, none⟩ = c0[j]? ∧ w1.frozen? ⟨w.heap.size, j, none⟩ = false) ∧ (∀ j, w1.cell? ⟨w.heap.size + 1, j, none⟩ = c1[j]? ∧ w1.frozen? ⟨w.heap.size + 1, j, none⟩ = false) ∧ Below w.heap.size w w1 ∧ w.heap.size + 2 ≤ w1.heap.size := by
  have h2 := box1 h
  have hz : (w.alloc (.cells c0 T0)).heap.size = w.heap.size + 1 := by simp
  have h1 := box1 (w := w) (w1 := w1) (c0 := c0) (T0 := T0) h2.2.1
  rw [hz] at h2
  exact ⟨h1.1, h2.1, h1.2.1, h2.2.2⟩

theorem one_app (c : UInt8) (l : List UInt8) : nt.one c ++ (⟨l.toArray⟩ : ByteArray) = ⟨(c :: l).toArray⟩ := by
  apply ByteArray.ext
  simp [nt.one]
theorem text_is (s : ByteArray) (h0 : 0 < s.size) (n bed : Int) (hb : bed = if s[0].toNat = 98 then 2 else 1) (hq : nu.rdOk (s.extract 1 s.size).data.toList = true) (hn : n = nu.rdN (s.extract 1 s.size).data.toList) :
    (nd.validB (bedC (s[0].toNat : Int)) n = true → nt.text bed n = s) ∧ (nd.validB (bedC (s[0].toNat : Int)) n = false → ¬ nt.text bed n = s) := by
  rw [tail_of s h0] at hq hn
  rcases s with ⟨⟨l⟩⟩
  cases l with
  | nil => simp [ByteArray.size] at h0
  | cons c r =>
    have hi : Lib.itoa n = r := by
      rw [hn, rd_true_of hq]; exact (nu.rd_parts hq).2.2.1
    have hb' : bed = if c.toNat = 98 then 2 else 1 := hb
    show (nd.validB (bedC (c.toNat : Int)) n = true → nt.text bed n = ⟨(c :: r).toArray⟩) ∧ (nd.validB (bedC (c.toNat : Int)) n = false → ¬ nt.text bed n = ⟨(c :: r).toArray⟩)
    have hx1 : nt.tx 1 n = ⟨(102 :: r).toArray⟩ := by rw [nt.tx_front, nt.num, hi, one_app]
    have hx2 : nt.tx 2 n = ⟨(98 :: r).toArray⟩ := by rw [nt.tx_back _ (by omega), nt.num, hi, one_app]
    have hemp : ¬ ((⟨#[]⟩ : ByteArray) = ⟨(c :: r).toArray⟩) := by intro h; injection h with h; simp at h
    by_cases c1 : c.toNat = 98
    · obtain rfl : c = 98 := UInt8.toNat_inj.1 c1
      have e1 : bed = 2 := by rw [hb', if_pos c1]
      have e2 : bedC (((98 : UInt8).toNat : Nat) : Int) = 2 := by decide
      rw [e1, e2]
      exact ⟨fun h => by rw [nt.text_ok h, hx2], fun h => by rw [nt.text_no h]; exact hemp⟩
    · have e1 : bed = 1 := by rw [hb', if_neg c1]
      by_cases c2 : c.toNat = 102
      · obtain rfl : c = 102 := UInt8.toNat_inj.1 c2
        have e2 : bedC (((102 : UInt8).toNat : Nat) : Int) = 1 := by decide
        rw [e1, e2]
        exact ⟨fun h => by rw [nt.text_ok h, hx1], fun h => by rw [nt.text_no h]; exact hemp⟩
      · have e2 : bedC (c.toNat : Int) = 0 := by rw [bedC, if_neg (by omega), if_neg (by omega)]
        rw [e1, e2]
        refine ⟨fun h => by simp [nd.validB] at h, fun _ h => ?_⟩
        cases hv : nd.validB 1 n
        · rw [nt.text_no hv] at h; exact hemp h
        · rw [nt.text_ok hv, hx1] at h
          injection h with h
          simp at h
          exact c2 (by rw [← h]; rfl)

theorem rn_short (s : ByteArray) (h : s.size < 2) : rnOk s.data.toList = false := by
  rcases s with ⟨⟨l⟩⟩
  match l, h with
  | [], _ => rfl
  | [c], _ =>
    have : nu.rdOk [] = false := rd_len (by simp [nu.rest])
    simp [rnOk, this]
  | c :: d :: r, h => simp [ByteArray.size] at h; omega

set_option maxHeartbeats 1000000 in
theorem specShort (s : ByteArray) (h2 : s.size < 2) (w : World) :
    Calls Tryd.prog 8 #[.string s] w fun e w' => e = .returned (.tuple #[.agg #[.int .i64 (rnB s.data.toList), .int .i64 (rnA s.data.toList)], .bool (rnOk s.data.toList)]) ∧ Below w.heap.size w w' := by
  have HF := hid (rn_no (rn_short s h2))
  have hd : decide ((s.size : Int) < 2) = true := by simp; omega
  go_enter Tryd.func8, Tryd.ntmps8
  go_wp2
  refine bodyPost_ret (v := .tuple #[.agg #[.int .i64 0, .int .i64 0], .bool false]) (by simp [results, Tryd.results8, go_sem]) rfl ⟨by rw [HF.out.1, HF.out.2.1, HF.out.2.2], ?_⟩
  repeat (first | exact Below.refl _ _ | refine Below.setCell ?_ (by simp <;> omega) _ | refine Below.alloc ?_ (by simp <;> omega) _)

theorem bed_one {c n : Int} (h : (c == 98) = false) (hv : nd.validB (bedC c) n = true) : bedC c = 1 := by
  have h2 := beq_eq_false_iff_ne.1 h
  by_cases h1 : c = 102
  · rw [bedC, if_pos h1]
  · rw [bedC, if_neg h1, if_neg h2] at hv; simp [nd.validB] at hv

set_option maxHeartbeats 1000000 in
theorem specOther (s : ByteArray) (h2 : ¬ s.size < 2) (hs : s.size ≤ 1048576) (w : World) (h98 : ¬ s[0].toNat = 98) :
    Calls Tryd.prog 8 #[.string s] w fun e w' => e = .returned (.tuple #[.agg #[.int .i64 (rnB s.data.toList), .int .i64 (rnA s.data.toList)], .bool (rnOk s.data.toList)]) ∧ Below w.heap.size w w' := by
  have h0 : 0 < s.size := by omega
  have hd : decide ((s.size : Int) < 2) = false := by simp; omega
  have hbe : ((s[0].toNat : Int) == 98) = false := beq_eq_false_iff_ne.2 (by omega)
  have HQ := hid (rn_at s h0)
  have HX := hid (fun n hq hn => text_is s h0 n 1 (by rw [if_neg h98]) hq hn)
  obtain ⟨t, ht⟩ : ∃ t, t = s.extract 1 s.size := ⟨_, rfl⟩
  have hts : t.size ≤ 1048576 := by rw [ht]; simp; omega
  rw [← ht] at HQ HX
  have HT := hid ht.symm
  have HSp := hid (specNumber t hts)
  generalize nu.rdN t.data.toList = n at *
  generalize nu.rdOk t.data.toList = q at *
  clear ht h98
  cases q
  · have HF := hid (rn_no (by rw [HQ.out.1]; rfl))
    go_enter Tryd.func8, Tryd.ntmps8
    go_wp2_with fail
    rw [HT.out]
    refine (HSp.out _).mono ?_
    rintro e w1 ⟨rfl, b1⟩
    have HB := hid (box2f b1)
    have r0 := (HB.out.1 0).1
    have r1 := (HB.out.1 1).1
    have f0 := (HB.out.1 0).2
    have f1 := (HB.out.1 1).2
    have k0 := (HB.out.2.1 0).1
    have k1 := (HB.out.2.1 1).1
    have m1 := (HB.out.2.1 1).2
    have hz := HB.out.2.2.2
    have HB1 := hid HB.out.2.2.1
    simp at r0 r1 k0 k1
    clear b1
    go_wp2
    refine bodyPost_ret (v := .tuple #[.agg #[.int .i64 0, .int .i64 0], .bool false]) (by simp [results, Tryd.results8, go_sem, r0, r1]) rfl ⟨by rw [HF.out.1, HF.out.2.1, HF.out.2.2], ?_⟩
    exact ((HB1.out.setCell (by show w.heap.size ≤ w.heap.size + 1; omega) _).setCell (by show w.heap.size ≤ w.heap.size; omega) _).setCell (by show w.heap.size ≤ w.heap.size; omega) _
  · have HX2 := hid (HX.out n rfl rfl)
    have HTx := hid (nt.specNeedleText 1 n)
    go_enter Tryd.func8, Tryd.ntmps8
    go_wp2_with fail
    rw [HT.out]
    refine (HSp.out _).mono ?_
    rintro e w1 ⟨rfl, b1⟩
    have HB := hid (box2f b1)
    have r0 := (HB.out.1 0).1
    have r1 := (HB.out.1 1).1
    have f0 := (HB.out.1 0).2
    have f1 := (HB.out.1 1).2
    have k0 := (HB.out.2.1 0).1
    have k1 := (HB.out.2.1 1).1
    have m1 := (HB.out.2.1 1).2
    have hz := HB.out.2.2.2
    have HB1 := hid HB.out.2.2.1
    simp at r0 r1 k0 k1
    clear b1
    have s0 : (w1.setCell ⟨w.heap.size + 1, 1, none⟩ (.int .i64 n)).cell? ⟨w.heap.size, 0, none⟩ = some (.int .i64 0) := (World.cell?_setCell_other _ _ _ _ (by simp)).trans r0
    have s1 : (w1.setCell ⟨w.heap.size + 1, 1, none⟩ (.int .i64 n)).cell? ⟨w.heap.size, 1, none⟩ = some (.int .i64 0) := (World.cell?_setCell_other _ _ _ _ (by simp)).trans r1
    have l0 : (w1.setCell ⟨w.heap.size + 1, 1, none⟩ (.int .i64 n)).cell? ⟨w.heap.size + 1, 0, none⟩ = some (.int .i64 1) := (World.cell?_setCell_other _ _ _ _ (by simp)).trans k0
    have l1 : (w1.setCell ⟨w.heap.size + 1, 1, none⟩ (.int .i64 n)).cell? ⟨w.heap.size + 1, 1, none⟩ = some (.int .i64 n) := World.cell?_setCell_same _ _ _ k1
    have p0 : (w1.setCell ⟨w.heap.size + 1, 1, none⟩ (.int .i64 n)).frozen? ⟨w.heap.size, 0, none⟩ = false := (World.frozen?_setCell _ _ _ _).trans f0
    have p1 : (w1.setCell ⟨w.heap.size + 1, 1, none⟩ (.int .i64 n)).frozen? ⟨w.heap.size, 1, none⟩ = false := (World.frozen?_setCell _ _ _ _).trans f1
    have hzs : (w1.setCell ⟨w.heap.size + 1, 1, none⟩ (.int .i64 n)).heap.size = w1.heap.size := by simp
    have HB2 : Hid (Below w.heap.size w (w1.setCell ⟨w.heap.size + 1, 1, none⟩ (.int .i64 n))) := hid (HB1.out.setCell (by show w.heap.size ≤ w.heap.size + 1; omega) _)
    go_wp2_with fail
    refine (HTx.out _).mono ?_
    clear k0 k1 r0 r1 f0 f1 m1
    generalize w1.setCell ⟨w.heap.size + 1, 1, none⟩ (.int .i64 n) = w1' at *
    rintro e w2 ⟨rfl, b2⟩
    have y0 := (b2.cell (p := ⟨w.heap.size, 0, none⟩) (by show w.heap.size < w1'.heap.size; omega)).trans s0
    have y1 := (b2.cell (p := ⟨w.heap.size, 1, none⟩) (by show w.heap.size < w1'.heap.size; omega)).trans s1
    have j0 := (b2.cell (p := ⟨w.heap.size + 1, 0, none⟩) (by show w.heap.size + 1 < w1'.heap.size; omega)).trans l0
    have j1 := (b2.cell (p := ⟨w.heap.size + 1, 1, none⟩) (by show w.heap.size + 1 < w1'.heap.size; omega)).trans l1
    have g0 := (b2.frozen (p := ⟨w.heap.size, 0, none⟩) (by show w.heap.size < w1'.heap.size; omega)).trans p0
    have g1 := (b2.frozen (p := ⟨w.heap.size, 1, none⟩) (by show w.heap.size < w1'.heap.size; omega)).trans p1
    have HC := hid (HB2.out.trans (b2.mono (by omega)))
    clear b2 s0 s1 l0 l1 p0 p1
    cases hv : nd.validB (bedC (s[0].toNat : Int)) n
    · have hus1 : ((nt.text 1 n).toList == s.toList) = false := bytes_ne (HX2.out.2 hv)
      have HF := hid (rn_no (by rw [HQ.out.1, hv]; rfl))
      clear hv
      generalize nt.text 1 n = u at *
      go_wp2
      refine bodyPost_ret (v := .tuple #[.agg #[.int .i64 0, .int .i64 0], .bool false]) (by simp [results, Tryd.results8, go_sem, y0, y1]) rfl ⟨by rw [HF.out.1, HF.out.2.1, HF.out.2.2], ?_⟩
      exact (HC.out.setCell (by show w.heap.size ≤ w.heap.size; omega) _).setCell (by show w.heap.size ≤ w.heap.size; omega) _
    · have HS1 := hid (HX2.out.1 hv)
      have hq2 : rnOk s.data.toList = true := by rw [HQ.out.1, hv]; rfl
      have HF := hid (HQ.out.2 hq2)
      have HF2 := hid hq2
      have HBd : Hid (bedC (s[0].toNat : Int) = 1) := hid (bed_one hbe hv)
      clear hv hq2
      rw [HS1.out]
      go_wp2
      refine bodyPost_ret (v := .tuple #[.agg #[.int .i64 1, .int .i64 n], .bool true]) (by simp [results, Tryd.results8, go_sem, y0, y1]) rfl ⟨by rw [HF2.out, HF.out.1, HF.out.2, HBd.out], ?_⟩
      exact (HC.out.setCell (by show w.heap.size ≤ w.heap.size; omega) _).setCell (by show w.heap.size ≤ w.heap.size; omega) _

set_option maxHeartbeats 1000000 in
theorem spec98 (s : ByteArray) (h2 : ¬ s.size < 2) (hs : s.size ≤ 1048576) (w : World) (h98 :  s[0].toNat = 98) :
    Calls Tryd.prog 8 #[.string s] w fun e w' => e = .returned (.tuple #[.agg #[.int .i64 (rnB s.data.toList), .int .i64 (rnA s.data.toList)], .bool (rnOk s.data.toList)]) ∧ Below w.heap.size w w' := by
  have h0 : 0 < s.size := by omega
  have hd : decide ((s.size : Int) < 2) = false := by simp; omega
  have hbe : ((s[0].toNat : Int) == 98) = true := beq_iff_eq.2 (by omega)
  have HQ := hid (rn_at s h0)
  have HX := hid (fun n hq hn => text_is s h0 n 2 (by rw [if_pos h98]) hq hn)
  obtain ⟨t, ht⟩ : ∃ t, t = s.extract 1 s.size := ⟨_, rfl⟩
  have hts : t.size ≤ 1048576 := by rw [ht]; simp; omega
  rw [← ht] at HQ HX
  have HT := hid ht.symm
  have HSp := hid (specNumber t hts)
  generalize nu.rdN t.data.toList = n at *
  generalize nu.rdOk t.data.toList = q at *
  clear ht h98
  cases q
  · have HF := hid (rn_no (by rw [HQ.out.1]; rfl))
    go_enter Tryd.func8, Tryd.ntmps8
    go_wp2_with fail
    rw [HT.out]
    refine (HSp.out _).mono ?_
    rintro e w1 ⟨rfl, b1⟩
    have HB := hid (box2f b1)
    have r0 := (HB.out.1 0).1
    have r1 := (HB.out.1 1).1
    have f0 := (HB.out.1 0).2
    have f1 := (HB.out.1 1).2
    have k0 := (HB.out.2.1 0).1
    have k1 := (HB.out.2.1 1).1
    have m1 := (HB.out.2.1 1).2
    have hz := HB.out.2.2.2
    have HB1 := hid HB.out.2.2.1
    simp at r0 r1 k0 k1
    clear b1
    go_wp2
    refine bodyPost_ret (v := .tuple #[.agg #[.int .i64 0, .int .i64 0], .bool false]) (by simp [results, Tryd.results8, go_sem, r0, r1]) rfl ⟨by rw [HF.out.1, HF.out.2.1, HF.out.2.2], ?_⟩
    exact ((HB1.out.setCell (by show w.heap.size ≤ w.heap.size + 1; omega) _).setCell (by show w.heap.size ≤ w.heap.size; omega) _).setCell (by show w.heap.size ≤ w.heap.size; omega) _
  · have HX2 := hid (HX.out n rfl rfl)
    have HTx := hid (nt.specNeedleText 2 n)
    go_enter Tryd.func8, Tryd.ntmps8
    go_wp2_with fail
    rw [HT.out]
    refine (HSp.out _).mono ?_
    rintro e w1 ⟨rfl, b1⟩
    have HB := hid (box2f b1)
    have r0 := (HB.out.1 0).1
    have r1 := (HB.out.1 1).1
    have f0 := (HB.out.1 0).2
    have f1 := (HB.out.1 1).2
    have k0 := (HB.out.2.1 0).1
    have k1 := (HB.out.2.1 1).1
    have m1 := (HB.out.2.1 1).2
    have hz := HB.out.2.2.2
    have HB1 := hid HB.out.2.2.1
    simp at r0 r1 k0 k1
    clear b1
    have s0 : (w1.setCell ⟨w.heap.size + 1, 1, none⟩ (.int .i64 n)).cell? ⟨w.heap.size, 0, none⟩ = some (.int .i64 0) := (World.cell?_setCell_other _ _ _ _ (by simp)).trans r0
    have s1 : (w1.setCell ⟨w.heap.size + 1, 1, none⟩ (.int .i64 n)).cell? ⟨w.heap.size, 1, none⟩ = some (.int .i64 0) := (World.cell?_setCell_other _ _ _ _ (by simp)).trans r1
    have l0 : (w1.setCell ⟨w.heap.size + 1, 1, none⟩ (.int .i64 n)).cell? ⟨w.heap.size + 1, 0, none⟩ = some (.int .i64 2) := (World.cell?_setCell_other _ _ _ _ (by simp)).trans k0
    have l1 : (w1.setCell ⟨w.heap.size + 1, 1, none⟩ (.int .i64 n)).cell? ⟨w.heap.size + 1, 1, none⟩ = some (.int .i64 n) := World.cell?_setCell_same _ _ _ k1
    have p0 : (w1.setCell ⟨w.heap.size + 1, 1, none⟩ (.int .i64 n)).frozen? ⟨w.heap.size, 0, none⟩ = false := (World.frozen?_setCell _ _ _ _).trans f0
    have p1 : (w1.setCell ⟨w.heap.size + 1, 1, none⟩ (.int .i64 n)).frozen? ⟨w.heap.size, 1, none⟩ = false := (World.frozen?_setCell _ _ _ _).trans f1
    have hzs : (w1.setCell ⟨w.heap.size + 1, 1, none⟩ (.int .i64 n)).heap.size = w1.heap.size := by simp
    have HB2 : Hid (Below w.heap.size w (w1.setCell ⟨w.heap.size + 1, 1, none⟩ (.int .i64 n))) := hid (HB1.out.setCell (by show w.heap.size ≤ w.heap.size + 1; omega) _)
    go_wp2_with fail
    refine (HTx.out _).mono ?_
    clear k0 k1 r0 r1 f0 f1 m1
    generalize w1.setCell ⟨w.heap.size + 1, 1, none⟩ (.int .i64 n) = w1' at *
    rintro e w2 ⟨rfl, b2⟩
    have y0 := (b2.cell (p := ⟨w.heap.size, 0, none⟩) (by show w.heap.size < w1'.heap.size; omega)).trans s0
    have y1 := (b2.cell (p := ⟨w.heap.size, 1, none⟩) (by show w.heap.size < w1'.heap.size; omega)).trans s1
    have j0 := (b2.cell (p := ⟨w.heap.size + 1, 0, none⟩) (by show w.heap.size + 1 < w1'.heap.size; omega)).trans l0
    have j1 := (b2.cell (p := ⟨w.heap.size + 1, 1, none⟩) (by show w.heap.size + 1 < w1'.heap.size; omega)).trans l1
    have g0 := (b2.frozen (p := ⟨w.heap.size, 0, none⟩) (by show w.heap.size < w1'.heap.size; omega)).trans p0
    have g1 := (b2.frozen (p := ⟨w.heap.size, 1, none⟩) (by show w.heap.size < w1'.heap.size; omega)).trans p1
    have HC := hid (HB2.out.trans (b2.mono (by omega)))
    clear b2 s0 s1 l0 l1 p0 p1
    cases hv : nd.validB (bedC (s[0].toNat : Int)) n
    · have hus1 : ((nt.text 2 n).toList == s.toList) = false := bytes_ne (HX2.out.2 hv)
      have HF := hid (rn_no (by rw [HQ.out.1, hv]; rfl))
      clear hv
      generalize nt.text 2 n = u at *
      go_wp2
      refine bodyPost_ret (v := .tuple #[.agg #[.int .i64 0, .int .i64 0], .bool false]) (by simp [results, Tryd.results8, go_sem, y0, y1]) rfl ⟨by rw [HF.out.1, HF.out.2.1, HF.out.2.2], ?_⟩
      exact (HC.out.setCell (by show w.heap.size ≤ w.heap.size; omega) _).setCell (by show w.heap.size ≤ w.heap.size; omega) _
    · have HS1 := hid (HX2.out.1 hv)
      have hq2 : rnOk s.data.toList = true := by rw [HQ.out.1, hv]; rfl
      have HF := hid (HQ.out.2 hq2)
      have HF2 := hid hq2
      have HBd : Hid (bedC (s[0].toNat : Int) = 2) := hid (by rw [bedC, if_neg (by have := beq_iff_eq.1 hbe; omega), if_pos (beq_iff_eq.1 hbe)])
      clear hv hq2
      rw [HS1.out]
      go_wp2
      refine bodyPost_ret (v := .tuple #[.agg #[.int .i64 2, .int .i64 n], .bool true]) (by simp [results, Tryd.results8, go_sem, y0, y1]) rfl ⟨by rw [HF2.out, HF.out.1, HF.out.2, HBd.out], ?_⟩
      exact (HC.out.setCell (by show w.heap.size ≤ w.heap.size; omega) _).setCell (by show w.heap.size ≤ w.heap.size; omega) _

theorem specRN (s : ByteArray) (hs : s.size ≤ 1048576) (w : World) :
    Calls Tryd.prog 8 #[.string s] w fun e w' => e = .returned (.tuple #[.agg #[.int .i64 (rnB s.data.toList), .int .i64 (rnA s.data.toList)], .bool (rnOk s.data.toList)]) ∧ Below w.heap.size w w' := by
  by_cases h2 : s.size < 2
  · exact specShort s h2 w
  · by_cases h : s[0].toNat = 98
    · exact spec98 s h2 hs w h
    · exact specOther s h2 hs w h
end Go.Proofs.YtlbhpndkmgchcaaDoor.rn
