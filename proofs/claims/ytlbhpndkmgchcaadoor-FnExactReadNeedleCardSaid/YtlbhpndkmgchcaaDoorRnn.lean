/-
  ReadNeedle: contracts of the program and of its model.
-/
import Derived.Test.YtlbhpndkmgchcaaDoorRde
import Derived.Test.YtlbhpndkmgchcaaDoorNText
namespace Go.Proofs.YtlbhpndkmgchcaaDoor.rn
open Go.RowKit

theorem box1 {w w1 : World} {c0 : Array Value} {T0 : TypeId} (h : Below (w.alloc (.cells c0 T0)).heap.size (w.alloc (.cells c0 T0)) w1) :
    (∀ j, w1.cell? ⟨w.heap.size, j, none⟩ = c0[j]? ∧ w1.frozen? ⟨w.heap.size, j, none⟩ = false) ∧ Below w.heap.size w w1 ∧ w.heap.size + 1 ≤ w1.heap.size := by
  have hz := h.size
  simp at hz
  refine ⟨fun j => ⟨(h.cell (p := ⟨w.heap.size, j, none⟩) (by simp)).trans (World.cell?_alloc_at _ _ _ _ rfl), (h.frozen (p := ⟨w.heap.size, j, none⟩) (by simp)).trans (World.frozen?_alloc_at _ _ _ _ rfl)⟩, ?_, by omega⟩
  exact ((Below.refl w.heap.size w).alloc (Nat.le_refl _) _).trans (h.mono (by simp))

def bedC (c : Int) : Int := if c = 102 then 1 else if c = 98 then 2 else 0
def rnOk : List UInt8 → Bool
  | [] => false
  | c :: r => nu.rdOk r && nd.validB (bedC (c.toNat : Int)) (nu.rdN r)
def rnB (l : List UInt8) : Int := if rnOk l = true then (match l with | [] => 0 | c :: _ => bedC (c.toNat : Int)) else 0
def rnA (l : List UInt8) : Int := if rnOk l = true then (match l with | [] => 0 | _ :: r => nu.rdN r) else 0
theorem rn_no {l : List UInt8} (h : rnOk l = false) : rnOk l = false ∧ rnB l = 0 ∧ rnA l = 0 := ⟨h, by simp [rnB, h], by simp [rnA, h]⟩
theorem rn_at (s : ByteArray) (h0 : 0 < s.size) : rnOk s.data.toList = (nu.rdOk (s.extract 1 s.size).data.toList && nd.validB (bedC (s[0].toNat : Int)) (nu.rdN (s.extract 1 s.size).data.toList)) ∧ (rnOk s.data.toList = true → rnB s.data.toList = bedC (s[0].toNat : Int) ∧ rnA s.data.toList = nu.rdN (s.extract 1 s.size).data.toList) := by
  rw [tail_of s h0]
  rcases s with ⟨⟨l⟩⟩
  cases l with
  | nil => simp [ByteArray.size] at h0
  | cons c r => exact ⟨rfl, fun h => ⟨by rw [rnB, if_pos h]; rfl, by rw [rnA, if_pos h]; rfl⟩⟩

theorem bedOf (c : Int) (w : World) : Calls Tryd.prog 18 #[.int .u8 c] w fun e w' => e = .returned (.int .i64 (bedC c)) ∧ w = w' := by
  by_cases h1 : c = 102
  · have hb : (c == 102) = true := beq_iff_eq.2 h1
    go_enter Tryd.func18, Tryd.ntmps18
    go_wp2
    go_ret
    exact ⟨by simp [bedC, h1], rfl⟩
  · have hb : (c == 102) = false := beq_eq_false_iff_ne.2 h1
    by_cases h2 : c = 98
    · have hb2 : (c == 98) = true := beq_iff_eq.2 h2
      go_enter Tryd.func18, Tryd.ntmps18
      go_wp2
      go_ret
      exact ⟨by simp [bedC, h2], rfl⟩
    · have hb2 : (c == 98) = false := beq_eq_false_iff_ne.2 h2
      go_enter Tryd.func18, Tryd.ntmps18
      go_wp2
      go_ret
      exact ⟨by simp [bedC, h1, h2], rfl⟩

set_option maxHeartbeats 1000000 in
theorem implRN (s : ByteArray) (h0 : 0 < s.size) (hs : s.size ≤ 1048576) (w : World) (hT : Lib.TabIs Tryd.prog w "internal/strconv.uint64pow10" .u64 Lib.pow10Tab) (hR : HasErr w "strconv.ErrRange") (hS : HasErr w "strconv.ErrSyntax") :
    Calls Tryd.prog 9 #[.string s] w fun e w' => e = .returned (.tuple #[.agg #[.int .i64 (rnB s.data.toList), .int .i64 (rnA s.data.toList)], .bool (rnOk s.data.toList)]) ∧ Below w.heap.size w w' := by
  have HQ := hid (rn_at s h0)
  have hne : ¬ s.toList = [] := by
    rw [ByteArray.toList_eq]
    intro h
    have := congrArg List.length h
    rw [len_data, List.length_nil] at this
    omega
  have hne' : s.toList.isEmpty = false := by simpa using hne
  obtain ⟨t, ht⟩ : ∃ t, t = s.extract 1 s.size := ⟨_, rfl⟩
  have hts : t.size ≤ 1048576 := by rw [ht]; simp; omega
  rw [← ht] at HQ
  have HT := hid ht.symm
  have bE : Below w.heap.size w (w.alloc (.cells #[.int .i64 0, .int .i64 0] 25)) := (Below.refl _ _).alloc (Nat.le_refl _) _
  have HRd := hid (implRead t hts (w.alloc (.cells #[.int .i64 0, .int .i64 0] 25)) (lt.carry hT bE) (carryR hR bE) (carryS hS bE))
  generalize nu.rdN t.data.toList = n at *
  generalize nu.rdOk t.data.toList = q at *
  clear hT hR hS bE ht
  cases q
  · have HF := hid (rn_no (by rw [HQ.out.1]; rfl))
    go_enter Tryd.func9, Tryd.ntmps9
    go_wp2_with fail
    rw [HT.out]
    refine HRd.out.mono ?_
    rintro e w1 ⟨rfl, b1⟩
    have HB := hid (box1 b1)
    have r0 := (HB.out.1 0).1
    have r1 := (HB.out.1 1).1
    have f0 := (HB.out.1 0).2
    have f1 := (HB.out.1 1).2
    have hz := HB.out.2.2
    simp at r0 r1
    have bA : Below w1.heap.size w1 (w1.alloc (.cells #[.int .i64 (bedC (s[0].toNat : Int)), .int .i64 n] 25)) := (Below.refl _ _).alloc (Nat.le_refl _) _
    have y0 := (bA.cell (p := ⟨w.heap.size, 0, none⟩) (by show w.heap.size < w1.heap.size; omega)).trans r0
    have y1 := (bA.cell (p := ⟨w.heap.size, 1, none⟩) (by show w.heap.size < w1.heap.size; omega)).trans r1
    have g0 := (bA.frozen (p := ⟨w.heap.size, 0, none⟩) (by show w.heap.size < w1.heap.size; omega)).trans f0
    have g1 := (bA.frozen (p := ⟨w.heap.size, 1, none⟩) (by show w.heap.size < w1.heap.size; omega)).trans f1
    have HC := hid (HB.out.2.1.trans (bA.mono (by omega)))
    clear b1 bA
    go_wp2_with (go_at_call 18; refine (bedOf _ _).mono ?_; rintro e w' ⟨rfl, rfl⟩)
    refine bodyPost_ret (v := .tuple #[.agg #[.int .i64 0, .int .i64 0], .bool false]) (by simp [results, Tryd.results9, go_sem, y0, y1]) rfl ⟨by rw [HF.out.1, HF.out.2.1, HF.out.2.2], ?_⟩
    exact (HC.out.setCell (by show w.heap.size ≤ w.heap.size; omega) _).setCell (by show w.heap.size ≤ w.heap.size; omega) _
  · have HV := hid (nd.implValid (bedC (s[0].toNat : Int)) n)
    generalize hvv : nd.validB (bedC (s[0].toNat : Int)) n = vb at *
    clear hvv
    have HVB := hid (show rnOk s.data.toList = vb from by rw [HQ.out.1]; simp)
    cases vb
    all_goals
      go_enter Tryd.func9, Tryd.ntmps9
      go_wp2_with fail
      rw [HT.out]
      refine HRd.out.mono ?_
      rintro e w1 ⟨rfl, b1⟩
      have HB := hid (box1 b1)
      have r0 := (HB.out.1 0).1
      have r1 := (HB.out.1 1).1
      have f0 := (HB.out.1 0).2
      have f1 := (HB.out.1 1).2
      have hz := HB.out.2.2
      simp at r0 r1
      clear b1
      go_wp2_with (first | (go_at_call 18; refine (bedOf _ _).mono ?_; rintro e w' ⟨rfl, rfl⟩) | fail)
      refine (HV.out _).mono ?_
      rintro e w2 ⟨rfl, b2⟩
      have HB2 := hid (box1 b2)
      have k0 := (HB2.out.1 0).1
      have k1 := (HB2.out.1 1).1
      have hz2 := HB2.out.2.2
      simp at k0 k1
      have y0 := (HB2.out.2.1.cell (p := ⟨w.heap.size, 0, none⟩) (by show w.heap.size < w1.heap.size; omega)).trans r0
      have y1 := (HB2.out.2.1.cell (p := ⟨w.heap.size, 1, none⟩) (by show w.heap.size < w1.heap.size; omega)).trans r1
      have g0 := (HB2.out.2.1.frozen (p := ⟨w.heap.size, 0, none⟩) (by show w.heap.size < w1.heap.size; omega)).trans f0
      have g1 := (HB2.out.2.1.frozen (p := ⟨w.heap.size, 1, none⟩) (by show w.heap.size < w1.heap.size; omega)).trans f1
      have HC := hid (HB.out.2.1.trans (HB2.out.2.1.mono (by omega)))
      clear b2 r0 r1 f0 f1
      go_wp2
    · have HF := hid (rn_no HVB.out)
      refine bodyPost_ret (v := .tuple #[.agg #[.int .i64 0, .int .i64 0], .bool false]) (by simp [results, Tryd.results9, go_sem, y0, y1]) rfl ⟨by rw [HF.out.1, HF.out.2.1, HF.out.2.2], ?_⟩
      exact (HC.out.setCell (by show w.heap.size ≤ w.heap.size; omega) _).setCell (by show w.heap.size ≤ w.heap.size; omega) _
    · have HF := hid (HQ.out.2 HVB.out)
      refine bodyPost_ret (v := .tuple #[.agg #[.int .i64 (bedC (s[0].toNat : Int)), .int .i64 n], .bool true]) (by simp [results, Tryd.results9, go_sem, y0, y1]) rfl ⟨by rw [HVB.out, HF.out.1, HF.out.2], ?_⟩
      exact (HC.out.setCell (by show w.heap.size ≤ w.heap.size; omega) _).setCell (by show w.heap.size ≤ w.heap.size; omega) _
end Go.Proofs.YtlbhpndkmgchcaaDoor.rn
