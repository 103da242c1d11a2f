/-
  Contracts of the text form of a needle on both sides.
-/
import Derived.Test.YtlbhpndkmgchcaaDoorLaid
import Derived.Test.YtlbhpndkmgchcaaDoorNeedle
import Derived.Laws.Concat
import Derived.BigQuiet
import Derived.Lib.QuietBelow
namespace Go.Proofs.YtlbhpndkmgchcaaDoor.nt
open Go.RowKit Go.Sort
set_option linter.unusedVariables false

def one (c : UInt8) : ByteArray := ⟨#[c]⟩
def num (t : Int) : ByteArray := ⟨(Lib.itoa t).toArray⟩

theorem num_size (t : Int) (h0 : 0 ≤ t) (h1 : t ≤ 23) : (num t).size ≤ 2 := by
  have h : ∀ k : Fin 24, (Lib.itoa ((k.val : Nat) : Int)).length ≤ 2 := by decide +kernel
  obtain ⟨k, rfl⟩ := Int.eq_ofNat_of_zero_le h0
  have := h ⟨k, by omega⟩
  show (Lib.itoa (k : Int)).toArray.size ≤ 2
  simpa using this

theorem add1 (c : UInt8) (t : Int) (h0 : 0 ≤ t) (h1 : t ≤ 23) (w : World) : (Op.stringOp .add ⟨#[c]⟩ ⟨(Lib.itoa t).toArray⟩).run Tryd.prog w = .ok (.string (one c ++ num t)) w := by
  have := num_size t h0 h1
  have h2 : (one c).size = 1 := rfl
  exact run_string_add_sum w (one c) (num t) (by omega)

def tx (b t : Int) : ByteArray := if b = 1 then one 102 ++ num t else one 98 ++ num t
theorem tx_front (t : Int) : tx 1 t = one 102 ++ num t := by simp [tx]
theorem tx_back {b : Int} (t : Int) (h : ¬b = 1) : tx b t = one 98 ++ num t := by simp [tx, h]
def text (b t : Int) : ByteArray := if nd.validB b t then tx b t else ⟨#[]⟩
theorem text_ok {b t : Int} (h : nd.validB b t = true) : text b t = tx b t := by simp [text, h]
theorem text_no {b t : Int} (h : nd.validB b t = false) : text b t = ⟨#[]⟩ := by simp [text, h]

theorem specText (b t : Int) (w : World) (h0 : 0 ≤ t) (h1 : t ≤ 23) : Calls Tryd.prog 12 #[.agg #[.int .i64 b, .int .i64 t]] w fun e w' => e = .returned (.string (tx b t)) ∧ Below w.heap.size w w' := by
  have hf := add1 102 t h0 h1
  have hb := add1 98 t h0 h1
  by_cases hb1 : b = 1
  · subst hb1
    go_enter Tryd.func12, Tryd.ntmps12
    go_wp2_with fail
    refine (dc.dec _ _ (by omega) (by omega)).mono ?_
    rintro e w1 ⟨rfl, hw⟩
    have hf := hf w1
    go_wp2
    go_ret
    exact ⟨by rw [tx_front]; rfl, ((Below.refl _ _).alloc (Nat.le_refl _) _).trans (hw.mono (by simp))⟩
  · have hbd : (b == 1) = false := by simpa using hb1
    go_enter Tryd.func12, Tryd.ntmps12
    go_wp2_with fail
    refine (dc.dec _ _ (by omega) (by omega)).mono ?_
    rintro e w1 ⟨rfl, hw⟩
    have hb := hb w1
    go_wp2
    go_ret
    exact ⟨by rw [tx_back _ hb1]; rfl, ((Below.refl _ _).alloc (Nat.le_refl _) _).trans (hw.mono (by simp))⟩

theorem valid_range {b t : Int} (h : nd.validB b t = true) : 0 ≤ t ∧ t ≤ 23 := by
  simp [nd.validB] at h; omega

theorem bcell {W w1 : World} (hb : Below W.heap.size W w1) : (∀ b o, b < W.heap.size → w1.cell? ⟨b, o, none⟩ = W.cell? ⟨b, o, none⟩) ∧ (∀ b o, b < W.heap.size → w1.frozen? ⟨b, o, none⟩ = W.frozen? ⟨b, o, none⟩) :=
  ⟨fun b o h => hb.cell (p := ⟨b, o, none⟩) h, fun b o h => hb.frozen (p := ⟨b, o, none⟩) h⟩

theorem specNeedleText (b t : Int) (w : World) : Calls Tryd.prog 5 #[.agg #[.int .i64 b, .int .i64 t]] w fun e w' => e = .returned (.string (text b t)) ∧ Below w.heap.size w w' := by
  cases hv : nd.validB b t
  · go_enter Tryd.func5, Tryd.ntmps5
    go_wp2_with fail
    refine (nd.specNeedle _ _ _).mono ?_
    rw [hv]
    rintro e w1 ⟨rfl, hb1⟩
    go_wp2
    go_ret
    exact ⟨by rw [text_no hv]; rfl, ((Below.refl _ _).alloc (Nat.le_refl _) _).trans (hb1.mono (by simp))⟩
  · obtain ⟨h0, h1⟩ := valid_range hv
    go_enter Tryd.func5, Tryd.ntmps5
    go_wp2_with fail
    refine (nd.specNeedle _ _ _).mono ?_
    rw [hv]
    rintro e w1 ⟨rfl, hb1⟩
    obtain ⟨hc, hf⟩ := bcell hb1
    go_wp2_with fail
    refine (specText _ _ _ h0 h1).mono ?_
    rintro e w2 ⟨rfl, hb2⟩
    go_wp2
    go_ret
    exact ⟨by rw [text_ok hv]; rfl, ((Below.refl _ _).alloc (Nat.le_refl _) _).trans ((hb1.trans (hb2.mono hb1.size)).mono (by simp))⟩

theorem hid' {p : Prop} (h : p) : Hid p := h
def lb (b : Int) : ByteArray := if b = 2 then one 98 else one 102
theorem letterBed (b : Int) (w : World) : Calls Tryd.prog 14 #[.int .i64 b] w fun e w' => e = .returned (.string (lb b)) ∧ Below w.heap.size w w' := by
  by_cases h : b = 2
  · subst h
    go_enter Tryd.func14, Tryd.ntmps14
    go_wp2
    go_ret
    exact ⟨rfl, Below.refl _ _⟩
  · have hb : (b == 2) = false := by simpa using h
    have HQ : Hid (lb b = one 102) := hid' (by simp [lb, h])
    rw [HQ.out]
    clear h
    go_enter Tryd.func14, Tryd.ntmps14
    go_wp2
    go_ret
    exact ⟨rfl, Below.refl _ _⟩
theorem addL (b t : Int) (h0 : 0 ≤ t) (h1 : t ≤ 23) (w : World) : (Op.stringOp .add (lb b) ⟨(Lib.itoa t).toArray⟩).run Tryd.prog w = .ok (.string (lb b ++ num t)) w := by
  unfold lb
  split
  · exact add1 98 t h0 h1 w
  · exact add1 102 t h0 h1 w
theorem tx_letter {b t : Int} (h : nd.validB b t = true) : tx b t = lb b ++ num t := by
  have hb : b = 1 ∨ b = 2 := by simp [nd.validB] at h; omega
  rcases hb with rfl | rfl <;> simp [tx, lb]

theorem implNeedleText (b t : Int) (w : World) (hT : Lib.TabIs Tryd.prog w "internal/strconv.uint64pow10" .u64 Lib.pow10Tab) : Calls Tryd.prog 7 #[.agg #[.int .i64 b, .int .i64 t]] w fun e w' => e = .returned (.string (text b t)) ∧ Below w.heap.size w w' := by
  cases hv : nd.validB b t
  · go_enter Tryd.func7, Tryd.ntmps7
    go_wp2_with fail
    refine (nd.implValid _ _ _).mono ?_
    rw [hv]
    rintro e w1 ⟨rfl, hb1⟩
    go_wp2
    go_ret
    exact ⟨by rw [text_no hv]; rfl, ((Below.refl _ _).alloc (Nat.le_refl _) _).trans (hb1.mono (by simp))⟩
  · obtain ⟨h0, h1⟩ := valid_range hv
    have mixed : Tryd.prog.follows .mixedOrders = true := by kernel_rfl
    have hT0 := hid' hT
    have HD := hid' (fun W (h : Lib.TabIs Tryd.prog W "internal/strconv.uint64pow10" .u64 Lib.pow10Tab) => lt.implDecimal t W (by omega) (by omega) h)
    have HL := hid' (fun W => letterBed b W)
    have HQ : Hid (text b t = lb b ++ num t) := hid' (by rw [text_ok hv]; exact tx_letter hv)
    have hadd := addL b t h0 h1
    have HF := hid' (fun W => hadd W)
    clear hadd
    go_enter Tryd.func7, Tryd.ntmps7
    go_wp2_with fail
    refine (nd.implValid _ _ _).mono ?_
    rw [hv]
    rintro e w1 ⟨rfl, hb1⟩
    have hb1' := ((Below.refl w.heap.size w).alloc (Nat.le_refl _) _).trans (hb1.mono (by simp))
    have hT1 := hid' (lt.carry hT hb1')
    have c0 : w1.cell? ⟨w.heap.size, 0, none⟩ = some (.int .i64 b) := (hb1.cell (p := ⟨w.heap.size, 0, none⟩) (by simp)).trans (World.cell?_alloc_at _ _ _ _ rfl)
    have c1 : w1.cell? ⟨w.heap.size, 1, none⟩ = some (.int .i64 t) := (hb1.cell (p := ⟨w.heap.size, 1, none⟩) (by simp)).trans (World.cell?_alloc_at _ _ _ _ rfl)
    have HB1 := hid' hb1'
    clear hb1 hb1' hT hT0
    have k0 := fun d os => cell_regrown c0 d os
    have k1 := fun d os => cell_regrown c1 d os
    clear c0 c1
    have hadd := HF.out
    go_wp2_with fail
    refine wp_region_quiet_below mixed (by kernel_rfl) ?_
    repeat (go_big_quiet_step ((first | (go_at_call 14; exact Calls.regrown_of (HL.out _)) | (go_at_call 15; exact Calls.regrown_of (HD.out _ (lt.carry hT1.out (below_regrown _ _ _)))))))
    refine wpQuiet_nil ?_
    intro _ hw'
    obtain ⟨⟨nq, osq⟩, hw''⟩ := hw'
    subst hw''
    have HB2 := hid' (HB1.out.trans ((below_regrown w1 nq osq).mono HB1.out.size))
    clear k0 k1
    generalize grow (redrawn w1 nq) osq = W2 at *
    go_wp2
    go_ret
    exact ⟨by rw [HQ.out]; rfl, HB2.out⟩
end Go.Proofs.YtlbhpndkmgchcaaDoor.nt
